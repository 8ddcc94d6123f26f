/-
  Merged for a claim: S1G.
-/
import Derived.Test.YtcgohlooelojfaaJS1E
import Derived.Test.YtcgohlooelojfaaJS1F
namespace Go.Proofs.Ytcgohlooelojfaa
open Go Go.RowKit

theorem exsD_max : ∀ (l : List Ex) (m : Nat), decide (m < exsD l) = l.any fun x => decide (m < x.dp)
  | [], m => by simp [exsD]
  | x :: l, m => by
    rw [List.any_cons, ← exsD_max l m, exsD]
    by_cases h1 : m < x.dp <;> by_cases h2 : m < exsD l <;> simp [h1, h2] <;> omega
theorem stsD_max : ∀ (l : List St) (m : Nat), decide (m < stsD l) = l.any fun x => decide (m < x.dp)
  | [], m => by simp [stsD]
  | x :: l, m => by
    rw [List.any_cons, ← stsD_max l m, stsD]
    by_cases h1 : m < x.dp <;> by_cases h2 : m < stsD l <;> simp [h1, h2] <;> omega
theorem exsF_get : ∀ {l : List Ex}, exsF l → l.length ≤ mostT ∧ ∀ x ∈ l, x.few
  | [], _ => ⟨by simp, fun _ q => absurd q (by simp)⟩
  | x :: l, h => by
    rw [exsF] at h
    exact ⟨by rw [List.length_cons]; exact h.1, fun y q => (List.mem_cons.1 q).elim (fun e => by rw [e]; exact h.2.1) ((exsF_get h.2.2).2 y)⟩
theorem stsF_get : ∀ {l : List St}, stsF l → l.length ≤ mostT ∧ ∀ x ∈ l, x.few
  | [], _ => ⟨by simp, fun _ q => absurd q (by simp)⟩
  | x :: l, h => by
    rw [stsF] at h
    exact ⟨by rw [List.length_cons]; exact h.1, fun y q => (List.mem_cons.1 q).elim (fun e => by rw [e]; exact h.2.1) ((stsF_get h.2.2).2 y)⟩
theorem xsOk_all {w : World} {P : Nat → Prop} : ∀ {l : List XT}, xsOk w P l → ∀ x ∈ l, x.Ok w P
  | [], _, _, q => absurd q (by simp)
  | y :: l, h, x, q => by
    rw [xsOk] at h
    rcases List.mem_cons.1 q with rfl | q
    · exact h.1
    · exact xsOk_all h.2 x q
theorem any_take {α : Type} (p : α → Bool) : ∀ (l : List α) (k : Nat), (∀ j (hj : j < l.length), j < k → p l[j] = false) → l.length ≤ k → l.any p = false
  | [], _, _, _ => rfl
  | x :: l, 0, _, h => absurd h (by simp)
  | x :: l, k + 1, h, hk => by
    have h0 : p x = false := h 0 (by simp) (by omega)
    rw [List.any_cons, h0, any_take p l k (fun j hj hjk => h (j + 1) (by simpa using hj) (by omega)) (by simpa using hk)]
    rfl
theorem any_at {α : Type} (p : α → Bool) {l : List α} {k : Nat} (hk : k < l.length) (h : p l[k] = true) : l.any p = true := List.any_eq_true.2 ⟨l[k], List.getElem_mem hk, h⟩
set_option maxRecDepth 100000 in
set_option maxHeartbeats 4000000 in
theorem deepKids_any (P : Nat → Prop) : ∀ (M : Nat) (A : Option Addr) (c : Nat) (ks : List XT) (W : World), M ≤ 40 → RowP eX W P A c ks → xsOk W P ks → exsF (xsd ks) →
    Calls Try.prog 66 #[.slice A ks.length c, .int .i64 M] W (fun e w' => e = .returned (.bool (decide (M < exsD (xsd ks)))) ∧ Below W.heap.size W w')
  | M, A, c, ks, W, hM, hR, hO, hF => by
    have HIH : ∀ m, m + 1 = M → ∀ (A : Option Addr) (c : Nat) (ks : List XT) (W : World), RowP eX W P A c ks → xsOk W P ks → exsF (xsd ks) →
      Calls Try.prog 66 #[.slice A ks.length c, .int .i64 m] W (fun e w' => e = .returned (.bool (decide (m < exsD (xsd ks)))) ∧ Below W.heap.size W w') := fun m hm A c ks W h1 h2 h3 => deepKids_any P m A c ks W (by omega) h1 h2 h3
    have hks : ks.length ≤ 1000000 := by have := (exsF_get hF).1; rw [xsd_map, List.length_map] at this; exact this
    obtain ⟨r, hr⟩ : ∃ r, decide (M < exsD (xsd ks)) = r := ⟨_, rfl⟩
    rw [hr]
    have HR := Lib.hid (show r = ks.any fun x => decide (M < x.d.dp) by rw [← hr, exsD_max, xsd_map, List.any_map]; rfl)
    have HRow := Lib.hid hR
    have HO := Lib.hid hO
    have HF := Lib.hid hF
    clear hr hR hO hF
    go_enter Try.func66, Try.ntmps66
    go_wp2_with fail
    go_loopw [9] (fun i wr => ∃ k : Nat, k ≤ ks.length ∧ i = .int .i64 k ∧ Hid (∀ j (hj : j < ks.length), j < k → decide (M < ks[j].d.dp) = false) ∧ Hid (Below W.heap.size W wr)) (fun i _ => ks.length - (intOf i).toNat)
    case atStart => exact ⟨0, by omega, rfl, fun j _ h => absurd h (by omega), Below.refl _ _⟩
    case round =>
      obtain ⟨k, hk, rfl, hno, hB⟩ := hrel
      by_cases hlt : k < ks.length
      · have hRw := HRow.out.keep (w' := wr) (Q := P) (fun g _ ht => hB.out.block g ht.lt) (fun _ q => q)
        obtain ⟨g, o, rfl, hg, hcell⟩ := hRw.1.lies.at_ hlt
        have hko := xsOk_all HO.out _ (List.getElem_mem hlt)
        have hfe := (exsF_get HF.out).2 ks[k].d (by rw [xsd_map]; exact List.mem_map.2 ⟨_, List.getElem_mem hlt, rfl⟩)
        have HK := Lib.hid (show ∀ b, decide (M < ks[k].d.dp) = b → (b = true → r = true) ∧ (b = false → ∀ j (hj : j < ks.length), j < k + 1 → decide (M < ks[j].d.dp) = false) from fun b hb => ⟨fun e => by rw [HR.out]; exact any_at _ hlt (hb.trans e), fun e j hj hjk => by
          by_cases hjk2 : j < k
          · exact hno.out j hj hjk2
          · obtain rfl : j = k := by omega
            exact hb.trans e⟩)
        generalize ks[k] = t at *
        obtain ⟨kd, nu, nm, fl, op, kA, kc, kk⟩ := t
        have d0 := hcell 0 _ rfl
        have d1 := hcell 1 _ rfl
        have d2 := hcell 2 _ rfl
        have d3 := hcell 3 _ rfl
        have d4 := hcell 4 _ rfl
        have d5 := hcell 5 _ rfl
        simp only [Nat.add_zero, show eX.sz = 6 from rfl] at d0 d1 d2 d3 d4 d5
        rw [XT.Ok] at hko
        rw [XT.d] at hfe HK
        rw [Ex.few] at hfe
        have hbb := below_lnew wr (.cells #[.int .u8 kd, .int .i64 nu, .string (str nm), .string (str fl), .string (str op), .slice kA kk.length kc] 55)
        have HBB := Lib.hid (hB.out.trans (hbb.mono hB.out.size))
        have hnew := heap_alloc_new wr (.cells #[.int .u8 kd, .int .i64 nu, .string (str nm), .string (str fl), .string (str op), .slice kA kk.length kc] 55)
        have HKO := Lib.hid hko
        have HFE := Lib.hid hfe
        rw [Ex.dp] at HK
        clear hcell hko hfe hno hbb hRw
        by_cases hM0 : M = 0
        · subst hM0
          have hT := (HK.out true (decide_eq_true (Nat.succ_pos _))).1 rfl
          go_wp2_with fail
          go_ret
          exact ⟨by rw [hT]; rfl, HBB.out⟩
        · obtain ⟨m, hm⟩ : ∃ m, m + 1 = M := ⟨M - 1, by omega⟩
          have HC := Lib.hid (HIH m hm kA kc kk (wr.alloc (.cells #[.int .u8 kd, .int .i64 nu, .string (str nm), .string (str fl), .string (str op), .slice kA kk.length kc] 55)) (RowP.keep HKO.out.1 (fun g _ ht => HBB.out.block g ht.lt) (fun _ q => q)) (xsOk.keep (fun g _ ht => HBB.out.block g ht.lt) (fun _ q => q) _ HKO.out.2) HFE.out)
          have hMi : ¬ (M : Int) = 0 := by omega
          have hMw : IntKind.i64.wrap ((M : Int) - 1) = (m : Int) := by rw [IntKind.wrap_i64]; omega
          have HD := Lib.hid (show decide (M < exsD (xsd kk) + 1) = decide (m < exsD (xsd kk)) by
            by_cases h : m < exsD (xsd kk)
            · rw [decide_eq_true h, decide_eq_true (by omega)]
            · rw [decide_eq_false h, decide_eq_false (by omega)])
          rw [HD.out] at HK
          clear hM0 hm HIH HKO HFE HRow HO HF HD
          generalize decide (m < exsD (xsd kk)) = b at *
          have HK2 := Lib.hid (HK.out b rfl)
          clear HK
          go_wp2_with fail
          refine HC.out.mono ?_
          rintro e w2 ⟨rfl, hb2⟩
          have HB2 := Lib.hid (HBB.out.trans (hb2.mono HBB.out.size))
          clear hb2 HC
          cases b
          · have HN := Lib.hid (HK2.out.2 rfl)
            go_wp2_with fail
            go_roundw
            case rel => exact ⟨k + 1, by omega, by go_num, HN, HB2⟩
            case measure => simp [intOf]; omega
          · have hT := HK2.out.1 rfl
            go_wp2_with fail
            go_ret
            exact ⟨by rw [hT]; rfl, HB2.out⟩
      · obtain rfl : k = ks.length := by omega
        have hT : r = false := by
          rw [HR.out]
          exact any_take _ ks ks.length (fun j hj hjk => hno.out j hj hjk) (Nat.le_refl _)
        go_wp2_with fail
        go_ret
        exact ⟨by rw [hT]; rfl, hB.out⟩
theorem St.dp_eq {M m : Nat} (hm : m + 1 = M) (hM : M ≤ 40) (kd ln : Int) (nm fl cl : List UInt8) (ty : Ty) (ks : List Ex) (bd el : List St) :
    decide (M < (St.mk kd ln nm fl cl ty ks bd el).dp) = (decide (40 < exsD ks) || decide (m < stsD bd) || decide (m < stsD el)) := by
  rw [St.dp]
  by_cases h : 40 < exsD ks
  · rw [if_pos h, decide_eq_true h, decide_eq_true (by omega)]
    rfl
  · rw [if_neg h, decide_eq_false h]
    by_cases h1 : m < stsD bd <;> by_cases h2 : m < stsD el <;> simp [h1, h2] <;> omega
theorem St.dp_pos (s : St) : 0 < s.dp := by
  obtain ⟨kd, ln, nm, fl, cl, ty, ks, bd, el⟩ := s
  rw [St.dp]
  split <;> omega
set_option maxRecDepth 100000 in
set_option maxHeartbeats 8000000 in
theorem deepList_any (P : Nat → Prop) : ∀ (M : Nat) (A : Option Addr) (c : Nat) (ks : List XS) (W : World), M ≤ 40 → RowP eSt W P A c ks → xssOk W P ks → stsF (xssd ks) →
    Calls Try.prog 40 #[.slice A ks.length c, .int .i64 M] W (fun e w' => e = .returned (.bool (decide (M < stsD (xssd ks)))) ∧ Below W.heap.size W w')
  | M, A, c, ks, W, hM, hR, hO, hF => by
    have HIH : ∀ m, m + 1 = M → ∀ (A : Option Addr) (c : Nat) (ks : List XS) (W : World), RowP eSt W P A c ks → xssOk W P ks → stsF (xssd ks) →
      Calls Try.prog 40 #[.slice A ks.length c, .int .i64 m] W (fun e w' => e = .returned (.bool (decide (m < stsD (xssd ks)))) ∧ Below W.heap.size W w') := fun m hm A c ks W h1 h2 h3 => deepList_any P m A c ks W (by omega) h1 h2 h3
    have hks : ks.length ≤ 1000000 := by have := (stsF_get hF).1; rw [xssd_map, List.length_map] at this; exact this
    obtain ⟨r, hr⟩ : ∃ r, decide (M < stsD (xssd ks)) = r := ⟨_, rfl⟩
    rw [hr]
    have HR := Lib.hid (show r = ks.any fun x => decide (M < x.d.dp) by rw [← hr, stsD_max, xssd_map, List.any_map]; rfl)
    have HRow := Lib.hid hR
    have HO := Lib.hid hO
    have HF := Lib.hid hF
    clear hr hR hO hF
    go_enter Try.func40, Try.ntmps40
    go_wp2_with fail
    go_loopw [9] (fun i wr => ∃ k : Nat, k ≤ ks.length ∧ i = .int .i64 k ∧ Hid (∀ j (hj : j < ks.length), j < k → decide (M < ks[j].d.dp) = false) ∧ Hid (Below W.heap.size W wr)) (fun i _ => ks.length - (intOf i).toNat)
    case atStart => exact ⟨0, by omega, rfl, fun j _ h => absurd h (by omega), Below.refl _ _⟩
    case round =>
      obtain ⟨k, hk, rfl, hno, hB⟩ := hrel
      by_cases hlt : k < ks.length
      · have hRw := HRow.out.keep (w' := wr) (Q := P) (fun g _ ht => hB.out.block g ht.lt) (fun _ q => q)
        obtain ⟨g, o, rfl, hg, hcell⟩ := hRw.1.lies.at_ hlt
        have hko := xssOk.all HO.out _ (List.getElem_mem hlt)
        have hfe := (stsF_get HF.out).2 ks[k].d (by rw [xssd_map]; exact List.mem_map.2 ⟨_, List.getElem_mem hlt, rfl⟩)
        have HK := Lib.hid (show ∀ b, decide (M < ks[k].d.dp) = b → (b = true → r = true) ∧ (b = false → ∀ j (hj : j < ks.length), j < k + 1 → decide (M < ks[j].d.dp) = false) from fun b hb => ⟨fun e => by rw [HR.out]; exact any_at _ hlt (hb.trans e), fun e j hj hjk => by
          by_cases hjk2 : j < k
          · exact hno.out j hj hjk2
          · obtain rfl : j = k := by omega
            exact hb.trans e⟩)
        generalize ks[k] = t at *
        obtain ⟨kd, ln, nm, fl, cl, ⟨tk, tn, tm⟩, kA, kc, kk, bA, bc, bd, eA, ec, el⟩ := t
        have d0 := hcell 0 _ rfl
        have d1 := hcell 1 _ rfl
        have d2 := hcell 2 _ rfl
        have d3 := hcell 3 _ rfl
        have d4 := hcell 4 _ rfl
        have d5 := hcell 5 _ rfl
        have d6 := hcell 6 _ rfl
        have d7 := hcell 7 _ rfl
        have d8 := hcell 8 _ rfl
        have d9 := hcell 9 _ rfl
        have d10 := hcell 10 _ rfl
        simp only [Nat.add_zero, show eSt.sz = 11 from rfl] at d0 d1 d2 d3 d4 d5 d6 d7 d8 d9 d10
        rw [XS.Ok] at hko
        rw [XS.d] at hfe HK
        rw [St.few] at hfe
        have hbb := below_lnew wr (.cells #[.int .u8 kd, .int .i64 ln, .string (str nm), .string (str fl), .string (str cl), .int .u8 tk, .int .i64 tn, .string (str tm), .slice kA kk.length kc, .slice bA bd.length bc, .slice eA el.length ec] 53)
        have hBB := hB.out.trans (hbb.mono hB.out.size)
        have hnew := heap_alloc_new wr (.cells #[.int .u8 kd, .int .i64 ln, .string (str nm), .string (str fl), .string (str cl), .int .u8 tk, .int .i64 tn, .string (str tm), .slice kA kk.length kc, .slice bA bd.length bc, .slice eA el.length ec] 53)
        have HKO := Lib.hid hko
        have HFE := Lib.hid hfe
        clear hcell hko hfe hno hbb hRw
        by_cases hM0 : M = 0
        · subst hM0
          have hT := (HK.out true (decide_eq_true (St.dp_pos _))).1 rfl
          have HBB := Lib.hid hBB
          clear hBB
          go_wp2_with fail
          go_ret
          exact ⟨by rw [hT]; rfl, HBB.out⟩
        · obtain ⟨m, hm⟩ : ∃ m, m + 1 = M := ⟨M - 1, by omega⟩
          have HBB := Lib.hid hBB
          clear hBB
          have HKd := Lib.hid (fun W2 (hb : Below W.heap.size W W2) => deepKids_any P 40 kA kc kk W2 (Nat.le_refl _) (RowP.keep HKO.out.1.1 (fun g _ ht => hb.block g ht.lt) (fun _ q => q)) (xsOk.keep (fun g _ ht => hb.block g ht.lt) (fun _ q => q) _ HKO.out.2.1) HFE.out.1)
          have HBd := Lib.hid (fun W2 (hb : Below W.heap.size W W2) => HIH m hm bA bc bd W2 (RowP.keep HKO.out.1.2.1 (fun g _ ht => hb.block g ht.lt) (fun _ q => q)) (xssOk.keep (fun g _ ht => hb.block g ht.lt) (fun g _ ht => hb.block g ht.lt) (fun _ q => q) _ HKO.out.2.2.1) HFE.out.2.1)
          have HEl := Lib.hid (fun W2 (hb : Below W.heap.size W W2) => HIH m hm eA ec el W2 (RowP.keep HKO.out.1.2.2 (fun g _ ht => hb.block g ht.lt) (fun _ q => q)) (xssOk.keep (fun g _ ht => hb.block g ht.lt) (fun g _ ht => hb.block g ht.lt) (fun _ q => q) _ HKO.out.2.2.2) HFE.out.2.2)
          have hMi : ¬ (M : Int) = 0 := by omega
          have hMw : IntKind.i64.wrap ((M : Int) - 1) = (m : Int) := by rw [IntKind.wrap_i64]; omega
          rw [St.dp_eq hm hM] at HK
          have HK2 := Lib.hid (HK.out _ rfl)
          clear hM0 hm HIH HKO HFE HRow HO HF HK
          generalize decide (40 < exsD (xsd kk)) = b1 at *
          generalize decide (m < stsD (xssd bd)) = b2 at *
          generalize decide (m < stsD (xssd el)) = b3 at *
          have n0 := hnew
          have x8 := (show CAt _ wr.heap.size 53 [.int .u8 kd, .int .i64 ln, .string (str nm), .string (str fl), .string (str cl), .int .u8 tk, .int .i64 tn, .string (str tm), .slice kA kk.length kc, .slice bA bd.length bc, .slice eA el.length ec] from hnew)
          have HX := Lib.hid x8
          clear n0 x8 hnew
          go_wp2_with fail
          refine (HKd.out _ HBB.out).mono ?_
          rintro e w2 ⟨rfl, hb2⟩
          have HB2 := Lib.hid (HBB.out.trans (hb2.mono HBB.out.size))
          have HX2 := Lib.hid (HX.out.below hb2 HX.out.lt)
          have y9 := HX2.out.cell (j := 9) (by simp)
          have y10 := HX2.out.cell (j := 10) (by simp)
          simp only [List.getElem_cons_zero, List.getElem_cons_succ] at y9 y10
          clear hb2 HKd HX
          cases b1
          · go_wp2_with fail
            refine (HBd.out _ HB2.out).mono ?_
            rintro e w3 ⟨rfl, hb3⟩
            have HB3 := Lib.hid (HB2.out.trans (hb3.mono HB2.out.size))
            have HX3 := Lib.hid (HX2.out.below hb3 HX2.out.lt)
            have z10 := HX3.out.cell (j := 10) (by simp)
            simp only [List.getElem_cons_zero, List.getElem_cons_succ] at z10
            clear hb3 HBd HX2 y9 y10
            cases b2
            · go_wp2_with fail
              refine (HEl.out _ HB3.out).mono ?_
              rintro e w4 ⟨rfl, hb4⟩
              have HB4 := Lib.hid (HB3.out.trans (hb4.mono HB3.out.size))
              clear hb4 HEl HX3 z10
              cases b3
              · have HN := Lib.hid (HK2.out.2 rfl)
                go_wp2_with fail
                go_roundw
                case rel => exact ⟨k + 1, by omega, by go_num, HN, HB4⟩
                case measure => simp [intOf]; omega
              · have hT := HK2.out.1 rfl
                go_wp2_with fail
                go_ret
                exact ⟨by rw [hT]; rfl, HB4.out⟩
            · have hT := HK2.out.1 rfl
              go_wp2_with fail
              go_ret
              exact ⟨by rw [hT]; rfl, HB3.out⟩
          · have hT := HK2.out.1 rfl
            go_wp2_with fail
            go_ret
            exact ⟨by rw [hT]; rfl, HB2.out⟩
      · obtain rfl : k = ks.length := by omega
        have hT : r = false := by
          rw [HR.out]
          exact any_take _ ks ks.length (fun j hj hjk => hno.out j hj hjk) (Nat.le_refl _)
        go_wp2_with fail
        go_ret
        exact ⟨by rw [hT]; rfl, hB.out⟩
end Go.Proofs.Ytcgohlooelojfaa
