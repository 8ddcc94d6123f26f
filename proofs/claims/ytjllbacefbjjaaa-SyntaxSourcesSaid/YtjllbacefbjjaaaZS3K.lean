/-
  Merged for a claim: S3K.
-/
import Derived.Test.YtjllbacefbjjaaaZJ20
import Derived.Test.YtjllbacefbjjaaaZJ19
namespace Go.Proofs.Ytjllbacefbjjaaa
open Go.ChangeShapes Go.WideShapes Go.ChangeAt Go.Deep
open Go Go.RowKit

theorem exsD_le {l : List Ex} {m : Nat} (h : ∀ x ∈ l, x.dp ≤ m) : exsD l ≤ m := by
 induction l with
 | nil => rw [exsD]; omega
 | cons x l ih =>
  rw [exsD]
  have h1 := h x (by simp)
  have h2 := ih fun y hy => h y (List.mem_cons_of_mem _ hy)
  omega
set_option maxRecDepth 100000 in
set_option maxHeartbeats 2000000 in
theorem rdeepest_any (P : Nat → Prop) : ∀ (M : Nat) (A : Option Addr) (c : Nat) (xs : List XS) (W : World), stsH (xssd xs) ≤ M → M ≤ 1000000 → RowP eSt W P A c xs → xssOk W P xs → stsF (xssd xs) →
 Calls Try.prog 33 #[.slice A xs.length c] W (fun e w' => e = .returned (.int .i64 (stsR (xssd xs) 0 : Nat)) ∧ Below W.heap.size W w')
 | M, A, c, xs, W, hH, hM, hR, hO, hF => by
  have HIH : ∀ m, m + 1 = M → ∀ (A : Option Addr) (c : Nat) (xs : List XS) (W : World), stsH (xssd xs) ≤ m → RowP eSt W P A c xs → xssOk W P xs → stsF (xssd xs) → Calls Try.prog 33 #[.slice A xs.length c] W (fun e w' => e = .returned (.int .i64 (stsR (xssd xs) 0 : Nat)) ∧ Below W.heap.size W w') := fun m hm A c xs W h1 h2 h3 h4 => rdeepest_any P m A c xs W h1 (by omega) h2 h3 h4
  have hks : xs.length ≤ 1000000 := by have := (stsF_get hF).1; rw [xssd_map, List.length_map] at this; exact this
  obtain ⟨r, hr⟩ : ∃ r, stsR (xssd xs) 0 = r := ⟨_, rfl⟩
  rw [hr]
  have HH := Lib.hid hH
  have HR := Lib.hid hr
  have HRow := Lib.hid hR
  have HO := Lib.hid hO
  have HF := Lib.hid hF
  have HI := Lib.hid HIH
  clear hr hR hO hF HIH hH
  go_enter Try.func33, Try.ntmps33
  go_wp2_with fail
  go_loopw [3, 4, 5] (fun n i _ wr => ∃ k nn : Nat, k ≤ xs.length ∧ nn ≤ 1000100 ∧ i = .int .i64 k ∧ n = .int .i64 nn ∧ Hid (stsR (xssd (xs.drop k)) nn = r) ∧ Hid (Below W.heap.size W wr)) (fun _ i _ _ => xs.length - (intOf i).toNat)
  case atStart => exact ⟨0, 0, by omega, by omega, rfl, rfl, Lib.hid (by rw [List.drop_zero]; exact HR.out), Below.refl _ _⟩
  case round =>
   obtain ⟨k, nn, hk, hnn, rfl, rfl, HS, hB⟩ := hrel
   by_cases hlt : k < xs.length
   · have hRw := HRow.out.keep (w' := wr) (Q := P) (fun g _ ht => hB.out.block g ht.lt) (fun _ q => q)
     obtain ⟨g, o, rfl, hg, hcell⟩ := hRw.1.lies.at_ hlt
     have HCC := Lib.hid (show ∀ W2, Below W.heap.size W W2 → ∀ (f : Nat) (z : Value), (eSt.f xs[k])[f]? = some z → W2.cell? ⟨g, o + k * eSt.sz + f, none⟩ = some z from fun W2 hb => by
      have h := HRow.out.keep (w' := W2) (Q := P) (fun g _ ht => hb.block g ht.lt) (fun _ q => q)
      obtain ⟨g2, o2, e2, _, hc2⟩ := h.1.lies.at_ hlt
      cases e2
      exact fun f z hz => hc2 f z hz)
     have HGW := Lib.hid (show g < W.heap.size from by
      obtain ⟨g2, o2, e2, hg2, _⟩ := HRow.out.1.lies.at_ hlt
      cases e2
      exact hg2)
     have HM : xs[k] ∈ xs := List.getElem_mem hlt
     have hko := xssOk.all HO.out _ HM
     have hmm : xs[k].d ∈ xssd xs := by rw [xssd_map]; exact List.mem_map.2 ⟨_, HM, rfl⟩
     have hfe := (stsF_get HF.out).2 xs[k].d hmm
     have hhe := stsH_mem hmm
     have hSS := HS.out
     rw [List.drop_eq_getElem_cons hlt, xssd, stsR] at hSS
     generalize xs[k] = t at *
     obtain ⟨kd, ln, nm, fl, cl, ty, kA, kc, kk, bA, bc, bd, eA, ec, el⟩ := t
     have HC := Lib.hid (show ∀ W2, Below W.heap.size W W2 → W2.cell? ⟨g, o + k * 11 + 8, none⟩ = some (.slice kA kk.length kc) ∧ W2.cell? ⟨g, o + k * 11 + 9, none⟩ = some (.slice bA bd.length bc) ∧ W2.cell? ⟨g, o + k * 11 + 10, none⟩ = some (.slice eA el.length ec) from fun W2 hb => ⟨HCC.out W2 hb 8 _ rfl, HCC.out W2 hb 9 _ rfl, HCC.out W2 hb 10 _ rfl⟩)
     clear HCC
     rw [XS.Ok] at hko
     rw [XS.d] at hfe hhe hSS
     rw [St.few] at hfe
     rw [St.ht] at hhe
     rw [St.dr] at hSS
     obtain ⟨m, hm⟩ : ∃ m, m + 1 = M := ⟨M - 1, by have := HH.out; omega⟩
     have HKO := Lib.hid hko
     have HFE := Lib.hid hfe
     have HBd := Lib.hid (fun W2 (hb : Below W.heap.size W W2) => HI.out m hm bA bc bd W2 (by have := HH.out; omega) (RowP.keep HKO.out.1.2.1 (fun g _ ht => hb.block g ht.lt) (fun _ q => q)) (xssOk.keep (fun g _ ht => hb.block g ht.lt) (fun g _ ht => hb.block g ht.lt) (fun _ q => q) _ HKO.out.2.2.1) HFE.out.2.1)
     have HEl := Lib.hid (fun W2 (hb : Below W.heap.size W W2) => HI.out m hm eA ec el W2 (by have := HH.out; omega) (RowP.keep HKO.out.1.2.2 (fun g _ ht => hb.block g ht.lt) (fun _ q => q)) (xssOk.keep (fun g _ ht => hb.block g ht.lt) (fun g _ ht => hb.block g ht.lt) (fun _ q => q) _ HKO.out.2.2.2) HFE.out.2.2)
     have hD1 := stsR_ht (xssd bd) 0
     have hD2 := stsR_ht (xssd el) 0
     have hHH := HH.out
     have l1 : stsR (xssd bd) 0 ≤ 1000041 := by omega
     have l2 : stsR (xssd el) 0 ≤ 1000041 := by omega
     have hdk : exsD (xsd kk) ≤ 1000000 := by omega
     have HDK := Lib.hid hdk
     generalize stsR (xssd bd) 0 = D1 at *
     generalize stsR (xssd el) 0 = D2 at *
     have HT1 := Lib.hid (show 40 < exsD (xsd kk) → r = 41 from fun q => by rw [if_pos q] at hSS; exact hSS.symm)
     have HT2 := Lib.hid (show ¬ 40 < exsD (xsd kk) → stsR (xssd (xs.drop (k + 1))) (max nn (max (1 + D1) (1 + D2))) = r from fun q => by rw [if_neg q] at hSS; exact hSS)
     have HB := Lib.hid hB.out
     clear hSS HS hko hfe hhe hmm HM hcell hRw hB hD1 hD2 hHH hm hdk
     have hki : (k : Int) < (xs.length : Int) := by omega
     have hgw : g < wr.heap.size := by have := HB.out.size; omega
     go_wp2_with fail
     refine wp_region_held_drew (S := fun W9 => W9.cell? ⟨g, o + k * 11 + 9, none⟩ = some (.slice bA bd.length bc) ∧ W9.cell? ⟨g, o + k * 11 + 10, none⟩ = some (.slice eA el.length ec)) (by kernel_rfl) (HC.out _ (HB.out.trans ((Below.refl _ wr).drew.mono HB.out.size))).2 (fun hHeld => ?_)
     have HB1 := Lib.hid (HB.out.trans ((Below.refl _ wr).drew.mono HB.out.size))
     generalize wr.drew = Wd at *
     refine heldTake (i := 0) (d := some 12) (v := ?_) rfl rfl (by kernel_rfl) (by kernel_rfl) (by kernel_rfl) (fun _ _ _ h => h) (by kernel_rfl) ?hyq_1 (by assumption) ?restq_1
     case hyq_1 => (intro W9 hSw; (try dsimp only at hSw); go_simp; try (with_reducible rfl))
     (try simp only [Act.put, nA, nB, nC])
     refine heldTake (i := 1) (d := some 13) (v := ?_) rfl rfl (by kernel_rfl) (by kernel_rfl) (by kernel_rfl) (fun _ _ _ h => h) (by kernel_rfl) ?hyq_2 (by assumption) ?restq_2
     case hyq_2 => (intro W9 hSw; (try dsimp only at hSw); go_simp; try (with_reducible rfl))
     (try simp only [Act.put, nA, nB, nC])
     refine heldTake (i := 2) (d := some 14) (v := ?_) rfl rfl (by kernel_rfl) (by kernel_rfl) (by kernel_rfl) (fun _ _ _ h => h) (by kernel_rfl) ?hyq_3 (by assumption) ?restq_3
     case hyq_3 => (intro W9 hSw; (try dsimp only at hSw); go_simp; try (with_reducible rfl))
     (try simp only [Act.put, nA, nB, nC])
     refine heldTake (i := 3) (d := some 15) (v := ?_) rfl rfl (by kernel_rfl) (by kernel_rfl) (by kernel_rfl) (fun _ _ _ h => h) (by kernel_rfl) ?hyq_4 (by assumption) ?restq_4
     case hyq_4 => (intro W9 hSw; (try dsimp only at hSw); go_simp; try (with_reducible rfl))
     (try simp only [Act.put, nA, nB, nC])
     refine heldTake (i := 4) (d := some 16) (v := ?_) rfl rfl (by kernel_rfl) (by kernel_rfl) (by kernel_rfl) (fun _ _ _ h => h) (by kernel_rfl) ?hyq_5 (by assumption) ?restq_5
     case hyq_5 => (intro W9 hSw; (try dsimp only at hSw); go_simp; try (with_reducible rfl))
     (try simp only [Act.put, nA, nB, nC])
     refine heldTake (i := 5) (d := some 17) (v := ?_) rfl rfl (by kernel_rfl) (by kernel_rfl) (by kernel_rfl) (fun _ _ _ h => h) (by kernel_rfl) ?hyq_6 (by assumption) ?restq_6
     case hyq_6 => (intro W9 hSw; (try dsimp only at hSw); go_simp; try (with_reducible rfl))
     (try simp only [Act.put, nA, nB, nC])
     refine heldTake (i := 8) (d := some 20) (v := ?_) rfl rfl (by kernel_rfl) (by kernel_rfl) (by kernel_rfl) (fun _ _ _ h => h) (by kernel_rfl) ?hyq_7 (by assumption) ?restq_7
     case hyq_7 => (intro W9 hSw; (try dsimp only at hSw); go_simp; try (with_reducible rfl))
     (try simp only [Act.put, nA, nB, nC])
     refine heldTake (i := 9) (d := some 21) (v := ?_) rfl rfl (by kernel_rfl) (by kernel_rfl) (by kernel_rfl) (fun _ _ _ h => h) (by kernel_rfl) ?hyq_8 (by assumption) ?restq_8
     case hyq_8 => (intro W9 hSw; (try dsimp only at hSw); go_simp; try (with_reducible rfl))
     (try simp only [Act.put, nA, nB, nC])
     refine heldTake (i := 10) (d := some 22) (v := ?_) rfl rfl (by kernel_rfl) (by kernel_rfl) (by kernel_rfl) (fun _ _ _ h => h) (by kernel_rfl) ?hyq_9 (by assumption) ?restq_9
     case hyq_9 => (intro W9 hSw; (try dsimp only at hSw); go_simp; try (with_reducible rfl))
     (try simp only [Act.put, nA, nB, nC])
     refine heldTake (i := 11) (d := some 23) (v := ?_) rfl rfl (by kernel_rfl) (by kernel_rfl) (by kernel_rfl) (fun _ _ _ h => h) (by kernel_rfl) ?hyq_10 (by assumption) ?restq_10
     case hyq_10 => (intro W9 hSw; (try dsimp only at hSw); go_simp; try (with_reducible rfl))
     (try simp only [Act.put, nA, nB, nC])
     refine heldTake (i := 12) (d := some 24) (v := ?_) rfl rfl (by kernel_rfl) (by kernel_rfl) (by kernel_rfl) (fun _ _ _ h => h) (by kernel_rfl) ?hyq_11 (by assumption) ?restq_11
     case hyq_11 => (intro W9 hSw; (try dsimp only at hSw); go_simp; try (with_reducible rfl))
     (try simp only [Act.put, nA, nB, nC])
     refine wpAnyH_ready (rs := [6]) (by kernel_rfl) (by simp) ?_
     refine AllReadyH.cons rfl (fun K hK => ?_) AllReadyH.nil
     go_simp
     go_at_call 33
     refine (HBd.out _ HB1.out).mono ?_
     rintro e w2 ⟨rfl, hb2⟩
     have HB2 := Lib.hid (HB1.out.trans (hb2.mono HB1.out.size))
     clear hb2 HB1
     go_wp2_with fail
     refine hK.out _ _ (HC.out _ HB2.out).2 (fun hHeld => ?_)
     clear hK K
     (try simp only [Act.put, nA, nB, nC])
     refine heldTake (i := 7) (d := some 19) (v := ?_) rfl rfl (by kernel_rfl) (by kernel_rfl) (by kernel_rfl) (fun _ _ _ h => h) (by kernel_rfl) ?hyq_12 (by assumption) ?restq_12
     case hyq_12 => (intro W9 hSw; (try dsimp only at hSw); go_simp; try (with_reducible rfl))
     (try simp only [Act.put, nA, nB, nC])
     refine wpAnyH_ready (rs := [13]) (by kernel_rfl) (by simp) ?_
     refine AllReadyH.cons rfl (fun K hK => ?_) AllReadyH.nil
     go_simp
     go_at_call 33
     refine (HEl.out _ HB2.out).mono ?_
     rintro e w3 ⟨rfl, hb3⟩
     have HB3 := Lib.hid (HB2.out.trans (hb3.mono HB2.out.size))
     clear hb3 HB2
     go_wp2_with fail
     refine hK.out _ _ (HC.out _ HB3.out).2 (fun hHeld => ?_)
     clear hK K
     (try simp only [Act.put, nA, nB, nC])
     refine heldTake (i := 14) (d := some 26) (v := ?_) rfl rfl (by kernel_rfl) (by kernel_rfl) (by kernel_rfl) (fun _ _ _ h => h) (by kernel_rfl) ?hyq_13 (by assumption) ?restq_13
     case hyq_13 => (intro W9 hSw; (try dsimp only at hSw); go_simp; try (with_reducible rfl))
     (try simp only [Act.put, nA, nB, nC])
     refine wpAnyH_ready (rs := [15]) (by kernel_rfl) (by simp) ?_
     refine AllReadyH.cons rfl (fun K hK => ?_) AllReadyH.nil
     go_simp
     have hw1 : IntKind.i64.wrap (1 + (D1 : Int)) = ((1 + D1 : Nat) : Int) := by rw [IntKind.wrap_i64]; omega
     have hw2 : IntKind.i64.wrap (1 + (D2 : Int)) = ((1 + D2 : Nat) : Int) := by rw [IntKind.wrap_i64]; omega
     have hv : (if (if (nn : Int) < ((1 + D1 : Nat) : Int) then ((1 + D1 : Nat) : Int) else (nn : Int)) < ((1 + D2 : Nat) : Int) then ((1 + D2 : Nat) : Int) else if (nn : Int) < ((1 + D1 : Nat) : Int) then ((1 + D1 : Nat) : Int) else (nn : Int)) = ((max nn (max (1 + D1) (1 + D2)) : Nat) : Int) := by (repeat' split) <;> omega
     rw [hw1, hw2, hv]
     have lmx : max nn (max (1 + D1) (1 + D2)) ≤ 1000100 := by omega
     generalize max nn (max (1 + D1) (1 + D2)) = nx at *
     clear hv hw1 hw2 l1 l2 hnn HBd HEl
     refine hK.out _ _ (HC.out _ HB3.out).2 (fun hHeld => ?_)
     clear hK K
     (try simp only [Act.put, nA, nB, nC])
     refine heldTake (i := 16) (d := some 3) (v := ?_) rfl rfl (by kernel_rfl) (by kernel_rfl) (by kernel_rfl) (fun _ _ _ h => h) (by kernel_rfl) ?hyq_14 (by assumption) ?restq_14
     case hyq_14 => (intro W9 hSw; (try dsimp only at hSw); go_simp; try (with_reducible rfl))
     (try simp only [Act.put, nA, nB, nC])
     refine wpAnyH_done (by kernel_rfl) ?_ _
     have HZ0 := Lib.hid hki
     go_wp2_with fail
     go_loopw [5] (fun j wr2 => ∃ jj : Nat, jj ≤ kk.length ∧ j = .int .i64 jj ∧ Hid (∀ i (hi : i < kk.length), i < jj → kk[i].d.dp ≤ 40) ∧ Hid (Below W.heap.size W wr2)) (fun j _ => kk.length - (intOf j).toNat)
     case atStart => exact ⟨0, by omega, rfl, Lib.hid (fun i _ h => absurd h (by omega)), HB3⟩
     case round =>
      obtain ⟨j, hj, rfl, hno, hB⟩ := hrel
      obtain ⟨c8, c9, c10⟩ := HC.out _ hB.out
      have hgw2 : g < wr.heap.size := by have := hB.out.size; have := HGW.out; omega
      clear c9 c10
      have hkl : kk.length ≤ 1000000 := by have := (exsF_get HFE.out.1).1; rw [xsd_map, List.length_map] at this; exact this
      by_cases hjl : j < kk.length
      · have hRk := RowP.keep (w' := wr) (Q := P) HKO.out.1.1 (fun g _ ht => hB.out.block g ht.lt) (fun _ q => q)
        obtain ⟨g6, o6, rfl, hg6, hcell6⟩ := hRk.1.lies.at_ hjl
        have hkok := xsOk.keep (w' := wr) (Q := P) (fun g _ ht => hB.out.block g ht.lt) (fun _ q => q) kk HKO.out.2.1
        have HM6 : kk[j] ∈ kk := List.getElem_mem hjl
        have hm6 : kk[j].d ∈ xsd kk := by rw [xsd_map]; exact List.mem_map.2 ⟨_, HM6, rfl⟩
        have hf6 := (exsF_get HFE.out.1).2 kk[j].d hm6
        have hd6 := exsD_mem hm6
        have HDD := Lib.hid (show 40 < kk[j].d.dp → 40 < exsD (xsd kk) from fun q => by omega)
        have HNO := Lib.hid (show ¬ 40 < kk[j].d.dp → ∀ i (hi : i < kk.length), i < j + 1 → kk[i].d.dp ≤ 40 from fun q i hi h => by
         by_cases h2 : i < j
         · exact hno.out i hi h2
         · obtain rfl : i = j := by omega
           omega)
        have HCt := Lib.hid (rdepth_any P kk[j] wr (xsOk_all hkok _ HM6) hf6 (by have := HDK.out; omega))
        have ld6 : kk[j].d.dp ≤ 1000000 := by have := HDK.out; omega
        generalize kk[j] = t at *
        obtain ⟨a0, a1, a2, a3, a4, A5, a6, ys⟩ := t
        have e0 := hcell6 0 _ rfl
        have e1 := hcell6 1 _ rfl
        have e2 := hcell6 2 _ rfl
        have e3 := hcell6 3 _ rfl
        have e4 := hcell6 4 _ rfl
        have e5 := hcell6 5 _ rfl
        simp only [Nat.add_zero, show eX.sz = 6 from rfl] at e0 e1 e2 e3 e4 e5
        have hji : (j : Int) < (kk.length : Int) := by omega
        have hg6w : g6 < wr.heap.size := by have := hg6; omega
        have hHB := Lib.hid hB.out
        clear hcell6 hkok hRk HM6 hm6 hf6 hd6 hno hB
        generalize (XT.mk a0 a1 a2 a3 a4 A5 a6 ys).d.dp = D at *
        unfold xV XT.cs at HCt
        go_wp2_with fail
        refine HCt.out.mono ?_
        rintro e w5 ⟨rfl, hb5⟩
        have HB5 := Lib.hid (hHB.out.trans (hb5.mono hHB.out.size))
        clear hb5 HCt e0 e1 e2 e3 e4 e5 c8 hHB hgw2 hg6w
        by_cases hq : 40 < D
        · have hqi : (40 : Int) < (D : Int) := by omega
          have HT := Lib.hid (HT1.out (HDD.out hq))
          go_wp2_with fail
          go_ret
          exact ⟨by rw [HT.out]; rfl, HB5.out⟩
        · have hqi : ¬ (40 : Int) < (D : Int) := by omega
          have HN2 := Lib.hid (HNO.out hq)
          clear HNO HDD hq
          go_wp2_with fail
          go_roundw
          case rel =>
           (repeat apply Exists.intro)
           refine ⟨?_, rfl⟩
           exact ⟨j + 1, by omega, by go_num, HN2, HB5⟩
          case measure => simp [intOf]; omega
      · have hje : kk.length ≤ j := by omega
        have HT := Lib.hid (HT2.out (by have := exsD_le (l := xsd kk) (m := 40) (fun x hx => by rw [xsd_map] at hx; obtain ⟨y, hy, rfl⟩ := List.mem_map.1 hx; obtain ⟨i, hi, rfl⟩ := List.getElem_of_mem hy; exact hno.out i hi (by omega)); omega))
        have HB9 := Lib.hid hB.out
        clear hno hB hjl
        go_wp2_with fail
        go_roundw
        case rel => exact ⟨k + 1, nx, by omega, lmx, by go_num, rfl, HT, HB9⟩
        case measure => simp [intOf]; have := HZ0.out; omega
   · obtain rfl : k = xs.length := by omega
     have hSS := HS.out
     rw [List.drop_length, xssd, stsR] at hSS
     have HT := Lib.hid hSS
     have HB9 := Lib.hid hB.out
     clear hSS HS hB
     go_wp2_with fail
     go_ret
     exact ⟨by rw [← HT.out]; rfl, HB9.out⟩
termination_by M => M
end Go.Proofs.Ytjllbacefbjjaaa
