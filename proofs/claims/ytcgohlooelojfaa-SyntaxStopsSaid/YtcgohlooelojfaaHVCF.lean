/-
  Merged for a claim: VCF.
-/
import Derived.Test.YtcgohlooelojfaaHVCE
import Derived.Test.YtcgohlooelojfaaHJ11
import Derived.Deep.QuietTactic
namespace Go.Proofs.Ytcgohlooelojfaa
open Go Go.RowKit

def refSg : List (List UInt8) := sigs2 ++ sigs1
theorem refSigns_any (w : World) : Calls Try.prog 50 #[] w fun e w' => e = .returned (.slice (some ⟨w.heap.size, 0, none⟩) 24 24) ∧ Below w.heap.size w w' ∧ eS.Lies w' w'.heap.size (some ⟨w.heap.size, 0, none⟩) refSg := by
  have hb0 : ∀ o, Below w.heap.size w (w.alloc o) := fun o => (Below.refl _ _).alloc (Nat.le_refl _) _
  go_enter Try.func50, Try.ntmps50
  go_wp2_with fail
  go_ret
  refine ⟨rfl, hb0 _, strs_lie w _ refSg rfl⟩
/-- none of the first signs stands ahead -/
def NoRef (m : List UInt8) (j : Nat) : Prop := ∀ i (h : i < 24), i < j → (refSg[i]'h).isPrefixOf m = false
theorem NoRef.next {m : List UInt8} {j : Nat} (h : NoRef m j) (hj : j < 24) (hn : (refSg[j]'hj).isPrefixOf m = false) : NoRef m (j + 1) := fun i hi hlt => by
  by_cases e : i = j
  · subst e
    exact hn
  · exact h i hi (by omega)
theorem ref_no2 {m : List UInt8} {j : Nat} (h : NoRef m j) (hj : 6 ≤ j) : m.take 2 ∉ sigs2 := fun hm => by
  obtain ⟨i, hi, e⟩ := List.mem_iff_getElem.1 hm
  have hi6 : i < 6 := hi
  have e1 : refSg[i]'(show i < 24 by omega) = sigs2[i] := List.getElem_append_left hi
  have h3 := h i (by omega) (by omega)
  have e2 : refSg[i]'(show i < 24 by omega) = m.take 2 := e1.trans e
  rw [e2, take_pre] at h3
  cases h3
theorem ref_sh : ∀ i : Fin 18, refSg[i.1 + 6]'(show i.1 + 6 < 24 by omega) = sigs1[i.1]'(show i.1 < 18 from i.2) := by decide
theorem ref_hit {m : List UInt8} {j : Nat} (hj : j < 24) (h : NoRef m j) (hp : (refSg[j]'hj).isPrefixOf m = true) : sign m = refSg[j]'hj ∧ refSg[j]'hj ≠ [] := by
  by_cases h6 : j < 6
  · have e1 : refSg[j]'hj = sigs2[j]'h6 := List.getElem_append_left h6
    have hm : refSg[j]'hj ∈ sigs2 := by rw [e1]; exact List.getElem_mem _
    have hl := sigs2_len _ hm
    have := pre_take hp
    rw [hl] at this
    refine ⟨?_, fun e => by rw [e] at hl; cases hl⟩
    unfold sign
    rw [this, if_pos hm]
  · have h18 : j - 6 < 18 := by omega
    have e1 : refSg[j]'hj = sigs1[j - 6]'h18 := List.getElem_append_right (by show 6 ≤ j; omega)
    have hm : refSg[j]'hj ∈ sigs1 := by rw [e1]; exact List.getElem_mem _
    have hl := sigs1_len _ hm
    have := pre_take hp
    rw [hl] at this
    refine ⟨?_, fun e => by rw [e] at hl; cases hl⟩
    unfold sign
    rw [if_neg (ref_no2 h (by omega)), this, if_pos hm]
theorem ref_none {m : List UInt8} (h : NoRef m 24) : sign m = [] := by
  unfold sign
  rw [if_neg (ref_no2 h (by omega)), if_neg]
  intro hm
  obtain ⟨i, hi, e⟩ := List.mem_iff_getElem.1 hm
  have hi18 : i < 18 := hi
  have e2 : refSg[i + 6]'(show i + 6 < 24 by omega) = m.take 1 := (ref_sh ⟨i, hi18⟩).trans e
  have h3 := h (i + 6) (by omega) (by omega)
  rw [e2, take_pre] at h3
  cases h3
theorem pre_iff {s m : List UInt8} : s.isPrefixOf m = true ↔ m.take s.length = s := ⟨pre_take, fun h => by rw [← h]; exact take_pre m _⟩
set_option maxRecDepth 100000 in
set_option maxHeartbeats 8000000 in
theorem refOne_sign (A : Option Addr) (c : Nat) (l : List UInt8) (k : Nat) (w : World) (hl : Lies w w.heap.size A l) (hn : l.length ≤ 1099511627776) (hlc : l.length ≤ c) (hA : A = none → c = 0) (hk : k < l.length) (hc1 : tLe l[k] = false) (hc : tDi l[k] = false) :
    Calls Try.prog 29 #[.slice A l.length c, .int .i64 k] w (OneR (l.drop k) w) := by
  have HT := Lib.hid (show tok1 (l.drop k) = if sign (l.drop k) = [] then none else some (4, sign (l.drop k), 0) by rw [List.drop_eq_getElem_cons hk]; simp only [tok1, hc1, hc]; rfl)
  have hb0 : ∀ o, Below w.heap.size w (w.alloc o) := fun o => (Below.refl _ _).alloc (Nat.le_refl _) _
  have HSUB := Lib.hid (fun (q : Nat) (hq : k + q ≤ l.length) => sub_str hl hlc hA (k := k) (m := k + q) (by omega) hq)
  have HLE := Lib.hid (show ∀ w', Calls Try.prog 45 #[.int .u8 ((l[k]).toNat : Int)] w' fun e w2 => e = .returned (.bool false) ∧ w' = w2 from fun w' => by have := refLetter_i ((l[k]).toNat : Int) w'; rw [show leI ((l[k]).toNat : Int) = false from hc1] at this; exact this)
  have HDE := Lib.hid (show ∀ w', Calls Try.prog 46 #[.int .u8 ((l[k]).toNat : Int)] w' fun e w2 => e = .returned (.bool false) ∧ w' = w2 from fun w' => by have := refDigit_i ((l[k]).toNat : Int) w'; rw [show diI ((l[k]).toNat : Int) = false from hc] at this; exact this)
  have hdl : (l.drop k).length = l.length - k := List.length_drop
  have HDL := Lib.hid hdl
  obtain ⟨m, HM⟩ : ∃ m, Hid (l.drop k = m) := ⟨_, rfl⟩
  rw [HM.out] at HT HDL
  rw [HM.out]
  unfold OneR
  generalize tok1 m = res at *
  obtain ⟨g, o, hAe, hg, hcell⟩ := hl.at_ hk
  have hc0 : ∀ ob, (w.alloc ob).cell? ⟨g, o + k, none⟩ = some (.int .u8 ((l[k]).toNat : Int)) := fun ob => ((hb0 ob).cell hg).trans hcell
  have hlti : (k : Int) < (l.length : Int) := by omega
  have hni : (l.length : Int) ≤ 1099511627776 := by omega
  clear hl hcell hdl
  subst hAe
  generalize ((l[k]).toNat : Int) = C at *
  go_enter Try.func29, Try.ntmps29
  go_wp2_with fail
  refine (HLE.out _).mono ?_
  rintro e w' ⟨rfl, rfl⟩
  clear HLE
  go_wp2_with fail
  refine (HDE.out _).mono ?_
  rintro e w' ⟨rfl, rfl⟩
  clear HDE hc0
  go_wp2_with fail
  refine (refSigns_any _).mono ?_
  rintro e w2 ⟨rfl, hb2, hS⟩
  have hA2 : CAt w2 w.heap.size 79 [.int .u8 0, .string (str []), .int .i64 0, .int .i64 0] := CAt.below (heap_alloc_new w _) hb2 (by simp)
  have HA2 := Lib.hid hA2
  have HB2 := Lib.hid ((hb0 _).trans (hb2.mono (hb0 _).size))
  have HSG := Lib.hid (fun j (hj : j < 24) (wr : World) (hbr : Below w2.heap.size w2 wr) => (show wr.cell? ⟨(w.alloc (.cells #[.int .u8 0, .string ⟨#[]⟩, .int .i64 0, .int .i64 0] 79)).heap.size, 0 + j, none⟩ = some (.string (str (refSg[j]'hj))) by
    obtain ⟨g', o', e', hg', hcj⟩ := hS.at_ (show j < refSg.length from hj)
    injection e' with e'
    injection e' with e1 e2
    subst e1 e2
    have := (hbr.cell hg').trans (hcj 0 _ rfl)
    rw [show 0 + j * eS.sz + 0 = 0 + j by show 0 + j * 1 + 0 = _; omega] at this
    exact this))
  simp only [World.size_alloc, Nat.zero_add] at HSG
  clear hb2 hS hA2
  go_wp2_with fail
  go_loopw [13] (fun i wr => ∃ j : Nat, j ≤ 24 ∧ i = .int .i64 j ∧ Hid (NoRef m j) ∧ Hid (Below w2.heap.size w2 wr)) (fun i _ => 24 - (intOf i).toNat)
  case atStart => exact ⟨0, by omega, rfl, (fun _ _ h => absurd h (by omega)), Below.refl _ _⟩
  case round =>
    obtain ⟨j, hj, rfl, HN, hBr⟩ := hrel
    have hA := CAt.below HA2.out hBr.out HA2.out.lt
    have HB1 := Lib.hid (HB2.out.trans (hBr.out.mono HB2.out.size))
    have f0 := hA.frozen 0
    have f1 := hA.frozen 1
    have f2 := hA.frozen 2
    have f3 := hA.frozen 3
    have s0 := hA.cell (j := 0) (by simp)
    have s1 := hA.cell (j := 1) (by simp)
    have s2 := hA.cell (j := 2) (by simp)
    have s3 := hA.cell (j := 3) (by simp)
    by_cases hlt : j < 24
    · have hlti24 : (j : Int) < 24 := by omega
      have hcj := HSG.out j hlt wr hBr.out
      have HNX := Lib.hid (fun h => HN.out.next hlt h)
      have HHI := Lib.hid (fun h => ref_hit hlt HN.out h)
      have HLN := Lib.hid (show ∀ s ∈ refSg, s.length ≤ 2 from by decide)
      have hs2 := HLN.out _ (List.getElem_mem (show j < refSg.length from hlt))
      clear HN HLN
      generalize refSg[j]'hlt = s at *
      have hss := str_sz s
      have hst := str_toList s
      by_cases hfit : k + s.length ≤ l.length
      · have hfi : (k : Int) + (s.length : Int) ≤ (l.length : Int) := by omega
        obtain ⟨A', c', hsl, hcv⟩ := HSUB.out s.length hfit
        rw [show k + s.length - k = s.length by omega, HM.out] at hcv
        rw [show k + s.length - k = s.length by omega] at hsl
        simp only [Int.natCast_add] at hsl
        have hcvn := fun n => hcv (wr.drewN n) (HB1.out.trans (below_draws n))
        by_cases heq : m.take s.length = s
        · have HRES := Lib.hid (show res = some (4, s, 0) by
            obtain ⟨h1, h2⟩ := HHI.out (pre_iff.2 heq)
            rw [HT.out, h1, if_neg h2])
          rw [heq] at hcvn
          have HW := Lib.hid ((((hA.set 0 (.int .u8 4)).set 1 (.string (str s))).set 2 (.int .i64 0)).set 3 (.int .i64 0))
          clear heq HHI HNX HT HSUB hcv hA
          go_wp2_with fail
          go_quiet (fail)
          go_wp2_with fail
          refine bodyPost_ret (tokv_back rfl rfl HW.out) rfl ?_
          exact ⟨(HB1.out.trans (below_draws nq)).grown (grown4 _ _ _ _ _ _) HB1.out.size (fun j e => by cases e; exact Nat.le_refl _), _, _, _, _, rfl, .inr ⟨HRES.out, rfl⟩⟩
        · have HNN := Lib.hid (HNX.out (by
            cases hp : s.isPrefixOf m with
            | false => rfl
            | true => exact absurd (pre_iff.1 hp) heq))
          have hxe : ((str (m.take s.length)).toList == (str s).toList) = false := by rw [str_toList, str_toList]; exact beq_eq_false_iff_ne.2 heq
          have hxe2 : ¬ (str (m.take s.length)).toList = (str s).toList := by rw [str_toList, str_toList]; exact heq
          clear heq HHI HNX HT HSUB hcv hA hst
          generalize m.take s.length = t at *
          have hxe3 : ¬ str t = str s := fun e => hxe2 (by rw [e])
          go_wp2_with fail
          go_quiet (fail)
          go_wp2_with fail
          go_roundw
          case rel => exact ⟨j + 1, by omega, by go_num, HNN, hBr.out.trans (below_draws nq)⟩
          case measure => simp [intOf]; omega
      · have hfi : (l.length : Int) < (k : Int) + (s.length : Int) := by omega
        have hfd : decide ((k : Int) + (s.length : Int) ≤ (l.length : Int)) = false := decide_eq_false (by omega)
        have HNN := Lib.hid (HNX.out (by
          cases hp : s.isPrefixOf m with
          | false => rfl
          | true =>
            have := congrArg List.length (pre_iff.1 hp)
            rw [List.length_take] at this
            have := HDL.out
            omega))
        clear HHI HNX HT HSUB hA
        go_wp2_with fail
        go_quiet (fail)
        go_wp2_with fail
        go_roundw
        case rel => exact ⟨j + 1, by omega, by go_num, HNN, hBr.out.trans (below_draws nq)⟩
        case measure => simp [intOf]; omega
    · obtain rfl : j = 24 := by omega
      have HRES := Lib.hid (show res = none by rw [HT.out, if_pos (ref_none HN.out)])
      have HW := Lib.hid ((((hA.set 0 (.int .u8 0)).set 1 (.string (str []))).set 2 (.int .i64 0)).set 3 (.int .i64 0))
      clear HN HT HSUB hA
      go_wp2_with fail
      refine bodyPost_ret (tokv_back rfl rfl HW.out) rfl ?_
      exact ⟨HB1.out.grown (grown4 _ _ _ _ _ _) HB1.out.size (fun j e => by cases e; exact Nat.le_refl _), _, _, _, _, rfl, .inl ⟨HRES.out, rfl⟩⟩
theorem refOne_any (A : Option Addr) (c : Nat) (l : List UInt8) (k : Nat) (w : World) (hl : Lies w w.heap.size A l) (hn : l.length ≤ 1099511627776) (hlc : l.length ≤ c) (hA : A = none → c = 0) (hk : k < l.length) :
    Calls Try.prog 29 #[.slice A l.length c, .int .i64 k] w (OneR (l.drop k) w) := by
  cases h1 : tLe l[k]
  · cases h2 : tDi l[k]
    · exact refOne_sign A c l k w hl hn hlc hA hk h1 h2
    · exact refOne_num A c l k w hl hn hlc hA hk h1 h2
  · exact refOne_name A c l k w hl hn hlc hA hk h1
end Go.Proofs.Ytcgohlooelojfaa
