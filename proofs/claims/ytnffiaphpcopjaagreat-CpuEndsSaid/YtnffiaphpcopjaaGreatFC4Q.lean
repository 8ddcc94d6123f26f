/-
  Merged for a claim: C4Q.
-/
import Derived.Test.YtnffiaphpcopjaaGreatFC4O
import Derived.Test.YtnffiaphpcopjaaGreatFR3S
import Derived.Test.YtnffiaphpcopjaaGreatFC4N
namespace Go.Proofs.YtnffiaphpcopjaaGreat
open Go Go.RowKit

def vastB (c : Cs) : Bool := decide (200 < c.xs.length ∨ 4096 < c.bs.length ∨ (1024 < c.wd ∧ c.wd ≤ 65536) ∨ 100 < c.inp.length ∨ 1000 < c.fu)
def VastR (c : Cs) (w : World) (e : Ending) (w' : World) : Prop := e = .returned (.bool (vastB c)) ∧ Below w.heap.size w w'
theorem vast_no {c : Cs} (h : vastB c = false) : c.xs.length ≤ 200 ∧ c.bs.length ≤ 4096 ∧ (c.wd ≤ 1024 ∨ 65536 < c.wd) ∧ c.inp.length ≤ 100 ∧ c.fu ≤ 1000 := by
  have := of_decide_eq_false h
  omega
set_option maxRecDepth 100000 in
set_option maxHeartbeats 1000000 in
theorem vast_any (c : Cs) (w : World) : Calls Tryz.prog 6 #[.agg (csC c)] w (VastR c w) := by
  have HB := Lib.hid (below_box w (.cells (csC c) 26))
  obtain ⟨v, hv⟩ : ∃ v, v = vastB c := ⟨_, rfl⟩
  unfold VastR
  rw [← hv]
  have HV := Lib.hid hv
  clear hv
  unfold csC at HB
  unfold csC
  by_cases h1 : 200 < c.xs.length
  · obtain rfl : v = true := by rw [HV.out]; exact decide_eq_true (by omega)
    clear HV
    go_enter Tryz.func6, Tryz.ntmps6
    go_wp2
    go_ret
    exact ⟨rfl, HB.out⟩
  by_cases h2 : 4096 < c.bs.length
  · obtain rfl : v = true := by rw [HV.out]; exact decide_eq_true (by omega)
    clear HV
    go_enter Tryz.func6, Tryz.ntmps6
    go_wp2
    go_ret
    exact ⟨rfl, HB.out⟩
  by_cases h3 : 1024 < c.wd
  · by_cases h4 : c.wd ≤ 65536
    · obtain rfl : v = true := by rw [HV.out]; exact decide_eq_true (by omega)
      clear HV
      go_enter Tryz.func6, Tryz.ntmps6
      go_wp2
      go_ret
      exact ⟨rfl, HB.out⟩
    by_cases h5 : 100 < c.inp.length
    · obtain rfl : v = true := by rw [HV.out]; exact decide_eq_true (by omega)
      clear HV
      go_enter Tryz.func6, Tryz.ntmps6
      go_wp2
      go_ret
      exact ⟨rfl, HB.out⟩
    by_cases h6 : 1000 < c.fu
    · obtain rfl : v = true := by rw [HV.out]; exact decide_eq_true (by omega)
      clear HV
      go_enter Tryz.func6, Tryz.ntmps6
      go_wp2
      go_ret
      exact ⟨rfl, HB.out⟩
    obtain rfl : v = false := by rw [HV.out]; exact decide_eq_false (by omega)
    clear HV
    go_enter Tryz.func6, Tryz.ntmps6
    go_wp2
    go_ret
    exact ⟨by simp <;> omega, HB.out⟩
  · by_cases h5 : 100 < c.inp.length
    · obtain rfl : v = true := by rw [HV.out]; exact decide_eq_true (by omega)
      clear HV
      go_enter Tryz.func6, Tryz.ntmps6
      go_wp2
      go_ret
      exact ⟨rfl, HB.out⟩
    by_cases h6 : 1000 < c.fu
    · obtain rfl : v = true := by rw [HV.out]; exact decide_eq_true (by omega)
      clear HV
      go_enter Tryz.func6, Tryz.ntmps6
      go_wp2
      go_ret
      exact ⟨rfl, HB.out⟩
    obtain rfl : v = false := by rw [HV.out]; exact decide_eq_false (by omega)
    clear HV
    go_enter Tryz.func6, Tryz.ntmps6
    go_wp2
    go_ret
    exact ⟨by simp <;> omega, HB.out⟩

/-- a case lies in a block -/
def CsAt (w : World) (g : Nat) (c : Cs) : Prop := w.heap[g]? = some (.cells (csC c) 26 (0, 0))
theorem CsAt.below {w w' : World} {g B : Nat} {c : Cs} (h : CsAt w g c) (hb : Below B w w') (hg : g < B) : CsAt w' g c := (hb.block g hg).trans h
theorem CsAt.cells {w : World} {g : Nat} {c : Cs} (h : CsAt w g c) : w.cell? ⟨g, 0, none⟩ = some (.slice c.A0 c.xs.length c.c0) ∧ w.cell? ⟨g, 1, none⟩ = some (.slice c.A1 c.bs.length c.c1) ∧ w.cell? ⟨g, 2, none⟩ = some (.int .i64 c.st) ∧
    w.cell? ⟨g, 3, none⟩ = some (.int .i64 c.wd) ∧ w.cell? ⟨g, 4, none⟩ = some (.slice c.A2 c.inp.length c.c2) ∧ w.cell? ⟨g, 5, none⟩ = some (.int .i64 c.fu) := by
  unfold CsAt at h
  simp [World.cell?, h, csC]
def BytesI (c : Cs) (w : World) (q : Nat) (v : Value) (wr : World) : Prop := (∃ l, Own wr (w.heap.size + 1) v l ∧ l.length ≤ 4096 + q * 41) ∧ CsAt wr w.heap.size c ∧ Below w.heap.size w wr ∧ w.heap.size < wr.heap.size
theorem csat_new (c : Cs) (w : World) : CsAt (w.alloc (.cells (csC c) 26)) w.heap.size c := heap_alloc_new w _
set_option maxRecDepth 100000 in
set_option maxHeartbeats 1000000 in
theorem bytes_any (c : Cs) (w : World) (hC : CsIn w c) (hv : vastB c = false) : Calls Tryz.prog 8 #[.agg (csC c)] w (PutW 12296 w) := by
  obtain ⟨hx, hbs, -⟩ := vast_no hv
  have hb0 := below_box w (.cells (csC c) 26)
  have HB0 := Lib.hid hb0
  have HC := Lib.hid hC
  have HA := Lib.hid (csat_new c w)
  have hb1 := hb0.alloc hb0.size (.cells #[] 5)
  have HB1 := Lib.hid hb1
  have HA1 := Lib.hid (show CsAt ((w.alloc (.cells (csC c) 26)).alloc (.cells #[] 5)) w.heap.size c from heap_alloc2_old w _ _)
  have h2 := Lib.hid (show Own ((w.alloc (.cells (csC c) 26)).alloc (.cells #[] 5)) (w.heap.size + 1) (.slice (some ⟨w.heap.size + 1, 0, none⟩) 0 0) [] from by
    have := Own.of (blk_lit (w.alloc (.cells (csC c) 26)) [] #[] rfl) (show w.heap.size + 1 ≤ _ by simp) 0 (by simp) (by simp [maxLen])
    simpa using this)
  have hh0 := hC.h0
  clear hC hv hb0 hb1
  unfold csC at HA HA1 HB0 HB1 h2
  unfold csC
  go_enter Tryz.func8, Tryz.ntmps8
  go_wp2_with (at_builtin; refine app_slice _ rfl (.tmp 5) (.tmp 7) rfl (w.heap.size + 1) _ [] rfl h2.out c.A1 c.c1 _ c.bs rfl HC.out.n1 ((HC.out.l1.below HB1.out)) (by simp; omega) (by simp) ?_; intro v1 w1 h3 h4; have HO1 := Lib.hid h3; have HB2 := Lib.hid (HB1.out.grown h4 (by simp; omega) (fun k e => Nat.le_of_lt (Nat.lt_of_lt_of_le (by omega) (h2.out.lt k e).1))); have HA2 := Lib.hid (show CsAt w1 w.heap.size c from (h4.block w.heap.size (by simp; omega) (fun e => by have := (h2.out.lt _ e.symm).1; omega)).trans HA1.out); have hz1 := HB2.out.size; have hz2 : w.heap.size < w1.heap.size := (by have := h4.size; simp at this; omega); clear h3 h4)
  have HI : Hid (BytesI c w 0 v1 w1) := ⟨⟨_, HO1.out, by simp; omega⟩, HA2.out, HB2.out, hz2⟩
  clear HO1 HB2 HA2 HB1 HB0 HA HA1 h2
  go_loopw [3, 4] (fun v j wr => ∃ q : Nat, q ≤ c.xs.length ∧ j = .int .i64 q ∧ Hid (BytesI c w q v wr)) (fun _ j _ => c.xs.length - (intOf j).toNat)
  case atStart => exact ⟨0, by omega, rfl, HI⟩
  case round =>
    obtain ⟨q, hq, rfl, hI⟩ := hrel
    obtain ⟨⟨l2, ho, hl2⟩, hat, hbr, hzr⟩ := hI.out
    obtain ⟨c0, -, -, -, -, -⟩ := hat.cells
    by_cases hlt : q < c.xs.length
    · obtain ⟨g, o, hA0, -, d0, d1, d2, d3, d4, d5, d6⟩ := ((HC.out.below hbr).l0).at_ hlt
      obtain ⟨A2, z2, rfl, hzz, hc2, hL2⟩ := ho.form
      have HP := Lib.hid (refPut_some A2 z2 l2 c.xs[q] wr (HC.out.rng _ (List.getElem_mem hlt)) hL2 (by omega))
      have HAT := Lib.hid hat
      have HBR := Lib.hid hbr
      have HL2 := Lib.hid hl2
      rw [hA0] at c0
      clear hA0
      generalize c.xs[q] = i at *
      unfold PutW iv ic at HP
      have q0 : (0 : Int) ≤ (q : Int) := by omega
      have q1 : (q : Int) < (c.xs.length : Int) := by omega
      clear ho hat hbr hL2 hc2 HI hl2
      go_wp2_with fail
      refine HP.out.mono ?_
      rintro e w5 ⟨v5, l5, rfl, ho5, hle5, hb5⟩
      have HI5 : Hid (BytesI c w (q + 1) v5 w5) := ⟨⟨l5, ho5.base (by omega), by have := HL2.out; omega⟩, HAT.out.below hb5 hzr, HBR.out.trans (hb5.mono (by omega)), Nat.lt_of_lt_of_le hzr hb5.size⟩
      clear ho5 hle5 hb5 hI
      go_wp2_with fail
      go_roundw
      case rel => exact ⟨q + 1, by omega, by go_num, HI5⟩
      case measure => simp [intOf]; omega
    · obtain rfl : q = c.xs.length := by omega
      clear HI
      have HI' := Lib.hid hI.out
      clear hI ho hat hbr
      go_wp2_with fail
      go_ret
      obtain ⟨⟨l3, ho, hl3⟩, -, hbr, -⟩ := HI'.out
      exact ⟨_, l3, rfl, ho.base (by omega), by omega, hbr⟩

end Go.Proofs.YtnffiaphpcopjaaGreat
