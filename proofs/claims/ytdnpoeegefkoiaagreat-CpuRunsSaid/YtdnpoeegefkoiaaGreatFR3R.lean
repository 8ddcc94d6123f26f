/-
  Merged for a claim: R3R.
-/
import Derived.Test.YtdnpoeegefkoiaaGreatFR3B
import Derived.Deep.QuietTactic
import Derived.BigQuiet
namespace Go.Proofs.YtdnpoeegefkoiaaGreat
open Go.RowKit

def SomeB (w : World) (e : Ending) (w' : World) : Prop := ∃ b : Bool, e = .returned (.bool b) ∧ Below w.heap.size w w'
theorem sOf_len (k : Int) : (sOf k).length ≤ 100 := by
  have : (sOf k).length = (ptsOf k).length := by simp [sOf]
  rw [this]
  unfold ptsOf
  repeat' split
  all_goals simp

set_option maxRecDepth 100000 in
set_option maxHeartbeats 4000000 in
theorem refRight_some (i : Ins) (w : World) (hr : i.Rng) : Calls Tryz.prog 31 #[iv i] w (SomeB w) := by
  have HP := Lib.hid (fun w => refParts_any i.k w hr.k0 hr.k1)
  have HI := Lib.hid (show InsAt (w.alloc (.cells (ic i) 53)) w.heap.size i from heap_alloc_new _ _)
  have HB := Lib.hid (below_box w (.cells (ic i) 53))
  have HL := Lib.hid (sOf_len i.k)
  clear hr
  unfold PartsR3 at HP
  generalize sOf i.k = s at *
  generalize isK i.k = is at *
  have HH := Lib.hid (fun c w => has_any s c w HL.out)
  unfold ic at HI HB
  unfold iv ic
  cases is
  · go_enter Tryz.func31, Tryz.ntmps31
    go_wp2_with fail
    refine (HP.out _).mono ?_
    rintro e w1 ⟨rfl, hb1⟩
    have hi1 := HI.out.below hb1 (by simp)
    obtain ⟨⟨c0, c1, c2, c3, c4, c5, c6⟩, _⟩ := ins_cells hi1
    have HB1 := Lib.hid (HB.out.trans (hb1.mono (by simp)))
    clear hb1 hi1 HI HB HP
    go_wp2_with fail
    go_quiet (fail)
    go_wp2_with fail
    go_ret
    exact ⟨_, rfl, HB1.out.trans (below_draws nq)⟩
  · cases h114 : hasB s 114
    all_goals
      rcases hx1 : regB i.r (hasB s 114 || hasB s 97) with _ | _
      rotate_left
      rcases hx2 : regB i.s (hasB s 97) with _ | _
      rotate_left
      rcases hx3 : regB i.t (hasB s 116) with _ | _
    all_goals
      rw [h114] at hx1
      simp only [Bool.true_or, Bool.false_or] at hx1
      go_enter Tryz.func31, Tryz.ntmps31
      go_wp2_with fail
      refine (HP.out _).mono ?_
      rintro e w1 ⟨rfl, hb1⟩
      have hi1 := HI.out.below hb1 (by simp)
      obtain ⟨⟨c0, c1, c2, c3, c4, c5, c6⟩, _⟩ := ins_cells hi1
      have HB1 := Lib.hid (HB.out.trans (hb1.mono (by simp)))
      clear hb1 hi1 HI HB HP
      go_wp2_with fail
      go_quiet (first
        | (go_at_call 48; exact Calls.quiet_of_same (has_q HL.out _))
        | (go_at_call 47; exact Calls.quiet_of_same (reg_q _)))
      clear hx1
      try clear hx2
      try clear hx3
      go_wp2_with (go_at_call 48; refine (HH.out _ _).mono ?_; rintro e w' ⟨rfl, rfl⟩)
      all_goals
        go_ret
        exact ⟨_, rfl, HB1.out.trans (below_draws nq)⟩

end Go.Proofs.YtdnpoeegefkoiaaGreat
