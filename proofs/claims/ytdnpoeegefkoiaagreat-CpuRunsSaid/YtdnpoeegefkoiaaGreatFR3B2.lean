/-
  Merged for a claim: R3B2.
-/
import Derived.Test.YtdnpoeegefkoiaaGreatFR3B
namespace Go.Proofs.YtdnpoeegefkoiaaGreat
open Go.RowKit

set_option maxRecDepth 100000 in
set_option maxHeartbeats 1000000 in
theorem rr_6_0 (r s n : Int) (w : World) (r0 : 0 ≤ r) (r1 : r < 16) (s0 : 0 ≤ s) (s1 : s < 16) (x5 : -65536 ≤ n ∧ n ≤ 65536) : Calls Tryz.prog 31 #[.agg #[.int .u8 6, .int .u8 0, .int .i64 r, .int .i64 s, .int .i64 0, .int .i64 n, .int .i64 0]] w (RR ⟨6, 0, r, s, 0, n, 0⟩ w) := by
  have HQ := Lib.hid (show rightB ⟨6, 0, r, s, 0, n, 0⟩ = true by simp [rightB, isK, ptsOf, fitsP, dropAll, dropP, isR] <;> omega)
  have HP := Lib.hid (fun w => parts_at (k := 6) (s := [97, 110]) (b := true) (by decide) (by decide) (by decide) (by decide) w)
  have HI := Lib.hid (show InsAt (w.alloc (.cells (ic ⟨6, 0, r, s, 0, n, 0⟩) 53)) w.heap.size ⟨6, 0, r, s, 0, n, 0⟩ from heap_alloc_new _ _)
  have HB := Lib.hid (below_box w (.cells (ic ⟨6, 0, r, s, 0, n, 0⟩) 53))
  have k114 : hasB [97, 110] 114 = false := by decide
  have k97 : hasB [97, 110] 97 = true := by decide
  have k116 : hasB [97, 110] 116 = false := by decide
  have k109 : hasB [97, 110] 109 = false := by decide
  have k110 : hasB [97, 110] 110 = true := by decide
  have k106 : hasB [97, 110] 106 = false := by decide
  have k107 : hasB [97, 110] 107 = false := by decide
  have z0 : regB 0 false = true := by decide
  have q1 := regB_in r0 r1
  have q2 := regB_in s0 s1
  obtain ⟨x5a, x5b⟩ := x5
  unfold ic at HI HB
  go_enter Tryz.func31, Tryz.ntmps31
  go_wp2_with fail
  refine (HP.out _).mono ?_
  rintro e w1 ⟨rfl, hb1⟩
  have hi1 := HI.out.below hb1 (by simp)
  obtain ⟨⟨c0, c1, c2, c3, c4, c5, c6⟩, _⟩ := ins_cells hi1
  have HB1 := Lib.hid (HB.out.trans (hb1.mono (by simp)))
  clear hb1 hi1 HI HB HP
  go_wp2_with fail
  go_quiet (first
    | (go_at_call 48; exact Calls.quiet_of_same (has_q (by decide) _))
    | (go_at_call 47; exact Calls.quiet_of_same (reg_q _)))
  go_wp2_with (go_at_call 48; refine (has_any _ _ _ (by decide)).mono ?_; rintro e w' ⟨rfl, rfl⟩)
  go_ret
  exact ⟨by rw [HQ.out]; first | rfl | exact congrArg (fun b => Ending.returned (Value.bool b)) (decide_eq_false (show ¬ n ≤ 65536 by omega)) | exact congrArg (fun b => Ending.returned (Value.bool b)) (decide_eq_false (show ¬ m ≤ 65536 by omega)) | exact congrArg (fun b => Ending.returned (Value.bool b)) (decide_eq_false (show ¬ n ≤ 4 by omega)), HB1.out.trans (below_draws nq)⟩
set_option maxRecDepth 100000 in
set_option maxHeartbeats 1000000 in
theorem rr_6_1 (r s n : Int) (w : World) (r0 : 0 ≤ r) (r1 : r < 16) (s0 : 0 ≤ s) (s1 : s < 16) (x5 : n < -65536) : Calls Tryz.prog 31 #[.agg #[.int .u8 6, .int .u8 0, .int .i64 r, .int .i64 s, .int .i64 0, .int .i64 n, .int .i64 0]] w (RR ⟨6, 0, r, s, 0, n, 0⟩ w) := by
  have HQ := Lib.hid (show rightB ⟨6, 0, r, s, 0, n, 0⟩ = false by simp [rightB, isK, ptsOf, fitsP, dropAll, dropP, isR] <;> omega)
  have HP := Lib.hid (fun w => parts_at (k := 6) (s := [97, 110]) (b := true) (by decide) (by decide) (by decide) (by decide) w)
  have HI := Lib.hid (show InsAt (w.alloc (.cells (ic ⟨6, 0, r, s, 0, n, 0⟩) 53)) w.heap.size ⟨6, 0, r, s, 0, n, 0⟩ from heap_alloc_new _ _)
  have HB := Lib.hid (below_box w (.cells (ic ⟨6, 0, r, s, 0, n, 0⟩) 53))
  have k114 : hasB [97, 110] 114 = false := by decide
  have k97 : hasB [97, 110] 97 = true := by decide
  have k116 : hasB [97, 110] 116 = false := by decide
  have k109 : hasB [97, 110] 109 = false := by decide
  have k110 : hasB [97, 110] 110 = true := by decide
  have k106 : hasB [97, 110] 106 = false := by decide
  have k107 : hasB [97, 110] 107 = false := by decide
  have z0 : regB 0 false = true := by decide
  have q1 := regB_in r0 r1
  have q2 := regB_in s0 s1
  unfold ic at HI HB
  go_enter Tryz.func31, Tryz.ntmps31
  go_wp2_with fail
  refine (HP.out _).mono ?_
  rintro e w1 ⟨rfl, hb1⟩
  have hi1 := HI.out.below hb1 (by simp)
  obtain ⟨⟨c0, c1, c2, c3, c4, c5, c6⟩, _⟩ := ins_cells hi1
  have HB1 := Lib.hid (HB.out.trans (hb1.mono (by simp)))
  clear hb1 hi1 HI HB HP
  go_wp2_with fail
  go_quiet (first
    | (go_at_call 48; exact Calls.quiet_of_same (has_q (by decide) _))
    | (go_at_call 47; exact Calls.quiet_of_same (reg_q _)))
  go_wp2_with (go_at_call 48; refine (has_any _ _ _ (by decide)).mono ?_; rintro e w' ⟨rfl, rfl⟩)
  go_ret
  exact ⟨by rw [HQ.out]; first | rfl | exact congrArg (fun b => Ending.returned (Value.bool b)) (decide_eq_false (show ¬ n ≤ 65536 by omega)) | exact congrArg (fun b => Ending.returned (Value.bool b)) (decide_eq_false (show ¬ m ≤ 65536 by omega)) | exact congrArg (fun b => Ending.returned (Value.bool b)) (decide_eq_false (show ¬ n ≤ 4 by omega)), HB1.out.trans (below_draws nq)⟩
set_option maxRecDepth 100000 in
set_option maxHeartbeats 1000000 in
theorem rr_6_2 (r s n : Int) (w : World) (r0 : 0 ≤ r) (r1 : r < 16) (s0 : 0 ≤ s) (s1 : s < 16) (x5 : 65536 < n) : Calls Tryz.prog 31 #[.agg #[.int .u8 6, .int .u8 0, .int .i64 r, .int .i64 s, .int .i64 0, .int .i64 n, .int .i64 0]] w (RR ⟨6, 0, r, s, 0, n, 0⟩ w) := by
  have HQ := Lib.hid (show rightB ⟨6, 0, r, s, 0, n, 0⟩ = false by simp [rightB, isK, ptsOf, fitsP, dropAll, dropP, isR] <;> omega)
  have HP := Lib.hid (fun w => parts_at (k := 6) (s := [97, 110]) (b := true) (by decide) (by decide) (by decide) (by decide) w)
  have HI := Lib.hid (show InsAt (w.alloc (.cells (ic ⟨6, 0, r, s, 0, n, 0⟩) 53)) w.heap.size ⟨6, 0, r, s, 0, n, 0⟩ from heap_alloc_new _ _)
  have HB := Lib.hid (below_box w (.cells (ic ⟨6, 0, r, s, 0, n, 0⟩) 53))
  have k114 : hasB [97, 110] 114 = false := by decide
  have k97 : hasB [97, 110] 97 = true := by decide
  have k116 : hasB [97, 110] 116 = false := by decide
  have k109 : hasB [97, 110] 109 = false := by decide
  have k110 : hasB [97, 110] 110 = true := by decide
  have k106 : hasB [97, 110] 106 = false := by decide
  have k107 : hasB [97, 110] 107 = false := by decide
  have z0 : regB 0 false = true := by decide
  have q1 := regB_in r0 r1
  have q2 := regB_in s0 s1
  unfold ic at HI HB
  go_enter Tryz.func31, Tryz.ntmps31
  go_wp2_with fail
  refine (HP.out _).mono ?_
  rintro e w1 ⟨rfl, hb1⟩
  have hi1 := HI.out.below hb1 (by simp)
  obtain ⟨⟨c0, c1, c2, c3, c4, c5, c6⟩, _⟩ := ins_cells hi1
  have HB1 := Lib.hid (HB.out.trans (hb1.mono (by simp)))
  clear hb1 hi1 HI HB HP
  go_wp2_with fail
  go_quiet (first
    | (go_at_call 48; exact Calls.quiet_of_same (has_q (by decide) _))
    | (go_at_call 47; exact Calls.quiet_of_same (reg_q _)))
  go_wp2_with (go_at_call 48; refine (has_any _ _ _ (by decide)).mono ?_; rintro e w' ⟨rfl, rfl⟩)
  go_ret
  exact ⟨by rw [HQ.out]; first | rfl | exact congrArg (fun b => Ending.returned (Value.bool b)) (decide_eq_false (show ¬ n ≤ 65536 by omega)) | exact congrArg (fun b => Ending.returned (Value.bool b)) (decide_eq_false (show ¬ m ≤ 65536 by omega)) | exact congrArg (fun b => Ending.returned (Value.bool b)) (decide_eq_false (show ¬ n ≤ 4 by omega)), HB1.out.trans (below_draws nq)⟩
theorem refRight_6 (r s n : Int) (w : World) (r0 : 0 ≤ r) (r1 : r < 16) (s0 : 0 ≤ s) (s1 : s < 16) : Calls Tryz.prog 31 #[.agg #[.int .u8 6, .int .u8 0, .int .i64 r, .int .i64 s, .int .i64 0, .int .i64 n, .int .i64 0]] w (RR ⟨6, 0, r, s, 0, n, 0⟩ w) := by
  rcases (show (-65536 ≤ n ∧ n ≤ 65536) ∨ (n < -65536) ∨ (65536 < n) by omega) with x5 | x5 | x5
  · exact rr_6_0 r s n w r0 r1 s0 s1 x5
  · exact rr_6_1 r s n w r0 r1 s0 s1 x5
  · exact rr_6_2 r s n w r0 r1 s0 s1 x5
set_option maxRecDepth 100000 in
set_option maxHeartbeats 1000000 in
theorem rr_7_0 (r s n : Int) (w : World) (r0 : 0 ≤ r) (r1 : r < 16) (s0 : 0 ≤ s) (s1 : s < 16) (x5 : -65536 ≤ n ∧ n ≤ 65536) : Calls Tryz.prog 31 #[.agg #[.int .u8 7, .int .u8 0, .int .i64 r, .int .i64 s, .int .i64 0, .int .i64 n, .int .i64 0]] w (RR ⟨7, 0, r, s, 0, n, 0⟩ w) := by
  have HQ := Lib.hid (show rightB ⟨7, 0, r, s, 0, n, 0⟩ = true by simp [rightB, isK, ptsOf, fitsP, dropAll, dropP, isR] <;> omega)
  have HP := Lib.hid (fun w => parts_at (k := 7) (s := [97, 110]) (b := true) (by decide) (by decide) (by decide) (by decide) w)
  have HI := Lib.hid (show InsAt (w.alloc (.cells (ic ⟨7, 0, r, s, 0, n, 0⟩) 53)) w.heap.size ⟨7, 0, r, s, 0, n, 0⟩ from heap_alloc_new _ _)
  have HB := Lib.hid (below_box w (.cells (ic ⟨7, 0, r, s, 0, n, 0⟩) 53))
  have k114 : hasB [97, 110] 114 = false := by decide
  have k97 : hasB [97, 110] 97 = true := by decide
  have k116 : hasB [97, 110] 116 = false := by decide
  have k109 : hasB [97, 110] 109 = false := by decide
  have k110 : hasB [97, 110] 110 = true := by decide
  have k106 : hasB [97, 110] 106 = false := by decide
  have k107 : hasB [97, 110] 107 = false := by decide
  have z0 : regB 0 false = true := by decide
  have q1 := regB_in r0 r1
  have q2 := regB_in s0 s1
  obtain ⟨x5a, x5b⟩ := x5
  unfold ic at HI HB
  go_enter Tryz.func31, Tryz.ntmps31
  go_wp2_with fail
  refine (HP.out _).mono ?_
  rintro e w1 ⟨rfl, hb1⟩
  have hi1 := HI.out.below hb1 (by simp)
  obtain ⟨⟨c0, c1, c2, c3, c4, c5, c6⟩, _⟩ := ins_cells hi1
  have HB1 := Lib.hid (HB.out.trans (hb1.mono (by simp)))
  clear hb1 hi1 HI HB HP
  go_wp2_with fail
  go_quiet (first
    | (go_at_call 48; exact Calls.quiet_of_same (has_q (by decide) _))
    | (go_at_call 47; exact Calls.quiet_of_same (reg_q _)))
  go_wp2_with (go_at_call 48; refine (has_any _ _ _ (by decide)).mono ?_; rintro e w' ⟨rfl, rfl⟩)
  go_ret
  exact ⟨by rw [HQ.out]; first | rfl | exact congrArg (fun b => Ending.returned (Value.bool b)) (decide_eq_false (show ¬ n ≤ 65536 by omega)) | exact congrArg (fun b => Ending.returned (Value.bool b)) (decide_eq_false (show ¬ m ≤ 65536 by omega)) | exact congrArg (fun b => Ending.returned (Value.bool b)) (decide_eq_false (show ¬ n ≤ 4 by omega)), HB1.out.trans (below_draws nq)⟩
set_option maxRecDepth 100000 in
set_option maxHeartbeats 1000000 in
theorem rr_7_1 (r s n : Int) (w : World) (r0 : 0 ≤ r) (r1 : r < 16) (s0 : 0 ≤ s) (s1 : s < 16) (x5 : n < -65536) : Calls Tryz.prog 31 #[.agg #[.int .u8 7, .int .u8 0, .int .i64 r, .int .i64 s, .int .i64 0, .int .i64 n, .int .i64 0]] w (RR ⟨7, 0, r, s, 0, n, 0⟩ w) := by
  have HQ := Lib.hid (show rightB ⟨7, 0, r, s, 0, n, 0⟩ = false by simp [rightB, isK, ptsOf, fitsP, dropAll, dropP, isR] <;> omega)
  have HP := Lib.hid (fun w => parts_at (k := 7) (s := [97, 110]) (b := true) (by decide) (by decide) (by decide) (by decide) w)
  have HI := Lib.hid (show InsAt (w.alloc (.cells (ic ⟨7, 0, r, s, 0, n, 0⟩) 53)) w.heap.size ⟨7, 0, r, s, 0, n, 0⟩ from heap_alloc_new _ _)
  have HB := Lib.hid (below_box w (.cells (ic ⟨7, 0, r, s, 0, n, 0⟩) 53))
  have k114 : hasB [97, 110] 114 = false := by decide
  have k97 : hasB [97, 110] 97 = true := by decide
  have k116 : hasB [97, 110] 116 = false := by decide
  have k109 : hasB [97, 110] 109 = false := by decide
  have k110 : hasB [97, 110] 110 = true := by decide
  have k106 : hasB [97, 110] 106 = false := by decide
  have k107 : hasB [97, 110] 107 = false := by decide
  have z0 : regB 0 false = true := by decide
  have q1 := regB_in r0 r1
  have q2 := regB_in s0 s1
  unfold ic at HI HB
  go_enter Tryz.func31, Tryz.ntmps31
  go_wp2_with fail
  refine (HP.out _).mono ?_
  rintro e w1 ⟨rfl, hb1⟩
  have hi1 := HI.out.below hb1 (by simp)
  obtain ⟨⟨c0, c1, c2, c3, c4, c5, c6⟩, _⟩ := ins_cells hi1
  have HB1 := Lib.hid (HB.out.trans (hb1.mono (by simp)))
  clear hb1 hi1 HI HB HP
  go_wp2_with fail
  go_quiet (first
    | (go_at_call 48; exact Calls.quiet_of_same (has_q (by decide) _))
    | (go_at_call 47; exact Calls.quiet_of_same (reg_q _)))
  go_wp2_with (go_at_call 48; refine (has_any _ _ _ (by decide)).mono ?_; rintro e w' ⟨rfl, rfl⟩)
  go_ret
  exact ⟨by rw [HQ.out]; first | rfl | exact congrArg (fun b => Ending.returned (Value.bool b)) (decide_eq_false (show ¬ n ≤ 65536 by omega)) | exact congrArg (fun b => Ending.returned (Value.bool b)) (decide_eq_false (show ¬ m ≤ 65536 by omega)) | exact congrArg (fun b => Ending.returned (Value.bool b)) (decide_eq_false (show ¬ n ≤ 4 by omega)), HB1.out.trans (below_draws nq)⟩
set_option maxRecDepth 100000 in
set_option maxHeartbeats 1000000 in
theorem rr_7_2 (r s n : Int) (w : World) (r0 : 0 ≤ r) (r1 : r < 16) (s0 : 0 ≤ s) (s1 : s < 16) (x5 : 65536 < n) : Calls Tryz.prog 31 #[.agg #[.int .u8 7, .int .u8 0, .int .i64 r, .int .i64 s, .int .i64 0, .int .i64 n, .int .i64 0]] w (RR ⟨7, 0, r, s, 0, n, 0⟩ w) := by
  have HQ := Lib.hid (show rightB ⟨7, 0, r, s, 0, n, 0⟩ = false by simp [rightB, isK, ptsOf, fitsP, dropAll, dropP, isR] <;> omega)
  have HP := Lib.hid (fun w => parts_at (k := 7) (s := [97, 110]) (b := true) (by decide) (by decide) (by decide) (by decide) w)
  have HI := Lib.hid (show InsAt (w.alloc (.cells (ic ⟨7, 0, r, s, 0, n, 0⟩) 53)) w.heap.size ⟨7, 0, r, s, 0, n, 0⟩ from heap_alloc_new _ _)
  have HB := Lib.hid (below_box w (.cells (ic ⟨7, 0, r, s, 0, n, 0⟩) 53))
  have k114 : hasB [97, 110] 114 = false := by decide
  have k97 : hasB [97, 110] 97 = true := by decide
  have k116 : hasB [97, 110] 116 = false := by decide
  have k109 : hasB [97, 110] 109 = false := by decide
  have k110 : hasB [97, 110] 110 = true := by decide
  have k106 : hasB [97, 110] 106 = false := by decide
  have k107 : hasB [97, 110] 107 = false := by decide
  have z0 : regB 0 false = true := by decide
  have q1 := regB_in r0 r1
  have q2 := regB_in s0 s1
  unfold ic at HI HB
  go_enter Tryz.func31, Tryz.ntmps31
  go_wp2_with fail
  refine (HP.out _).mono ?_
  rintro e w1 ⟨rfl, hb1⟩
  have hi1 := HI.out.below hb1 (by simp)
  obtain ⟨⟨c0, c1, c2, c3, c4, c5, c6⟩, _⟩ := ins_cells hi1
  have HB1 := Lib.hid (HB.out.trans (hb1.mono (by simp)))
  clear hb1 hi1 HI HB HP
  go_wp2_with fail
  go_quiet (first
    | (go_at_call 48; exact Calls.quiet_of_same (has_q (by decide) _))
    | (go_at_call 47; exact Calls.quiet_of_same (reg_q _)))
  go_wp2_with (go_at_call 48; refine (has_any _ _ _ (by decide)).mono ?_; rintro e w' ⟨rfl, rfl⟩)
  go_ret
  exact ⟨by rw [HQ.out]; first | rfl | exact congrArg (fun b => Ending.returned (Value.bool b)) (decide_eq_false (show ¬ n ≤ 65536 by omega)) | exact congrArg (fun b => Ending.returned (Value.bool b)) (decide_eq_false (show ¬ m ≤ 65536 by omega)) | exact congrArg (fun b => Ending.returned (Value.bool b)) (decide_eq_false (show ¬ n ≤ 4 by omega)), HB1.out.trans (below_draws nq)⟩
theorem refRight_7 (r s n : Int) (w : World) (r0 : 0 ≤ r) (r1 : r < 16) (s0 : 0 ≤ s) (s1 : s < 16) : Calls Tryz.prog 31 #[.agg #[.int .u8 7, .int .u8 0, .int .i64 r, .int .i64 s, .int .i64 0, .int .i64 n, .int .i64 0]] w (RR ⟨7, 0, r, s, 0, n, 0⟩ w) := by
  rcases (show (-65536 ≤ n ∧ n ≤ 65536) ∨ (n < -65536) ∨ (65536 < n) by omega) with x5 | x5 | x5
  · exact rr_7_0 r s n w r0 r1 s0 s1 x5
  · exact rr_7_1 r s n w r0 r1 s0 s1 x5
  · exact rr_7_2 r s n w r0 r1 s0 s1 x5
set_option maxRecDepth 100000 in
set_option maxHeartbeats 1000000 in
theorem rr_11_0 (r n : Int) (w : World) (r0 : 0 ≤ r) (n0 : 0 ≤ n) (n1 : n < 16777216) (x1 : r < 16) : Calls Tryz.prog 31 #[.agg #[.int .u8 11, .int .u8 0, .int .i64 r, .int .i64 0, .int .i64 0, .int .i64 n, .int .i64 0]] w (RR ⟨11, 0, r, 0, 0, n, 0⟩ w) := by
  have HQ := Lib.hid (show rightB ⟨11, 0, r, 0, 0, n, 0⟩ = true by simp [rightB, isK, ptsOf, fitsP, dropAll, dropP, isR] <;> omega)
  have HP := Lib.hid (fun w => parts_at (k := 11) (s := [114, 106]) (b := true) (by decide) (by decide) (by decide) (by decide) w)
  have HI := Lib.hid (show InsAt (w.alloc (.cells (ic ⟨11, 0, r, 0, 0, n, 0⟩) 53)) w.heap.size ⟨11, 0, r, 0, 0, n, 0⟩ from heap_alloc_new _ _)
  have HB := Lib.hid (below_box w (.cells (ic ⟨11, 0, r, 0, 0, n, 0⟩) 53))
  have k114 : hasB [114, 106] 114 = true := by decide
  have k97 : hasB [114, 106] 97 = false := by decide
  have k116 : hasB [114, 106] 116 = false := by decide
  have k109 : hasB [114, 106] 109 = false := by decide
  have k110 : hasB [114, 106] 110 = false := by decide
  have k106 : hasB [114, 106] 106 = true := by decide
  have k107 : hasB [114, 106] 107 = false := by decide
  have z0 : regB 0 false = true := by decide
  have q1 := regB_in r0 x1
  unfold ic at HI HB
  go_enter Tryz.func31, Tryz.ntmps31
  go_wp2_with fail
  refine (HP.out _).mono ?_
  rintro e w1 ⟨rfl, hb1⟩
  have hi1 := HI.out.below hb1 (by simp)
  obtain ⟨⟨c0, c1, c2, c3, c4, c5, c6⟩, _⟩ := ins_cells hi1
  have HB1 := Lib.hid (HB.out.trans (hb1.mono (by simp)))
  clear hb1 hi1 HI HB HP
  go_wp2_with fail
  go_quiet (first
    | (go_at_call 48; exact Calls.quiet_of_same (has_q (by decide) _))
    | (go_at_call 47; exact Calls.quiet_of_same (reg_q _)))
  go_wp2_with (go_at_call 48; refine (has_any _ _ _ (by decide)).mono ?_; rintro e w' ⟨rfl, rfl⟩)
  go_ret
  exact ⟨by rw [HQ.out]; first | rfl | exact congrArg (fun b => Ending.returned (Value.bool b)) (decide_eq_false (show ¬ n ≤ 65536 by omega)) | exact congrArg (fun b => Ending.returned (Value.bool b)) (decide_eq_false (show ¬ m ≤ 65536 by omega)) | exact congrArg (fun b => Ending.returned (Value.bool b)) (decide_eq_false (show ¬ n ≤ 4 by omega)), HB1.out.trans (below_draws nq)⟩
set_option maxRecDepth 100000 in
set_option maxHeartbeats 1000000 in
theorem rr_11_1 (r n : Int) (w : World) (_r0 : 0 ≤ r) (_n0 : 0 ≤ n) (_n1 : n < 16777216) (x1 : ¬ r < 16) : Calls Tryz.prog 31 #[.agg #[.int .u8 11, .int .u8 0, .int .i64 r, .int .i64 0, .int .i64 0, .int .i64 n, .int .i64 0]] w (RR ⟨11, 0, r, 0, 0, n, 0⟩ w) := by
  have HQ := Lib.hid (show rightB ⟨11, 0, r, 0, 0, n, 0⟩ = false by simp [rightB, isK, ptsOf, fitsP, dropAll, dropP, isR] <;> omega)
  have HP := Lib.hid (fun w => parts_at (k := 11) (s := [114, 106]) (b := true) (by decide) (by decide) (by decide) (by decide) w)
  have HI := Lib.hid (show InsAt (w.alloc (.cells (ic ⟨11, 0, r, 0, 0, n, 0⟩) 53)) w.heap.size ⟨11, 0, r, 0, 0, n, 0⟩ from heap_alloc_new _ _)
  have HB := Lib.hid (below_box w (.cells (ic ⟨11, 0, r, 0, 0, n, 0⟩) 53))
  have k114 : hasB [114, 106] 114 = true := by decide
  have k97 : hasB [114, 106] 97 = false := by decide
  have k116 : hasB [114, 106] 116 = false := by decide
  have k109 : hasB [114, 106] 109 = false := by decide
  have k110 : hasB [114, 106] 110 = false := by decide
  have k106 : hasB [114, 106] 106 = true := by decide
  have k107 : hasB [114, 106] 107 = false := by decide
  have z0 : regB 0 false = true := by decide
  have q1 := regB_out x1
  unfold ic at HI HB
  go_enter Tryz.func31, Tryz.ntmps31
  go_wp2_with fail
  refine (HP.out _).mono ?_
  rintro e w1 ⟨rfl, hb1⟩
  have hi1 := HI.out.below hb1 (by simp)
  obtain ⟨⟨c0, c1, c2, c3, c4, c5, c6⟩, _⟩ := ins_cells hi1
  have HB1 := Lib.hid (HB.out.trans (hb1.mono (by simp)))
  clear hb1 hi1 HI HB HP
  go_wp2_with fail
  go_quiet (first
    | (go_at_call 48; exact Calls.quiet_of_same (has_q (by decide) _))
    | (go_at_call 47; exact Calls.quiet_of_same (reg_q _)))
  go_wp2_with (go_at_call 48; refine (has_any _ _ _ (by decide)).mono ?_; rintro e w' ⟨rfl, rfl⟩)
  go_ret
  exact ⟨by rw [HQ.out]; first | rfl | exact congrArg (fun b => Ending.returned (Value.bool b)) (decide_eq_false (show ¬ n ≤ 65536 by omega)) | exact congrArg (fun b => Ending.returned (Value.bool b)) (decide_eq_false (show ¬ m ≤ 65536 by omega)) | exact congrArg (fun b => Ending.returned (Value.bool b)) (decide_eq_false (show ¬ n ≤ 4 by omega)), HB1.out.trans (below_draws nq)⟩
theorem refRight_11 (r n : Int) (w : World) (r0 : 0 ≤ r) (n0 : 0 ≤ n) (n1 : n < 16777216) : Calls Tryz.prog 31 #[.agg #[.int .u8 11, .int .u8 0, .int .i64 r, .int .i64 0, .int .i64 0, .int .i64 n, .int .i64 0]] w (RR ⟨11, 0, r, 0, 0, n, 0⟩ w) := by
  rcases (show (r < 16) ∨ (¬ r < 16) by omega) with x1 | x1
  · exact rr_11_0 r n w r0 n0 n1 x1
  · exact rr_11_1 r n w r0 n0 n1 x1
set_option maxRecDepth 100000 in
set_option maxHeartbeats 1000000 in
theorem rr_14_0 (n : Int) (w : World)  (x5 : -65536 ≤ n ∧ n ≤ 65536) : Calls Tryz.prog 31 #[.agg #[.int .u8 14, .int .u8 0, .int .i64 0, .int .i64 0, .int .i64 0, .int .i64 n, .int .i64 0]] w (RR ⟨14, 0, 0, 0, 0, n, 0⟩ w) := by
  have HQ := Lib.hid (show rightB ⟨14, 0, 0, 0, 0, n, 0⟩ = true by simp [rightB, isK, ptsOf, fitsP, dropAll, dropP, isR] <;> omega)
  have HP := Lib.hid (fun w => parts_at (k := 14) (s := [110]) (b := true) (by decide) (by decide) (by decide) (by decide) w)
  have HI := Lib.hid (show InsAt (w.alloc (.cells (ic ⟨14, 0, 0, 0, 0, n, 0⟩) 53)) w.heap.size ⟨14, 0, 0, 0, 0, n, 0⟩ from heap_alloc_new _ _)
  have HB := Lib.hid (below_box w (.cells (ic ⟨14, 0, 0, 0, 0, n, 0⟩) 53))
  have k114 : hasB [110] 114 = false := by decide
  have k97 : hasB [110] 97 = false := by decide
  have k116 : hasB [110] 116 = false := by decide
  have k109 : hasB [110] 109 = false := by decide
  have k110 : hasB [110] 110 = true := by decide
  have k106 : hasB [110] 106 = false := by decide
  have k107 : hasB [110] 107 = false := by decide
  have z0 : regB 0 false = true := by decide
  obtain ⟨x5a, x5b⟩ := x5
  unfold ic at HI HB
  go_enter Tryz.func31, Tryz.ntmps31
  go_wp2_with fail
  refine (HP.out _).mono ?_
  rintro e w1 ⟨rfl, hb1⟩
  have hi1 := HI.out.below hb1 (by simp)
  obtain ⟨⟨c0, c1, c2, c3, c4, c5, c6⟩, _⟩ := ins_cells hi1
  have HB1 := Lib.hid (HB.out.trans (hb1.mono (by simp)))
  clear hb1 hi1 HI HB HP
  go_wp2_with fail
  go_quiet (first
    | (go_at_call 48; exact Calls.quiet_of_same (has_q (by decide) _))
    | (go_at_call 47; exact Calls.quiet_of_same (reg_q _)))
  go_wp2_with (go_at_call 48; refine (has_any _ _ _ (by decide)).mono ?_; rintro e w' ⟨rfl, rfl⟩)
  go_ret
  exact ⟨by rw [HQ.out]; first | rfl | exact congrArg (fun b => Ending.returned (Value.bool b)) (decide_eq_false (show ¬ n ≤ 65536 by omega)) | exact congrArg (fun b => Ending.returned (Value.bool b)) (decide_eq_false (show ¬ m ≤ 65536 by omega)) | exact congrArg (fun b => Ending.returned (Value.bool b)) (decide_eq_false (show ¬ n ≤ 4 by omega)), HB1.out.trans (below_draws nq)⟩
set_option maxRecDepth 100000 in
set_option maxHeartbeats 1000000 in
theorem rr_14_1 (n : Int) (w : World)  (x5 : n < -65536) : Calls Tryz.prog 31 #[.agg #[.int .u8 14, .int .u8 0, .int .i64 0, .int .i64 0, .int .i64 0, .int .i64 n, .int .i64 0]] w (RR ⟨14, 0, 0, 0, 0, n, 0⟩ w) := by
  have HQ := Lib.hid (show rightB ⟨14, 0, 0, 0, 0, n, 0⟩ = false by simp [rightB, isK, ptsOf, fitsP, dropAll, dropP, isR] <;> omega)
  have HP := Lib.hid (fun w => parts_at (k := 14) (s := [110]) (b := true) (by decide) (by decide) (by decide) (by decide) w)
  have HI := Lib.hid (show InsAt (w.alloc (.cells (ic ⟨14, 0, 0, 0, 0, n, 0⟩) 53)) w.heap.size ⟨14, 0, 0, 0, 0, n, 0⟩ from heap_alloc_new _ _)
  have HB := Lib.hid (below_box w (.cells (ic ⟨14, 0, 0, 0, 0, n, 0⟩) 53))
  have k114 : hasB [110] 114 = false := by decide
  have k97 : hasB [110] 97 = false := by decide
  have k116 : hasB [110] 116 = false := by decide
  have k109 : hasB [110] 109 = false := by decide
  have k110 : hasB [110] 110 = true := by decide
  have k106 : hasB [110] 106 = false := by decide
  have k107 : hasB [110] 107 = false := by decide
  have z0 : regB 0 false = true := by decide
  unfold ic at HI HB
  go_enter Tryz.func31, Tryz.ntmps31
  go_wp2_with fail
  refine (HP.out _).mono ?_
  rintro e w1 ⟨rfl, hb1⟩
  have hi1 := HI.out.below hb1 (by simp)
  obtain ⟨⟨c0, c1, c2, c3, c4, c5, c6⟩, _⟩ := ins_cells hi1
  have HB1 := Lib.hid (HB.out.trans (hb1.mono (by simp)))
  clear hb1 hi1 HI HB HP
  go_wp2_with fail
  go_quiet (first
    | (go_at_call 48; exact Calls.quiet_of_same (has_q (by decide) _))
    | (go_at_call 47; exact Calls.quiet_of_same (reg_q _)))
  go_wp2_with (go_at_call 48; refine (has_any _ _ _ (by decide)).mono ?_; rintro e w' ⟨rfl, rfl⟩)
  go_ret
  exact ⟨by rw [HQ.out]; first | rfl | exact congrArg (fun b => Ending.returned (Value.bool b)) (decide_eq_false (show ¬ n ≤ 65536 by omega)) | exact congrArg (fun b => Ending.returned (Value.bool b)) (decide_eq_false (show ¬ m ≤ 65536 by omega)) | exact congrArg (fun b => Ending.returned (Value.bool b)) (decide_eq_false (show ¬ n ≤ 4 by omega)), HB1.out.trans (below_draws nq)⟩
set_option maxRecDepth 100000 in
set_option maxHeartbeats 1000000 in
theorem rr_14_2 (n : Int) (w : World)  (x5 : 65536 < n) : Calls Tryz.prog 31 #[.agg #[.int .u8 14, .int .u8 0, .int .i64 0, .int .i64 0, .int .i64 0, .int .i64 n, .int .i64 0]] w (RR ⟨14, 0, 0, 0, 0, n, 0⟩ w) := by
  have HQ := Lib.hid (show rightB ⟨14, 0, 0, 0, 0, n, 0⟩ = false by simp [rightB, isK, ptsOf, fitsP, dropAll, dropP, isR] <;> omega)
  have HP := Lib.hid (fun w => parts_at (k := 14) (s := [110]) (b := true) (by decide) (by decide) (by decide) (by decide) w)
  have HI := Lib.hid (show InsAt (w.alloc (.cells (ic ⟨14, 0, 0, 0, 0, n, 0⟩) 53)) w.heap.size ⟨14, 0, 0, 0, 0, n, 0⟩ from heap_alloc_new _ _)
  have HB := Lib.hid (below_box w (.cells (ic ⟨14, 0, 0, 0, 0, n, 0⟩) 53))
  have k114 : hasB [110] 114 = false := by decide
  have k97 : hasB [110] 97 = false := by decide
  have k116 : hasB [110] 116 = false := by decide
  have k109 : hasB [110] 109 = false := by decide
  have k110 : hasB [110] 110 = true := by decide
  have k106 : hasB [110] 106 = false := by decide
  have k107 : hasB [110] 107 = false := by decide
  have z0 : regB 0 false = true := by decide
  unfold ic at HI HB
  go_enter Tryz.func31, Tryz.ntmps31
  go_wp2_with fail
  refine (HP.out _).mono ?_
  rintro e w1 ⟨rfl, hb1⟩
  have hi1 := HI.out.below hb1 (by simp)
  obtain ⟨⟨c0, c1, c2, c3, c4, c5, c6⟩, _⟩ := ins_cells hi1
  have HB1 := Lib.hid (HB.out.trans (hb1.mono (by simp)))
  clear hb1 hi1 HI HB HP
  go_wp2_with fail
  go_quiet (first
    | (go_at_call 48; exact Calls.quiet_of_same (has_q (by decide) _))
    | (go_at_call 47; exact Calls.quiet_of_same (reg_q _)))
  go_wp2_with (go_at_call 48; refine (has_any _ _ _ (by decide)).mono ?_; rintro e w' ⟨rfl, rfl⟩)
  go_ret
  exact ⟨by rw [HQ.out]; first | rfl | exact congrArg (fun b => Ending.returned (Value.bool b)) (decide_eq_false (show ¬ n ≤ 65536 by omega)) | exact congrArg (fun b => Ending.returned (Value.bool b)) (decide_eq_false (show ¬ m ≤ 65536 by omega)) | exact congrArg (fun b => Ending.returned (Value.bool b)) (decide_eq_false (show ¬ n ≤ 4 by omega)), HB1.out.trans (below_draws nq)⟩
theorem refRight_14 (n : Int) (w : World)  : Calls Tryz.prog 31 #[.agg #[.int .u8 14, .int .u8 0, .int .i64 0, .int .i64 0, .int .i64 0, .int .i64 n, .int .i64 0]] w (RR ⟨14, 0, 0, 0, 0, n, 0⟩ w) := by
  rcases (show (-65536 ≤ n ∧ n ≤ 65536) ∨ (n < -65536) ∨ (65536 < n) by omega) with x5 | x5 | x5
  · exact rr_14_0 n w  x5
  · exact rr_14_1 n w  x5
  · exact rr_14_2 n w  x5

end Go.Proofs.YtdnpoeegefkoiaaGreat
