/-
  Merged for a claim: R3B4.
-/
import Derived.Test.YtdnpoeegefkoiaaGreatFR3B
namespace Go.Proofs.YtdnpoeegefkoiaaGreat
open Go.RowKit

set_option maxRecDepth 100000 in
set_option maxHeartbeats 1000000 in
theorem rr_10_0 (n : Int) (w : World) (n0 : 0 ≤ n) (n1 : n < 16777216)  : Calls Tryz.prog 31 #[.agg #[.int .u8 10, .int .u8 0, .int .i64 0, .int .i64 0, .int .i64 0, .int .i64 n, .int .i64 0]] w (RR ⟨10, 0, 0, 0, 0, n, 0⟩ w) := by
  have HQ := Lib.hid (show rightB ⟨10, 0, 0, 0, 0, n, 0⟩ = true by simp [rightB, isK, ptsOf, fitsP, dropAll, dropP, isR] <;> omega)
  have HP := Lib.hid (fun w => parts_at (k := 10) (s := [106]) (b := true) (by decide) (by decide) (by decide) (by decide) w)
  have HI := Lib.hid (show InsAt (w.alloc (.cells (ic ⟨10, 0, 0, 0, 0, n, 0⟩) 53)) w.heap.size ⟨10, 0, 0, 0, 0, n, 0⟩ from heap_alloc_new _ _)
  have HB := Lib.hid (below_box w (.cells (ic ⟨10, 0, 0, 0, 0, n, 0⟩) 53))
  have k114 : hasB [106] 114 = false := by decide
  have k97 : hasB [106] 97 = false := by decide
  have k116 : hasB [106] 116 = false := by decide
  have k109 : hasB [106] 109 = false := by decide
  have k110 : hasB [106] 110 = false := by decide
  have k106 : hasB [106] 106 = true := by decide
  have k107 : hasB [106] 107 = false := by decide
  have z0 : regB 0 false = true := by decide
  unfold ic at HI HB
  go_enter Tryz.func31, Tryz.ntmps31
  go_wp2_with fail
  refine (HP.out _).mono ?_
  rintro e w1 ⟨rfl, hb1⟩
  have hi1 := HI.out.below hb1 (by simp)
  obtain ⟨⟨c0, c1, c2, c3, c4, c5, c6⟩, _⟩ := ins_cells hi1
  have HB1 := Lib.hid (HB.out.trans (hb1.mono (by simp)))
  clear hb1 hi1 HI HB HP
  go_wp2_with fail
  go_quiet (first
    | (go_at_call 48; exact Calls.quiet_of_same (has_q (by decide) _))
    | (go_at_call 47; exact Calls.quiet_of_same (reg_q _)))
  go_wp2_with (go_at_call 48; refine (has_any _ _ _ (by decide)).mono ?_; rintro e w' ⟨rfl, rfl⟩)
  go_ret
  exact ⟨by rw [HQ.out]; first | rfl | exact congrArg (fun b => Ending.returned (Value.bool b)) (decide_eq_false (show ¬ n ≤ 65536 by omega)) | exact congrArg (fun b => Ending.returned (Value.bool b)) (decide_eq_false (show ¬ m ≤ 65536 by omega)) | exact congrArg (fun b => Ending.returned (Value.bool b)) (decide_eq_false (show ¬ n ≤ 4 by omega)), HB1.out.trans (below_draws nq)⟩
theorem refRight_10 (n : Int) (w : World) (n0 : 0 ≤ n) (n1 : n < 16777216) : Calls Tryz.prog 31 #[.agg #[.int .u8 10, .int .u8 0, .int .i64 0, .int .i64 0, .int .i64 0, .int .i64 n, .int .i64 0]] w (RR ⟨10, 0, 0, 0, 0, n, 0⟩ w) := by
  exact rr_10_0 n w n0 n1 
set_option maxRecDepth 100000 in
set_option maxHeartbeats 1000000 in
theorem rr_12_0 (n : Int) (w : World) (n0 : 0 ≤ n) (n1 : n < 16777216)  : Calls Tryz.prog 31 #[.agg #[.int .u8 12, .int .u8 0, .int .i64 0, .int .i64 0, .int .i64 0, .int .i64 n, .int .i64 0]] w (RR ⟨12, 0, 0, 0, 0, n, 0⟩ w) := by
  have HQ := Lib.hid (show rightB ⟨12, 0, 0, 0, 0, n, 0⟩ = true by simp [rightB, isK, ptsOf, fitsP, dropAll, dropP, isR] <;> omega)
  have HP := Lib.hid (fun w => parts_at (k := 12) (s := [106]) (b := true) (by decide) (by decide) (by decide) (by decide) w)
  have HI := Lib.hid (show InsAt (w.alloc (.cells (ic ⟨12, 0, 0, 0, 0, n, 0⟩) 53)) w.heap.size ⟨12, 0, 0, 0, 0, n, 0⟩ from heap_alloc_new _ _)
  have HB := Lib.hid (below_box w (.cells (ic ⟨12, 0, 0, 0, 0, n, 0⟩) 53))
  have k114 : hasB [106] 114 = false := by decide
  have k97 : hasB [106] 97 = false := by decide
  have k116 : hasB [106] 116 = false := by decide
  have k109 : hasB [106] 109 = false := by decide
  have k110 : hasB [106] 110 = false := by decide
  have k106 : hasB [106] 106 = true := by decide
  have k107 : hasB [106] 107 = false := by decide
  have z0 : regB 0 false = true := by decide
  unfold ic at HI HB
  go_enter Tryz.func31, Tryz.ntmps31
  go_wp2_with fail
  refine (HP.out _).mono ?_
  rintro e w1 ⟨rfl, hb1⟩
  have hi1 := HI.out.below hb1 (by simp)
  obtain ⟨⟨c0, c1, c2, c3, c4, c5, c6⟩, _⟩ := ins_cells hi1
  have HB1 := Lib.hid (HB.out.trans (hb1.mono (by simp)))
  clear hb1 hi1 HI HB HP
  go_wp2_with fail
  go_quiet (first
    | (go_at_call 48; exact Calls.quiet_of_same (has_q (by decide) _))
    | (go_at_call 47; exact Calls.quiet_of_same (reg_q _)))
  go_wp2_with (go_at_call 48; refine (has_any _ _ _ (by decide)).mono ?_; rintro e w' ⟨rfl, rfl⟩)
  go_ret
  exact ⟨by rw [HQ.out]; first | rfl | exact congrArg (fun b => Ending.returned (Value.bool b)) (decide_eq_false (show ¬ n ≤ 65536 by omega)) | exact congrArg (fun b => Ending.returned (Value.bool b)) (decide_eq_false (show ¬ m ≤ 65536 by omega)) | exact congrArg (fun b => Ending.returned (Value.bool b)) (decide_eq_false (show ¬ n ≤ 4 by omega)), HB1.out.trans (below_draws nq)⟩
theorem refRight_12 (n : Int) (w : World) (n0 : 0 ≤ n) (n1 : n < 16777216) : Calls Tryz.prog 31 #[.agg #[.int .u8 12, .int .u8 0, .int .i64 0, .int .i64 0, .int .i64 0, .int .i64 n, .int .i64 0]] w (RR ⟨12, 0, 0, 0, 0, n, 0⟩ w) := by
  exact rr_12_0 n w n0 n1 
set_option maxRecDepth 100000 in
set_option maxHeartbeats 1000000 in
theorem rr_13_0 (w : World)   : Calls Tryz.prog 31 #[.agg #[.int .u8 13, .int .u8 0, .int .i64 0, .int .i64 0, .int .i64 0, .int .i64 0, .int .i64 0]] w (RR ⟨13, 0, 0, 0, 0, 0, 0⟩ w) := by
  have HQ := Lib.hid (show rightB ⟨13, 0, 0, 0, 0, 0, 0⟩ = true by simp [rightB, isK, ptsOf, fitsP, dropAll, dropP, isR] <;> omega)
  have HP := Lib.hid (fun w => parts_at (k := 13) (s := []) (b := true) (by decide) (by decide) (by decide) (by decide) w)
  have HI := Lib.hid (show InsAt (w.alloc (.cells (ic ⟨13, 0, 0, 0, 0, 0, 0⟩) 53)) w.heap.size ⟨13, 0, 0, 0, 0, 0, 0⟩ from heap_alloc_new _ _)
  have HB := Lib.hid (below_box w (.cells (ic ⟨13, 0, 0, 0, 0, 0, 0⟩) 53))
  have k114 : hasB [] 114 = false := by decide
  have k97 : hasB [] 97 = false := by decide
  have k116 : hasB [] 116 = false := by decide
  have k109 : hasB [] 109 = false := by decide
  have k110 : hasB [] 110 = false := by decide
  have k106 : hasB [] 106 = false := by decide
  have k107 : hasB [] 107 = false := by decide
  have z0 : regB 0 false = true := by decide
  unfold ic at HI HB
  go_enter Tryz.func31, Tryz.ntmps31
  go_wp2_with fail
  refine (HP.out _).mono ?_
  rintro e w1 ⟨rfl, hb1⟩
  have hi1 := HI.out.below hb1 (by simp)
  obtain ⟨⟨c0, c1, c2, c3, c4, c5, c6⟩, _⟩ := ins_cells hi1
  have HB1 := Lib.hid (HB.out.trans (hb1.mono (by simp)))
  clear hb1 hi1 HI HB HP
  go_wp2_with fail
  go_quiet (first
    | (go_at_call 48; exact Calls.quiet_of_same (has_q (by decide) _))
    | (go_at_call 47; exact Calls.quiet_of_same (reg_q _)))
  go_wp2_with (go_at_call 48; refine (has_any _ _ _ (by decide)).mono ?_; rintro e w' ⟨rfl, rfl⟩)
  go_ret
  exact ⟨by rw [HQ.out]; first | rfl | exact congrArg (fun b => Ending.returned (Value.bool b)) (decide_eq_false (show ¬ n ≤ 65536 by omega)) | exact congrArg (fun b => Ending.returned (Value.bool b)) (decide_eq_false (show ¬ m ≤ 65536 by omega)) | exact congrArg (fun b => Ending.returned (Value.bool b)) (decide_eq_false (show ¬ n ≤ 4 by omega)), HB1.out.trans (below_draws nq)⟩
theorem refRight_13 (w : World)  : Calls Tryz.prog 31 #[.agg #[.int .u8 13, .int .u8 0, .int .i64 0, .int .i64 0, .int .i64 0, .int .i64 0, .int .i64 0]] w (RR ⟨13, 0, 0, 0, 0, 0, 0⟩ w) := by
  exact rr_13_0  w  
set_option maxRecDepth 100000 in
set_option maxHeartbeats 1000000 in
theorem rr_15_0 (r : Int) (w : World) (r0 : 0 ≤ r) (x1 : r < 16) : Calls Tryz.prog 31 #[.agg #[.int .u8 15, .int .u8 0, .int .i64 r, .int .i64 0, .int .i64 0, .int .i64 0, .int .i64 0]] w (RR ⟨15, 0, r, 0, 0, 0, 0⟩ w) := by
  have HQ := Lib.hid (show rightB ⟨15, 0, r, 0, 0, 0, 0⟩ = true by simp [rightB, isK, ptsOf, fitsP, dropAll, dropP, isR] <;> omega)
  have HP := Lib.hid (fun w => parts_at (k := 15) (s := [114]) (b := true) (by decide) (by decide) (by decide) (by decide) w)
  have HI := Lib.hid (show InsAt (w.alloc (.cells (ic ⟨15, 0, r, 0, 0, 0, 0⟩) 53)) w.heap.size ⟨15, 0, r, 0, 0, 0, 0⟩ from heap_alloc_new _ _)
  have HB := Lib.hid (below_box w (.cells (ic ⟨15, 0, r, 0, 0, 0, 0⟩) 53))
  have k114 : hasB [114] 114 = true := by decide
  have k97 : hasB [114] 97 = false := by decide
  have k116 : hasB [114] 116 = false := by decide
  have k109 : hasB [114] 109 = false := by decide
  have k110 : hasB [114] 110 = false := by decide
  have k106 : hasB [114] 106 = false := by decide
  have k107 : hasB [114] 107 = false := by decide
  have z0 : regB 0 false = true := by decide
  have q1 := regB_in r0 x1
  unfold ic at HI HB
  go_enter Tryz.func31, Tryz.ntmps31
  go_wp2_with fail
  refine (HP.out _).mono ?_
  rintro e w1 ⟨rfl, hb1⟩
  have hi1 := HI.out.below hb1 (by simp)
  obtain ⟨⟨c0, c1, c2, c3, c4, c5, c6⟩, _⟩ := ins_cells hi1
  have HB1 := Lib.hid (HB.out.trans (hb1.mono (by simp)))
  clear hb1 hi1 HI HB HP
  go_wp2_with fail
  go_quiet (first
    | (go_at_call 48; exact Calls.quiet_of_same (has_q (by decide) _))
    | (go_at_call 47; exact Calls.quiet_of_same (reg_q _)))
  go_wp2_with (go_at_call 48; refine (has_any _ _ _ (by decide)).mono ?_; rintro e w' ⟨rfl, rfl⟩)
  go_ret
  exact ⟨by rw [HQ.out]; first | rfl | exact congrArg (fun b => Ending.returned (Value.bool b)) (decide_eq_false (show ¬ n ≤ 65536 by omega)) | exact congrArg (fun b => Ending.returned (Value.bool b)) (decide_eq_false (show ¬ m ≤ 65536 by omega)) | exact congrArg (fun b => Ending.returned (Value.bool b)) (decide_eq_false (show ¬ n ≤ 4 by omega)), HB1.out.trans (below_draws nq)⟩
set_option maxRecDepth 100000 in
set_option maxHeartbeats 1000000 in
theorem rr_15_1 (r : Int) (w : World) (_r0 : 0 ≤ r) (x1 : ¬ r < 16) : Calls Tryz.prog 31 #[.agg #[.int .u8 15, .int .u8 0, .int .i64 r, .int .i64 0, .int .i64 0, .int .i64 0, .int .i64 0]] w (RR ⟨15, 0, r, 0, 0, 0, 0⟩ w) := by
  have HQ := Lib.hid (show rightB ⟨15, 0, r, 0, 0, 0, 0⟩ = false by simp [rightB, isK, ptsOf, fitsP, dropAll, dropP, isR] <;> omega)
  have HP := Lib.hid (fun w => parts_at (k := 15) (s := [114]) (b := true) (by decide) (by decide) (by decide) (by decide) w)
  have HI := Lib.hid (show InsAt (w.alloc (.cells (ic ⟨15, 0, r, 0, 0, 0, 0⟩) 53)) w.heap.size ⟨15, 0, r, 0, 0, 0, 0⟩ from heap_alloc_new _ _)
  have HB := Lib.hid (below_box w (.cells (ic ⟨15, 0, r, 0, 0, 0, 0⟩) 53))
  have k114 : hasB [114] 114 = true := by decide
  have k97 : hasB [114] 97 = false := by decide
  have k116 : hasB [114] 116 = false := by decide
  have k109 : hasB [114] 109 = false := by decide
  have k110 : hasB [114] 110 = false := by decide
  have k106 : hasB [114] 106 = false := by decide
  have k107 : hasB [114] 107 = false := by decide
  have z0 : regB 0 false = true := by decide
  have q1 := regB_out x1
  unfold ic at HI HB
  go_enter Tryz.func31, Tryz.ntmps31
  go_wp2_with fail
  refine (HP.out _).mono ?_
  rintro e w1 ⟨rfl, hb1⟩
  have hi1 := HI.out.below hb1 (by simp)
  obtain ⟨⟨c0, c1, c2, c3, c4, c5, c6⟩, _⟩ := ins_cells hi1
  have HB1 := Lib.hid (HB.out.trans (hb1.mono (by simp)))
  clear hb1 hi1 HI HB HP
  go_wp2_with fail
  go_quiet (first
    | (go_at_call 48; exact Calls.quiet_of_same (has_q (by decide) _))
    | (go_at_call 47; exact Calls.quiet_of_same (reg_q _)))
  go_wp2_with (go_at_call 48; refine (has_any _ _ _ (by decide)).mono ?_; rintro e w' ⟨rfl, rfl⟩)
  go_ret
  exact ⟨by rw [HQ.out]; first | rfl | exact congrArg (fun b => Ending.returned (Value.bool b)) (decide_eq_false (show ¬ n ≤ 65536 by omega)) | exact congrArg (fun b => Ending.returned (Value.bool b)) (decide_eq_false (show ¬ m ≤ 65536 by omega)) | exact congrArg (fun b => Ending.returned (Value.bool b)) (decide_eq_false (show ¬ n ≤ 4 by omega)), HB1.out.trans (below_draws nq)⟩
theorem refRight_15 (r : Int) (w : World) (r0 : 0 ≤ r) : Calls Tryz.prog 31 #[.agg #[.int .u8 15, .int .u8 0, .int .i64 r, .int .i64 0, .int .i64 0, .int .i64 0, .int .i64 0]] w (RR ⟨15, 0, r, 0, 0, 0, 0⟩ w) := by
  rcases (show (r < 16) ∨ (¬ r < 16) by omega) with x1 | x1
  · exact rr_15_0 r w r0 x1
  · exact rr_15_1 r w r0 x1
set_option maxRecDepth 100000 in
set_option maxHeartbeats 1000000 in
theorem rr_16_0 (r : Int) (w : World) (r0 : 0 ≤ r) (x1 : r < 16) : Calls Tryz.prog 31 #[.agg #[.int .u8 16, .int .u8 0, .int .i64 r, .int .i64 0, .int .i64 0, .int .i64 0, .int .i64 0]] w (RR ⟨16, 0, r, 0, 0, 0, 0⟩ w) := by
  have HQ := Lib.hid (show rightB ⟨16, 0, r, 0, 0, 0, 0⟩ = true by simp [rightB, isK, ptsOf, fitsP, dropAll, dropP, isR] <;> omega)
  have HP := Lib.hid (fun w => parts_at (k := 16) (s := [114]) (b := true) (by decide) (by decide) (by decide) (by decide) w)
  have HI := Lib.hid (show InsAt (w.alloc (.cells (ic ⟨16, 0, r, 0, 0, 0, 0⟩) 53)) w.heap.size ⟨16, 0, r, 0, 0, 0, 0⟩ from heap_alloc_new _ _)
  have HB := Lib.hid (below_box w (.cells (ic ⟨16, 0, r, 0, 0, 0, 0⟩) 53))
  have k114 : hasB [114] 114 = true := by decide
  have k97 : hasB [114] 97 = false := by decide
  have k116 : hasB [114] 116 = false := by decide
  have k109 : hasB [114] 109 = false := by decide
  have k110 : hasB [114] 110 = false := by decide
  have k106 : hasB [114] 106 = false := by decide
  have k107 : hasB [114] 107 = false := by decide
  have z0 : regB 0 false = true := by decide
  have q1 := regB_in r0 x1
  unfold ic at HI HB
  go_enter Tryz.func31, Tryz.ntmps31
  go_wp2_with fail
  refine (HP.out _).mono ?_
  rintro e w1 ⟨rfl, hb1⟩
  have hi1 := HI.out.below hb1 (by simp)
  obtain ⟨⟨c0, c1, c2, c3, c4, c5, c6⟩, _⟩ := ins_cells hi1
  have HB1 := Lib.hid (HB.out.trans (hb1.mono (by simp)))
  clear hb1 hi1 HI HB HP
  go_wp2_with fail
  go_quiet (first
    | (go_at_call 48; exact Calls.quiet_of_same (has_q (by decide) _))
    | (go_at_call 47; exact Calls.quiet_of_same (reg_q _)))
  go_wp2_with (go_at_call 48; refine (has_any _ _ _ (by decide)).mono ?_; rintro e w' ⟨rfl, rfl⟩)
  go_ret
  exact ⟨by rw [HQ.out]; first | rfl | exact congrArg (fun b => Ending.returned (Value.bool b)) (decide_eq_false (show ¬ n ≤ 65536 by omega)) | exact congrArg (fun b => Ending.returned (Value.bool b)) (decide_eq_false (show ¬ m ≤ 65536 by omega)) | exact congrArg (fun b => Ending.returned (Value.bool b)) (decide_eq_false (show ¬ n ≤ 4 by omega)), HB1.out.trans (below_draws nq)⟩
set_option maxRecDepth 100000 in
set_option maxHeartbeats 1000000 in
theorem rr_16_1 (r : Int) (w : World) (_r0 : 0 ≤ r) (x1 : ¬ r < 16) : Calls Tryz.prog 31 #[.agg #[.int .u8 16, .int .u8 0, .int .i64 r, .int .i64 0, .int .i64 0, .int .i64 0, .int .i64 0]] w (RR ⟨16, 0, r, 0, 0, 0, 0⟩ w) := by
  have HQ := Lib.hid (show rightB ⟨16, 0, r, 0, 0, 0, 0⟩ = false by simp [rightB, isK, ptsOf, fitsP, dropAll, dropP, isR] <;> omega)
  have HP := Lib.hid (fun w => parts_at (k := 16) (s := [114]) (b := true) (by decide) (by decide) (by decide) (by decide) w)
  have HI := Lib.hid (show InsAt (w.alloc (.cells (ic ⟨16, 0, r, 0, 0, 0, 0⟩) 53)) w.heap.size ⟨16, 0, r, 0, 0, 0, 0⟩ from heap_alloc_new _ _)
  have HB := Lib.hid (below_box w (.cells (ic ⟨16, 0, r, 0, 0, 0, 0⟩) 53))
  have k114 : hasB [114] 114 = true := by decide
  have k97 : hasB [114] 97 = false := by decide
  have k116 : hasB [114] 116 = false := by decide
  have k109 : hasB [114] 109 = false := by decide
  have k110 : hasB [114] 110 = false := by decide
  have k106 : hasB [114] 106 = false := by decide
  have k107 : hasB [114] 107 = false := by decide
  have z0 : regB 0 false = true := by decide
  have q1 := regB_out x1
  unfold ic at HI HB
  go_enter Tryz.func31, Tryz.ntmps31
  go_wp2_with fail
  refine (HP.out _).mono ?_
  rintro e w1 ⟨rfl, hb1⟩
  have hi1 := HI.out.below hb1 (by simp)
  obtain ⟨⟨c0, c1, c2, c3, c4, c5, c6⟩, _⟩ := ins_cells hi1
  have HB1 := Lib.hid (HB.out.trans (hb1.mono (by simp)))
  clear hb1 hi1 HI HB HP
  go_wp2_with fail
  go_quiet (first
    | (go_at_call 48; exact Calls.quiet_of_same (has_q (by decide) _))
    | (go_at_call 47; exact Calls.quiet_of_same (reg_q _)))
  go_wp2_with (go_at_call 48; refine (has_any _ _ _ (by decide)).mono ?_; rintro e w' ⟨rfl, rfl⟩)
  go_ret
  exact ⟨by rw [HQ.out]; first | rfl | exact congrArg (fun b => Ending.returned (Value.bool b)) (decide_eq_false (show ¬ n ≤ 65536 by omega)) | exact congrArg (fun b => Ending.returned (Value.bool b)) (decide_eq_false (show ¬ m ≤ 65536 by omega)) | exact congrArg (fun b => Ending.returned (Value.bool b)) (decide_eq_false (show ¬ n ≤ 4 by omega)), HB1.out.trans (below_draws nq)⟩
theorem refRight_16 (r : Int) (w : World) (r0 : 0 ≤ r) : Calls Tryz.prog 31 #[.agg #[.int .u8 16, .int .u8 0, .int .i64 r, .int .i64 0, .int .i64 0, .int .i64 0, .int .i64 0]] w (RR ⟨16, 0, r, 0, 0, 0, 0⟩ w) := by
  rcases (show (r < 16) ∨ (¬ r < 16) by omega) with x1 | x1
  · exact rr_16_0 r w r0 x1
  · exact rr_16_1 r w r0 x1
set_option maxRecDepth 100000 in
set_option maxHeartbeats 1000000 in
theorem rr_17_0 (r : Int) (w : World) (r0 : 0 ≤ r) (x1 : r < 16) : Calls Tryz.prog 31 #[.agg #[.int .u8 17, .int .u8 0, .int .i64 r, .int .i64 0, .int .i64 0, .int .i64 0, .int .i64 0]] w (RR ⟨17, 0, r, 0, 0, 0, 0⟩ w) := by
  have HQ := Lib.hid (show rightB ⟨17, 0, r, 0, 0, 0, 0⟩ = true by simp [rightB, isK, ptsOf, fitsP, dropAll, dropP, isR] <;> omega)
  have HP := Lib.hid (fun w => parts_at (k := 17) (s := [114]) (b := true) (by decide) (by decide) (by decide) (by decide) w)
  have HI := Lib.hid (show InsAt (w.alloc (.cells (ic ⟨17, 0, r, 0, 0, 0, 0⟩) 53)) w.heap.size ⟨17, 0, r, 0, 0, 0, 0⟩ from heap_alloc_new _ _)
  have HB := Lib.hid (below_box w (.cells (ic ⟨17, 0, r, 0, 0, 0, 0⟩) 53))
  have k114 : hasB [114] 114 = true := by decide
  have k97 : hasB [114] 97 = false := by decide
  have k116 : hasB [114] 116 = false := by decide
  have k109 : hasB [114] 109 = false := by decide
  have k110 : hasB [114] 110 = false := by decide
  have k106 : hasB [114] 106 = false := by decide
  have k107 : hasB [114] 107 = false := by decide
  have z0 : regB 0 false = true := by decide
  have q1 := regB_in r0 x1
  unfold ic at HI HB
  go_enter Tryz.func31, Tryz.ntmps31
  go_wp2_with fail
  refine (HP.out _).mono ?_
  rintro e w1 ⟨rfl, hb1⟩
  have hi1 := HI.out.below hb1 (by simp)
  obtain ⟨⟨c0, c1, c2, c3, c4, c5, c6⟩, _⟩ := ins_cells hi1
  have HB1 := Lib.hid (HB.out.trans (hb1.mono (by simp)))
  clear hb1 hi1 HI HB HP
  go_wp2_with fail
  go_quiet (first
    | (go_at_call 48; exact Calls.quiet_of_same (has_q (by decide) _))
    | (go_at_call 47; exact Calls.quiet_of_same (reg_q _)))
  go_wp2_with (go_at_call 48; refine (has_any _ _ _ (by decide)).mono ?_; rintro e w' ⟨rfl, rfl⟩)
  go_ret
  exact ⟨by rw [HQ.out]; first | rfl | exact congrArg (fun b => Ending.returned (Value.bool b)) (decide_eq_false (show ¬ n ≤ 65536 by omega)) | exact congrArg (fun b => Ending.returned (Value.bool b)) (decide_eq_false (show ¬ m ≤ 65536 by omega)) | exact congrArg (fun b => Ending.returned (Value.bool b)) (decide_eq_false (show ¬ n ≤ 4 by omega)), HB1.out.trans (below_draws nq)⟩
set_option maxRecDepth 100000 in
set_option maxHeartbeats 1000000 in
theorem rr_17_1 (r : Int) (w : World) (_r0 : 0 ≤ r) (x1 : ¬ r < 16) : Calls Tryz.prog 31 #[.agg #[.int .u8 17, .int .u8 0, .int .i64 r, .int .i64 0, .int .i64 0, .int .i64 0, .int .i64 0]] w (RR ⟨17, 0, r, 0, 0, 0, 0⟩ w) := by
  have HQ := Lib.hid (show rightB ⟨17, 0, r, 0, 0, 0, 0⟩ = false by simp [rightB, isK, ptsOf, fitsP, dropAll, dropP, isR] <;> omega)
  have HP := Lib.hid (fun w => parts_at (k := 17) (s := [114]) (b := true) (by decide) (by decide) (by decide) (by decide) w)
  have HI := Lib.hid (show InsAt (w.alloc (.cells (ic ⟨17, 0, r, 0, 0, 0, 0⟩) 53)) w.heap.size ⟨17, 0, r, 0, 0, 0, 0⟩ from heap_alloc_new _ _)
  have HB := Lib.hid (below_box w (.cells (ic ⟨17, 0, r, 0, 0, 0, 0⟩) 53))
  have k114 : hasB [114] 114 = true := by decide
  have k97 : hasB [114] 97 = false := by decide
  have k116 : hasB [114] 116 = false := by decide
  have k109 : hasB [114] 109 = false := by decide
  have k110 : hasB [114] 110 = false := by decide
  have k106 : hasB [114] 106 = false := by decide
  have k107 : hasB [114] 107 = false := by decide
  have z0 : regB 0 false = true := by decide
  have q1 := regB_out x1
  unfold ic at HI HB
  go_enter Tryz.func31, Tryz.ntmps31
  go_wp2_with fail
  refine (HP.out _).mono ?_
  rintro e w1 ⟨rfl, hb1⟩
  have hi1 := HI.out.below hb1 (by simp)
  obtain ⟨⟨c0, c1, c2, c3, c4, c5, c6⟩, _⟩ := ins_cells hi1
  have HB1 := Lib.hid (HB.out.trans (hb1.mono (by simp)))
  clear hb1 hi1 HI HB HP
  go_wp2_with fail
  go_quiet (first
    | (go_at_call 48; exact Calls.quiet_of_same (has_q (by decide) _))
    | (go_at_call 47; exact Calls.quiet_of_same (reg_q _)))
  go_wp2_with (go_at_call 48; refine (has_any _ _ _ (by decide)).mono ?_; rintro e w' ⟨rfl, rfl⟩)
  go_ret
  exact ⟨by rw [HQ.out]; first | rfl | exact congrArg (fun b => Ending.returned (Value.bool b)) (decide_eq_false (show ¬ n ≤ 65536 by omega)) | exact congrArg (fun b => Ending.returned (Value.bool b)) (decide_eq_false (show ¬ m ≤ 65536 by omega)) | exact congrArg (fun b => Ending.returned (Value.bool b)) (decide_eq_false (show ¬ n ≤ 4 by omega)), HB1.out.trans (below_draws nq)⟩
theorem refRight_17 (r : Int) (w : World) (r0 : 0 ≤ r) : Calls Tryz.prog 31 #[.agg #[.int .u8 17, .int .u8 0, .int .i64 r, .int .i64 0, .int .i64 0, .int .i64 0, .int .i64 0]] w (RR ⟨17, 0, r, 0, 0, 0, 0⟩ w) := by
  rcases (show (r < 16) ∨ (¬ r < 16) by omega) with x1 | x1
  · exact rr_17_0 r w r0 x1
  · exact rr_17_1 r w r0 x1
set_option maxRecDepth 100000 in
set_option maxHeartbeats 1000000 in
theorem rr_18_0 (n : Int) (w : World) (_n0 : 0 ≤ n) (x6 : 2 ≤ n ∧ n ≤ 4) : Calls Tryz.prog 31 #[.agg #[.int .u8 18, .int .u8 0, .int .i64 0, .int .i64 0, .int .i64 0, .int .i64 n, .int .i64 0]] w (RR ⟨18, 0, 0, 0, 0, n, 0⟩ w) := by
  have HQ := Lib.hid (show rightB ⟨18, 0, 0, 0, 0, n, 0⟩ = true by simp [rightB, isK, ptsOf, fitsP, dropAll, dropP, isR] <;> omega)
  have HP := Lib.hid (fun w => parts_at (k := 18) (s := [107]) (b := true) (by decide) (by decide) (by decide) (by decide) w)
  have HI := Lib.hid (show InsAt (w.alloc (.cells (ic ⟨18, 0, 0, 0, 0, n, 0⟩) 53)) w.heap.size ⟨18, 0, 0, 0, 0, n, 0⟩ from heap_alloc_new _ _)
  have HB := Lib.hid (below_box w (.cells (ic ⟨18, 0, 0, 0, 0, n, 0⟩) 53))
  have k114 : hasB [107] 114 = false := by decide
  have k97 : hasB [107] 97 = false := by decide
  have k116 : hasB [107] 116 = false := by decide
  have k109 : hasB [107] 109 = false := by decide
  have k110 : hasB [107] 110 = false := by decide
  have k106 : hasB [107] 106 = false := by decide
  have k107 : hasB [107] 107 = true := by decide
  have z0 : regB 0 false = true := by decide
  obtain ⟨x6a, x6b⟩ := x6
  unfold ic at HI HB
  go_enter Tryz.func31, Tryz.ntmps31
  go_wp2_with fail
  refine (HP.out _).mono ?_
  rintro e w1 ⟨rfl, hb1⟩
  have hi1 := HI.out.below hb1 (by simp)
  obtain ⟨⟨c0, c1, c2, c3, c4, c5, c6⟩, _⟩ := ins_cells hi1
  have HB1 := Lib.hid (HB.out.trans (hb1.mono (by simp)))
  clear hb1 hi1 HI HB HP
  go_wp2_with fail
  go_quiet (first
    | (go_at_call 48; exact Calls.quiet_of_same (has_q (by decide) _))
    | (go_at_call 47; exact Calls.quiet_of_same (reg_q _)))
  go_wp2_with (go_at_call 48; refine (has_any _ _ _ (by decide)).mono ?_; rintro e w' ⟨rfl, rfl⟩)
  go_ret
  exact ⟨by rw [HQ.out]; first | rfl | exact congrArg (fun b => Ending.returned (Value.bool b)) (decide_eq_false (show ¬ n ≤ 65536 by omega)) | exact congrArg (fun b => Ending.returned (Value.bool b)) (decide_eq_false (show ¬ m ≤ 65536 by omega)) | exact congrArg (fun b => Ending.returned (Value.bool b)) (decide_eq_false (show ¬ n ≤ 4 by omega)), HB1.out.trans (below_draws nq)⟩
set_option maxRecDepth 100000 in
set_option maxHeartbeats 1000000 in
theorem rr_18_1 (n : Int) (w : World) (n0 : 0 ≤ n) (x6 : n < 2) : Calls Tryz.prog 31 #[.agg #[.int .u8 18, .int .u8 0, .int .i64 0, .int .i64 0, .int .i64 0, .int .i64 n, .int .i64 0]] w (RR ⟨18, 0, 0, 0, 0, n, 0⟩ w) := by
  have HQ := Lib.hid (show rightB ⟨18, 0, 0, 0, 0, n, 0⟩ = false by simp [rightB, isK, ptsOf, fitsP, dropAll, dropP, isR] <;> omega)
  have HP := Lib.hid (fun w => parts_at (k := 18) (s := [107]) (b := true) (by decide) (by decide) (by decide) (by decide) w)
  have HI := Lib.hid (show InsAt (w.alloc (.cells (ic ⟨18, 0, 0, 0, 0, n, 0⟩) 53)) w.heap.size ⟨18, 0, 0, 0, 0, n, 0⟩ from heap_alloc_new _ _)
  have HB := Lib.hid (below_box w (.cells (ic ⟨18, 0, 0, 0, 0, n, 0⟩) 53))
  have k114 : hasB [107] 114 = false := by decide
  have k97 : hasB [107] 97 = false := by decide
  have k116 : hasB [107] 116 = false := by decide
  have k109 : hasB [107] 109 = false := by decide
  have k110 : hasB [107] 110 = false := by decide
  have k106 : hasB [107] 106 = false := by decide
  have k107 : hasB [107] 107 = true := by decide
  have z0 : regB 0 false = true := by decide
  unfold ic at HI HB
  go_enter Tryz.func31, Tryz.ntmps31
  go_wp2_with fail
  refine (HP.out _).mono ?_
  rintro e w1 ⟨rfl, hb1⟩
  have hi1 := HI.out.below hb1 (by simp)
  obtain ⟨⟨c0, c1, c2, c3, c4, c5, c6⟩, _⟩ := ins_cells hi1
  have HB1 := Lib.hid (HB.out.trans (hb1.mono (by simp)))
  clear hb1 hi1 HI HB HP
  go_wp2_with fail
  go_quiet (first
    | (go_at_call 48; exact Calls.quiet_of_same (has_q (by decide) _))
    | (go_at_call 47; exact Calls.quiet_of_same (reg_q _)))
  go_wp2_with (go_at_call 48; refine (has_any _ _ _ (by decide)).mono ?_; rintro e w' ⟨rfl, rfl⟩)
  go_ret
  exact ⟨by rw [HQ.out]; first | rfl | exact congrArg (fun b => Ending.returned (Value.bool b)) (decide_eq_false (show ¬ n ≤ 65536 by omega)) | exact congrArg (fun b => Ending.returned (Value.bool b)) (decide_eq_false (show ¬ m ≤ 65536 by omega)) | exact congrArg (fun b => Ending.returned (Value.bool b)) (decide_eq_false (show ¬ n ≤ 4 by omega)), HB1.out.trans (below_draws nq)⟩
set_option maxRecDepth 100000 in
set_option maxHeartbeats 1000000 in
theorem rr_18_2 (n : Int) (w : World) (_n0 : 0 ≤ n) (x6 : 4 < n) : Calls Tryz.prog 31 #[.agg #[.int .u8 18, .int .u8 0, .int .i64 0, .int .i64 0, .int .i64 0, .int .i64 n, .int .i64 0]] w (RR ⟨18, 0, 0, 0, 0, n, 0⟩ w) := by
  have HQ := Lib.hid (show rightB ⟨18, 0, 0, 0, 0, n, 0⟩ = false by simp [rightB, isK, ptsOf, fitsP, dropAll, dropP, isR] <;> omega)
  have HP := Lib.hid (fun w => parts_at (k := 18) (s := [107]) (b := true) (by decide) (by decide) (by decide) (by decide) w)
  have HI := Lib.hid (show InsAt (w.alloc (.cells (ic ⟨18, 0, 0, 0, 0, n, 0⟩) 53)) w.heap.size ⟨18, 0, 0, 0, 0, n, 0⟩ from heap_alloc_new _ _)
  have HB := Lib.hid (below_box w (.cells (ic ⟨18, 0, 0, 0, 0, n, 0⟩) 53))
  have k114 : hasB [107] 114 = false := by decide
  have k97 : hasB [107] 97 = false := by decide
  have k116 : hasB [107] 116 = false := by decide
  have k109 : hasB [107] 109 = false := by decide
  have k110 : hasB [107] 110 = false := by decide
  have k106 : hasB [107] 106 = false := by decide
  have k107 : hasB [107] 107 = true := by decide
  have z0 : regB 0 false = true := by decide
  unfold ic at HI HB
  go_enter Tryz.func31, Tryz.ntmps31
  go_wp2_with fail
  refine (HP.out _).mono ?_
  rintro e w1 ⟨rfl, hb1⟩
  have hi1 := HI.out.below hb1 (by simp)
  obtain ⟨⟨c0, c1, c2, c3, c4, c5, c6⟩, _⟩ := ins_cells hi1
  have HB1 := Lib.hid (HB.out.trans (hb1.mono (by simp)))
  clear hb1 hi1 HI HB HP
  go_wp2_with fail
  go_quiet (first
    | (go_at_call 48; exact Calls.quiet_of_same (has_q (by decide) _))
    | (go_at_call 47; exact Calls.quiet_of_same (reg_q _)))
  go_wp2_with (go_at_call 48; refine (has_any _ _ _ (by decide)).mono ?_; rintro e w' ⟨rfl, rfl⟩)
  go_ret
  exact ⟨by rw [HQ.out]; first | rfl | exact congrArg (fun b => Ending.returned (Value.bool b)) (decide_eq_false (show ¬ n ≤ 65536 by omega)) | exact congrArg (fun b => Ending.returned (Value.bool b)) (decide_eq_false (show ¬ m ≤ 65536 by omega)) | exact congrArg (fun b => Ending.returned (Value.bool b)) (decide_eq_false (show ¬ n ≤ 4 by omega)), HB1.out.trans (below_draws nq)⟩
theorem refRight_18 (n : Int) (w : World) (n0 : 0 ≤ n) : Calls Tryz.prog 31 #[.agg #[.int .u8 18, .int .u8 0, .int .i64 0, .int .i64 0, .int .i64 0, .int .i64 n, .int .i64 0]] w (RR ⟨18, 0, 0, 0, 0, n, 0⟩ w) := by
  rcases (show (2 ≤ n ∧ n ≤ 4) ∨ (n < 2) ∨ (4 < n) by omega) with x6 | x6 | x6
  · exact rr_18_0 n w n0 x6
  · exact rr_18_1 n w n0 x6
  · exact rr_18_2 n w n0 x6

end Go.Proofs.YtdnpoeegefkoiaaGreat
