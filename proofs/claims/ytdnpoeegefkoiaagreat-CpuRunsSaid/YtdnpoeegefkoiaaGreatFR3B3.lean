/-
  Merged for a claim: R3B3.
-/
import Derived.Test.YtdnpoeegefkoiaaGreatFR3B
namespace Go.Proofs.YtdnpoeegefkoiaaGreat
open Go.RowKit

set_option maxRecDepth 100000 in
set_option maxHeartbeats 1000000 in
theorem rr_8_0 (r s t n m : Int) (w : World) (r0 : 0 ≤ r) (r1 : r < 16) (s0 : 0 ≤ s) (s1 : s < 16) (t0 : 0 ≤ t) (x2 : t < 16) (x3 : 1 ≤ m ∧ m ≤ 65536) (x5 : -65536 ≤ n ∧ n ≤ 65536) : Calls Tryz.prog 31 #[.agg #[.int .u8 8, .int .u8 0, .int .i64 r, .int .i64 s, .int .i64 t, .int .i64 n, .int .i64 m]] w (RR ⟨8, 0, r, s, t, n, m⟩ w) := by
  have HQ := Lib.hid (show rightB ⟨8, 0, r, s, t, n, m⟩ = true by simp [rightB, isK, ptsOf, fitsP, dropAll, dropP, isR] <;> omega)
  have HP := Lib.hid (fun w => parts_at (k := 8) (s := [97, 116, 110, 109]) (b := true) (by decide) (by decide) (by decide) (by decide) w)
  have HI := Lib.hid (show InsAt (w.alloc (.cells (ic ⟨8, 0, r, s, t, n, m⟩) 53)) w.heap.size ⟨8, 0, r, s, t, n, m⟩ from heap_alloc_new _ _)
  have HB := Lib.hid (below_box w (.cells (ic ⟨8, 0, r, s, t, n, m⟩) 53))
  have k114 : hasB [97, 116, 110, 109] 114 = false := by decide
  have k97 : hasB [97, 116, 110, 109] 97 = true := by decide
  have k116 : hasB [97, 116, 110, 109] 116 = true := by decide
  have k109 : hasB [97, 116, 110, 109] 109 = true := by decide
  have k110 : hasB [97, 116, 110, 109] 110 = true := by decide
  have k106 : hasB [97, 116, 110, 109] 106 = false := by decide
  have k107 : hasB [97, 116, 110, 109] 107 = false := by decide
  have z0 : regB 0 false = true := by decide
  have q1 := regB_in r0 r1
  have q2 := regB_in s0 s1
  have q3 := regB_in t0 x2
  obtain ⟨x3a, x3b⟩ := x3
  obtain ⟨x5a, x5b⟩ := x5
  unfold ic at HI HB
  go_enter Tryz.func31, Tryz.ntmps31
  go_wp2_with fail
  refine (HP.out _).mono ?_
  rintro e w1 ⟨rfl, hb1⟩
  have hi1 := HI.out.below hb1 (by simp)
  obtain ⟨⟨c0, c1, c2, c3, c4, c5, c6⟩, _⟩ := ins_cells hi1
  have HB1 := Lib.hid (HB.out.trans (hb1.mono (by simp)))
  clear hb1 hi1 HI HB HP
  go_wp2_with fail
  go_quiet (first
    | (go_at_call 48; exact Calls.quiet_of_same (has_q (by decide) _))
    | (go_at_call 47; exact Calls.quiet_of_same (reg_q _)))
  go_wp2_with (go_at_call 48; refine (has_any _ _ _ (by decide)).mono ?_; rintro e w' ⟨rfl, rfl⟩)
  go_ret
  exact ⟨by rw [HQ.out]; first | rfl | exact congrArg (fun b => Ending.returned (Value.bool b)) (decide_eq_false (show ¬ n ≤ 65536 by omega)) | exact congrArg (fun b => Ending.returned (Value.bool b)) (decide_eq_false (show ¬ m ≤ 65536 by omega)) | exact congrArg (fun b => Ending.returned (Value.bool b)) (decide_eq_false (show ¬ n ≤ 4 by omega)), HB1.out.trans (below_draws nq)⟩
set_option maxRecDepth 100000 in
set_option maxHeartbeats 1000000 in
theorem rr_8_1 (r s t n m : Int) (w : World) (r0 : 0 ≤ r) (r1 : r < 16) (s0 : 0 ≤ s) (s1 : s < 16) (t0 : 0 ≤ t) (x2 : t < 16) (x3 : 1 ≤ m ∧ m ≤ 65536) (x5 : n < -65536) : Calls Tryz.prog 31 #[.agg #[.int .u8 8, .int .u8 0, .int .i64 r, .int .i64 s, .int .i64 t, .int .i64 n, .int .i64 m]] w (RR ⟨8, 0, r, s, t, n, m⟩ w) := by
  have HQ := Lib.hid (show rightB ⟨8, 0, r, s, t, n, m⟩ = false by simp [rightB, isK, ptsOf, fitsP, dropAll, dropP, isR] <;> omega)
  have HP := Lib.hid (fun w => parts_at (k := 8) (s := [97, 116, 110, 109]) (b := true) (by decide) (by decide) (by decide) (by decide) w)
  have HI := Lib.hid (show InsAt (w.alloc (.cells (ic ⟨8, 0, r, s, t, n, m⟩) 53)) w.heap.size ⟨8, 0, r, s, t, n, m⟩ from heap_alloc_new _ _)
  have HB := Lib.hid (below_box w (.cells (ic ⟨8, 0, r, s, t, n, m⟩) 53))
  have k114 : hasB [97, 116, 110, 109] 114 = false := by decide
  have k97 : hasB [97, 116, 110, 109] 97 = true := by decide
  have k116 : hasB [97, 116, 110, 109] 116 = true := by decide
  have k109 : hasB [97, 116, 110, 109] 109 = true := by decide
  have k110 : hasB [97, 116, 110, 109] 110 = true := by decide
  have k106 : hasB [97, 116, 110, 109] 106 = false := by decide
  have k107 : hasB [97, 116, 110, 109] 107 = false := by decide
  have z0 : regB 0 false = true := by decide
  have q1 := regB_in r0 r1
  have q2 := regB_in s0 s1
  have q3 := regB_in t0 x2
  obtain ⟨x3a, x3b⟩ := x3
  unfold ic at HI HB
  go_enter Tryz.func31, Tryz.ntmps31
  go_wp2_with fail
  refine (HP.out _).mono ?_
  rintro e w1 ⟨rfl, hb1⟩
  have hi1 := HI.out.below hb1 (by simp)
  obtain ⟨⟨c0, c1, c2, c3, c4, c5, c6⟩, _⟩ := ins_cells hi1
  have HB1 := Lib.hid (HB.out.trans (hb1.mono (by simp)))
  clear hb1 hi1 HI HB HP
  go_wp2_with fail
  go_quiet (first
    | (go_at_call 48; exact Calls.quiet_of_same (has_q (by decide) _))
    | (go_at_call 47; exact Calls.quiet_of_same (reg_q _)))
  go_wp2_with (go_at_call 48; refine (has_any _ _ _ (by decide)).mono ?_; rintro e w' ⟨rfl, rfl⟩)
  go_ret
  exact ⟨by rw [HQ.out]; first | rfl | exact congrArg (fun b => Ending.returned (Value.bool b)) (decide_eq_false (show ¬ n ≤ 65536 by omega)) | exact congrArg (fun b => Ending.returned (Value.bool b)) (decide_eq_false (show ¬ m ≤ 65536 by omega)) | exact congrArg (fun b => Ending.returned (Value.bool b)) (decide_eq_false (show ¬ n ≤ 4 by omega)), HB1.out.trans (below_draws nq)⟩
set_option maxRecDepth 100000 in
set_option maxHeartbeats 1000000 in
theorem rr_8_2 (r s t n m : Int) (w : World) (r0 : 0 ≤ r) (r1 : r < 16) (s0 : 0 ≤ s) (s1 : s < 16) (t0 : 0 ≤ t) (x2 : t < 16) (x3 : 1 ≤ m ∧ m ≤ 65536) (x5 : 65536 < n) : Calls Tryz.prog 31 #[.agg #[.int .u8 8, .int .u8 0, .int .i64 r, .int .i64 s, .int .i64 t, .int .i64 n, .int .i64 m]] w (RR ⟨8, 0, r, s, t, n, m⟩ w) := by
  have HQ := Lib.hid (show rightB ⟨8, 0, r, s, t, n, m⟩ = false by simp [rightB, isK, ptsOf, fitsP, dropAll, dropP, isR] <;> omega)
  have HP := Lib.hid (fun w => parts_at (k := 8) (s := [97, 116, 110, 109]) (b := true) (by decide) (by decide) (by decide) (by decide) w)
  have HI := Lib.hid (show InsAt (w.alloc (.cells (ic ⟨8, 0, r, s, t, n, m⟩) 53)) w.heap.size ⟨8, 0, r, s, t, n, m⟩ from heap_alloc_new _ _)
  have HB := Lib.hid (below_box w (.cells (ic ⟨8, 0, r, s, t, n, m⟩) 53))
  have k114 : hasB [97, 116, 110, 109] 114 = false := by decide
  have k97 : hasB [97, 116, 110, 109] 97 = true := by decide
  have k116 : hasB [97, 116, 110, 109] 116 = true := by decide
  have k109 : hasB [97, 116, 110, 109] 109 = true := by decide
  have k110 : hasB [97, 116, 110, 109] 110 = true := by decide
  have k106 : hasB [97, 116, 110, 109] 106 = false := by decide
  have k107 : hasB [97, 116, 110, 109] 107 = false := by decide
  have z0 : regB 0 false = true := by decide
  have q1 := regB_in r0 r1
  have q2 := regB_in s0 s1
  have q3 := regB_in t0 x2
  obtain ⟨x3a, x3b⟩ := x3
  unfold ic at HI HB
  go_enter Tryz.func31, Tryz.ntmps31
  go_wp2_with fail
  refine (HP.out _).mono ?_
  rintro e w1 ⟨rfl, hb1⟩
  have hi1 := HI.out.below hb1 (by simp)
  obtain ⟨⟨c0, c1, c2, c3, c4, c5, c6⟩, _⟩ := ins_cells hi1
  have HB1 := Lib.hid (HB.out.trans (hb1.mono (by simp)))
  clear hb1 hi1 HI HB HP
  go_wp2_with fail
  go_quiet (first
    | (go_at_call 48; exact Calls.quiet_of_same (has_q (by decide) _))
    | (go_at_call 47; exact Calls.quiet_of_same (reg_q _)))
  go_wp2_with (go_at_call 48; refine (has_any _ _ _ (by decide)).mono ?_; rintro e w' ⟨rfl, rfl⟩)
  go_ret
  exact ⟨by rw [HQ.out]; first | rfl | exact congrArg (fun b => Ending.returned (Value.bool b)) (decide_eq_false (show ¬ n ≤ 65536 by omega)) | exact congrArg (fun b => Ending.returned (Value.bool b)) (decide_eq_false (show ¬ m ≤ 65536 by omega)) | exact congrArg (fun b => Ending.returned (Value.bool b)) (decide_eq_false (show ¬ n ≤ 4 by omega)), HB1.out.trans (below_draws nq)⟩
set_option maxRecDepth 100000 in
set_option maxHeartbeats 1000000 in
theorem rr_8_3 (r s t n m : Int) (w : World) (r0 : 0 ≤ r) (r1 : r < 16) (s0 : 0 ≤ s) (s1 : s < 16) (t0 : 0 ≤ t) (x2 : t < 16) (x3 : m < 1) : Calls Tryz.prog 31 #[.agg #[.int .u8 8, .int .u8 0, .int .i64 r, .int .i64 s, .int .i64 t, .int .i64 n, .int .i64 m]] w (RR ⟨8, 0, r, s, t, n, m⟩ w) := by
  have HQ := Lib.hid (show rightB ⟨8, 0, r, s, t, n, m⟩ = false by simp [rightB, isK, ptsOf, fitsP, dropAll, dropP, isR] <;> omega)
  have HP := Lib.hid (fun w => parts_at (k := 8) (s := [97, 116, 110, 109]) (b := true) (by decide) (by decide) (by decide) (by decide) w)
  have HI := Lib.hid (show InsAt (w.alloc (.cells (ic ⟨8, 0, r, s, t, n, m⟩) 53)) w.heap.size ⟨8, 0, r, s, t, n, m⟩ from heap_alloc_new _ _)
  have HB := Lib.hid (below_box w (.cells (ic ⟨8, 0, r, s, t, n, m⟩) 53))
  have k114 : hasB [97, 116, 110, 109] 114 = false := by decide
  have k97 : hasB [97, 116, 110, 109] 97 = true := by decide
  have k116 : hasB [97, 116, 110, 109] 116 = true := by decide
  have k109 : hasB [97, 116, 110, 109] 109 = true := by decide
  have k110 : hasB [97, 116, 110, 109] 110 = true := by decide
  have k106 : hasB [97, 116, 110, 109] 106 = false := by decide
  have k107 : hasB [97, 116, 110, 109] 107 = false := by decide
  have z0 : regB 0 false = true := by decide
  have q1 := regB_in r0 r1
  have q2 := regB_in s0 s1
  have q3 := regB_in t0 x2
  unfold ic at HI HB
  go_enter Tryz.func31, Tryz.ntmps31
  go_wp2_with fail
  refine (HP.out _).mono ?_
  rintro e w1 ⟨rfl, hb1⟩
  have hi1 := HI.out.below hb1 (by simp)
  obtain ⟨⟨c0, c1, c2, c3, c4, c5, c6⟩, _⟩ := ins_cells hi1
  have HB1 := Lib.hid (HB.out.trans (hb1.mono (by simp)))
  clear hb1 hi1 HI HB HP
  go_wp2_with fail
  go_quiet (first
    | (go_at_call 48; exact Calls.quiet_of_same (has_q (by decide) _))
    | (go_at_call 47; exact Calls.quiet_of_same (reg_q _)))
  go_wp2_with (go_at_call 48; refine (has_any _ _ _ (by decide)).mono ?_; rintro e w' ⟨rfl, rfl⟩)
  go_ret
  exact ⟨by rw [HQ.out]; first | rfl | exact congrArg (fun b => Ending.returned (Value.bool b)) (decide_eq_false (show ¬ n ≤ 65536 by omega)) | exact congrArg (fun b => Ending.returned (Value.bool b)) (decide_eq_false (show ¬ m ≤ 65536 by omega)) | exact congrArg (fun b => Ending.returned (Value.bool b)) (decide_eq_false (show ¬ n ≤ 4 by omega)), HB1.out.trans (below_draws nq)⟩
set_option maxRecDepth 100000 in
set_option maxHeartbeats 1000000 in
theorem rr_8_4 (r s t n m : Int) (w : World) (r0 : 0 ≤ r) (r1 : r < 16) (s0 : 0 ≤ s) (s1 : s < 16) (t0 : 0 ≤ t) (x2 : t < 16) (x3 : 65536 < m) : Calls Tryz.prog 31 #[.agg #[.int .u8 8, .int .u8 0, .int .i64 r, .int .i64 s, .int .i64 t, .int .i64 n, .int .i64 m]] w (RR ⟨8, 0, r, s, t, n, m⟩ w) := by
  have HQ := Lib.hid (show rightB ⟨8, 0, r, s, t, n, m⟩ = false by simp [rightB, isK, ptsOf, fitsP, dropAll, dropP, isR] <;> omega)
  have HP := Lib.hid (fun w => parts_at (k := 8) (s := [97, 116, 110, 109]) (b := true) (by decide) (by decide) (by decide) (by decide) w)
  have HI := Lib.hid (show InsAt (w.alloc (.cells (ic ⟨8, 0, r, s, t, n, m⟩) 53)) w.heap.size ⟨8, 0, r, s, t, n, m⟩ from heap_alloc_new _ _)
  have HB := Lib.hid (below_box w (.cells (ic ⟨8, 0, r, s, t, n, m⟩) 53))
  have k114 : hasB [97, 116, 110, 109] 114 = false := by decide
  have k97 : hasB [97, 116, 110, 109] 97 = true := by decide
  have k116 : hasB [97, 116, 110, 109] 116 = true := by decide
  have k109 : hasB [97, 116, 110, 109] 109 = true := by decide
  have k110 : hasB [97, 116, 110, 109] 110 = true := by decide
  have k106 : hasB [97, 116, 110, 109] 106 = false := by decide
  have k107 : hasB [97, 116, 110, 109] 107 = false := by decide
  have z0 : regB 0 false = true := by decide
  have q1 := regB_in r0 r1
  have q2 := regB_in s0 s1
  have q3 := regB_in t0 x2
  unfold ic at HI HB
  go_enter Tryz.func31, Tryz.ntmps31
  go_wp2_with fail
  refine (HP.out _).mono ?_
  rintro e w1 ⟨rfl, hb1⟩
  have hi1 := HI.out.below hb1 (by simp)
  obtain ⟨⟨c0, c1, c2, c3, c4, c5, c6⟩, _⟩ := ins_cells hi1
  have HB1 := Lib.hid (HB.out.trans (hb1.mono (by simp)))
  clear hb1 hi1 HI HB HP
  go_wp2_with fail
  go_quiet (first
    | (go_at_call 48; exact Calls.quiet_of_same (has_q (by decide) _))
    | (go_at_call 47; exact Calls.quiet_of_same (reg_q _)))
  go_wp2_with (go_at_call 48; refine (has_any _ _ _ (by decide)).mono ?_; rintro e w' ⟨rfl, rfl⟩)
  go_ret
  exact ⟨by rw [HQ.out]; first | rfl | exact congrArg (fun b => Ending.returned (Value.bool b)) (decide_eq_false (show ¬ n ≤ 65536 by omega)) | exact congrArg (fun b => Ending.returned (Value.bool b)) (decide_eq_false (show ¬ m ≤ 65536 by omega)) | exact congrArg (fun b => Ending.returned (Value.bool b)) (decide_eq_false (show ¬ n ≤ 4 by omega)), HB1.out.trans (below_draws nq)⟩
set_option maxRecDepth 100000 in
set_option maxHeartbeats 1000000 in
theorem rr_8_5 (r s t n m : Int) (w : World) (r0 : 0 ≤ r) (r1 : r < 16) (s0 : 0 ≤ s) (s1 : s < 16) (_t0 : 0 ≤ t) (x2 : ¬ t < 16) : Calls Tryz.prog 31 #[.agg #[.int .u8 8, .int .u8 0, .int .i64 r, .int .i64 s, .int .i64 t, .int .i64 n, .int .i64 m]] w (RR ⟨8, 0, r, s, t, n, m⟩ w) := by
  have HQ := Lib.hid (show rightB ⟨8, 0, r, s, t, n, m⟩ = false by simp [rightB, isK, ptsOf, fitsP, dropAll, dropP, isR] <;> omega)
  have HP := Lib.hid (fun w => parts_at (k := 8) (s := [97, 116, 110, 109]) (b := true) (by decide) (by decide) (by decide) (by decide) w)
  have HI := Lib.hid (show InsAt (w.alloc (.cells (ic ⟨8, 0, r, s, t, n, m⟩) 53)) w.heap.size ⟨8, 0, r, s, t, n, m⟩ from heap_alloc_new _ _)
  have HB := Lib.hid (below_box w (.cells (ic ⟨8, 0, r, s, t, n, m⟩) 53))
  have k114 : hasB [97, 116, 110, 109] 114 = false := by decide
  have k97 : hasB [97, 116, 110, 109] 97 = true := by decide
  have k116 : hasB [97, 116, 110, 109] 116 = true := by decide
  have k109 : hasB [97, 116, 110, 109] 109 = true := by decide
  have k110 : hasB [97, 116, 110, 109] 110 = true := by decide
  have k106 : hasB [97, 116, 110, 109] 106 = false := by decide
  have k107 : hasB [97, 116, 110, 109] 107 = false := by decide
  have z0 : regB 0 false = true := by decide
  have q1 := regB_in r0 r1
  have q2 := regB_in s0 s1
  have q3 := regB_out x2
  unfold ic at HI HB
  go_enter Tryz.func31, Tryz.ntmps31
  go_wp2_with fail
  refine (HP.out _).mono ?_
  rintro e w1 ⟨rfl, hb1⟩
  have hi1 := HI.out.below hb1 (by simp)
  obtain ⟨⟨c0, c1, c2, c3, c4, c5, c6⟩, _⟩ := ins_cells hi1
  have HB1 := Lib.hid (HB.out.trans (hb1.mono (by simp)))
  clear hb1 hi1 HI HB HP
  go_wp2_with fail
  go_quiet (first
    | (go_at_call 48; exact Calls.quiet_of_same (has_q (by decide) _))
    | (go_at_call 47; exact Calls.quiet_of_same (reg_q _)))
  go_wp2_with (go_at_call 48; refine (has_any _ _ _ (by decide)).mono ?_; rintro e w' ⟨rfl, rfl⟩)
  go_ret
  exact ⟨by rw [HQ.out]; first | rfl | exact congrArg (fun b => Ending.returned (Value.bool b)) (decide_eq_false (show ¬ n ≤ 65536 by omega)) | exact congrArg (fun b => Ending.returned (Value.bool b)) (decide_eq_false (show ¬ m ≤ 65536 by omega)) | exact congrArg (fun b => Ending.returned (Value.bool b)) (decide_eq_false (show ¬ n ≤ 4 by omega)), HB1.out.trans (below_draws nq)⟩
theorem refRight_8 (r s t n m : Int) (w : World) (r0 : 0 ≤ r) (r1 : r < 16) (s0 : 0 ≤ s) (s1 : s < 16) (t0 : 0 ≤ t) : Calls Tryz.prog 31 #[.agg #[.int .u8 8, .int .u8 0, .int .i64 r, .int .i64 s, .int .i64 t, .int .i64 n, .int .i64 m]] w (RR ⟨8, 0, r, s, t, n, m⟩ w) := by
  rcases (show (t < 16) ∨ (¬ t < 16) by omega) with x2 | x2
  · rcases (show (1 ≤ m ∧ m ≤ 65536) ∨ (m < 1) ∨ (65536 < m) by omega) with x3 | x3 | x3
    · rcases (show (-65536 ≤ n ∧ n ≤ 65536) ∨ (n < -65536) ∨ (65536 < n) by omega) with x5 | x5 | x5
      · exact rr_8_0 r s t n m w r0 r1 s0 s1 t0 x2 x3 x5
      · exact rr_8_1 r s t n m w r0 r1 s0 s1 t0 x2 x3 x5
      · exact rr_8_2 r s t n m w r0 r1 s0 s1 t0 x2 x3 x5
    · exact rr_8_3 r s t n m w r0 r1 s0 s1 t0 x2 x3
    · exact rr_8_4 r s t n m w r0 r1 s0 s1 t0 x2 x3
  · exact rr_8_5 r s t n m w r0 r1 s0 s1 t0 x2
set_option maxRecDepth 100000 in
set_option maxHeartbeats 1000000 in
theorem rr_9_0 (r s t n m : Int) (w : World) (r0 : 0 ≤ r) (r1 : r < 16) (s0 : 0 ≤ s) (s1 : s < 16) (t0 : 0 ≤ t) (x2 : t < 16) (x3 : 1 ≤ m ∧ m ≤ 65536) (x5 : -65536 ≤ n ∧ n ≤ 65536) : Calls Tryz.prog 31 #[.agg #[.int .u8 9, .int .u8 0, .int .i64 r, .int .i64 s, .int .i64 t, .int .i64 n, .int .i64 m]] w (RR ⟨9, 0, r, s, t, n, m⟩ w) := by
  have HQ := Lib.hid (show rightB ⟨9, 0, r, s, t, n, m⟩ = true by simp [rightB, isK, ptsOf, fitsP, dropAll, dropP, isR] <;> omega)
  have HP := Lib.hid (fun w => parts_at (k := 9) (s := [97, 116, 110, 109]) (b := true) (by decide) (by decide) (by decide) (by decide) w)
  have HI := Lib.hid (show InsAt (w.alloc (.cells (ic ⟨9, 0, r, s, t, n, m⟩) 53)) w.heap.size ⟨9, 0, r, s, t, n, m⟩ from heap_alloc_new _ _)
  have HB := Lib.hid (below_box w (.cells (ic ⟨9, 0, r, s, t, n, m⟩) 53))
  have k114 : hasB [97, 116, 110, 109] 114 = false := by decide
  have k97 : hasB [97, 116, 110, 109] 97 = true := by decide
  have k116 : hasB [97, 116, 110, 109] 116 = true := by decide
  have k109 : hasB [97, 116, 110, 109] 109 = true := by decide
  have k110 : hasB [97, 116, 110, 109] 110 = true := by decide
  have k106 : hasB [97, 116, 110, 109] 106 = false := by decide
  have k107 : hasB [97, 116, 110, 109] 107 = false := by decide
  have z0 : regB 0 false = true := by decide
  have q1 := regB_in r0 r1
  have q2 := regB_in s0 s1
  have q3 := regB_in t0 x2
  obtain ⟨x3a, x3b⟩ := x3
  obtain ⟨x5a, x5b⟩ := x5
  unfold ic at HI HB
  go_enter Tryz.func31, Tryz.ntmps31
  go_wp2_with fail
  refine (HP.out _).mono ?_
  rintro e w1 ⟨rfl, hb1⟩
  have hi1 := HI.out.below hb1 (by simp)
  obtain ⟨⟨c0, c1, c2, c3, c4, c5, c6⟩, _⟩ := ins_cells hi1
  have HB1 := Lib.hid (HB.out.trans (hb1.mono (by simp)))
  clear hb1 hi1 HI HB HP
  go_wp2_with fail
  go_quiet (first
    | (go_at_call 48; exact Calls.quiet_of_same (has_q (by decide) _))
    | (go_at_call 47; exact Calls.quiet_of_same (reg_q _)))
  go_wp2_with (go_at_call 48; refine (has_any _ _ _ (by decide)).mono ?_; rintro e w' ⟨rfl, rfl⟩)
  go_ret
  exact ⟨by rw [HQ.out]; first | rfl | exact congrArg (fun b => Ending.returned (Value.bool b)) (decide_eq_false (show ¬ n ≤ 65536 by omega)) | exact congrArg (fun b => Ending.returned (Value.bool b)) (decide_eq_false (show ¬ m ≤ 65536 by omega)) | exact congrArg (fun b => Ending.returned (Value.bool b)) (decide_eq_false (show ¬ n ≤ 4 by omega)), HB1.out.trans (below_draws nq)⟩
set_option maxRecDepth 100000 in
set_option maxHeartbeats 1000000 in
theorem rr_9_1 (r s t n m : Int) (w : World) (r0 : 0 ≤ r) (r1 : r < 16) (s0 : 0 ≤ s) (s1 : s < 16) (t0 : 0 ≤ t) (x2 : t < 16) (x3 : 1 ≤ m ∧ m ≤ 65536) (x5 : n < -65536) : Calls Tryz.prog 31 #[.agg #[.int .u8 9, .int .u8 0, .int .i64 r, .int .i64 s, .int .i64 t, .int .i64 n, .int .i64 m]] w (RR ⟨9, 0, r, s, t, n, m⟩ w) := by
  have HQ := Lib.hid (show rightB ⟨9, 0, r, s, t, n, m⟩ = false by simp [rightB, isK, ptsOf, fitsP, dropAll, dropP, isR] <;> omega)
  have HP := Lib.hid (fun w => parts_at (k := 9) (s := [97, 116, 110, 109]) (b := true) (by decide) (by decide) (by decide) (by decide) w)
  have HI := Lib.hid (show InsAt (w.alloc (.cells (ic ⟨9, 0, r, s, t, n, m⟩) 53)) w.heap.size ⟨9, 0, r, s, t, n, m⟩ from heap_alloc_new _ _)
  have HB := Lib.hid (below_box w (.cells (ic ⟨9, 0, r, s, t, n, m⟩) 53))
  have k114 : hasB [97, 116, 110, 109] 114 = false := by decide
  have k97 : hasB [97, 116, 110, 109] 97 = true := by decide
  have k116 : hasB [97, 116, 110, 109] 116 = true := by decide
  have k109 : hasB [97, 116, 110, 109] 109 = true := by decide
  have k110 : hasB [97, 116, 110, 109] 110 = true := by decide
  have k106 : hasB [97, 116, 110, 109] 106 = false := by decide
  have k107 : hasB [97, 116, 110, 109] 107 = false := by decide
  have z0 : regB 0 false = true := by decide
  have q1 := regB_in r0 r1
  have q2 := regB_in s0 s1
  have q3 := regB_in t0 x2
  obtain ⟨x3a, x3b⟩ := x3
  unfold ic at HI HB
  go_enter Tryz.func31, Tryz.ntmps31
  go_wp2_with fail
  refine (HP.out _).mono ?_
  rintro e w1 ⟨rfl, hb1⟩
  have hi1 := HI.out.below hb1 (by simp)
  obtain ⟨⟨c0, c1, c2, c3, c4, c5, c6⟩, _⟩ := ins_cells hi1
  have HB1 := Lib.hid (HB.out.trans (hb1.mono (by simp)))
  clear hb1 hi1 HI HB HP
  go_wp2_with fail
  go_quiet (first
    | (go_at_call 48; exact Calls.quiet_of_same (has_q (by decide) _))
    | (go_at_call 47; exact Calls.quiet_of_same (reg_q _)))
  go_wp2_with (go_at_call 48; refine (has_any _ _ _ (by decide)).mono ?_; rintro e w' ⟨rfl, rfl⟩)
  go_ret
  exact ⟨by rw [HQ.out]; first | rfl | exact congrArg (fun b => Ending.returned (Value.bool b)) (decide_eq_false (show ¬ n ≤ 65536 by omega)) | exact congrArg (fun b => Ending.returned (Value.bool b)) (decide_eq_false (show ¬ m ≤ 65536 by omega)) | exact congrArg (fun b => Ending.returned (Value.bool b)) (decide_eq_false (show ¬ n ≤ 4 by omega)), HB1.out.trans (below_draws nq)⟩
set_option maxRecDepth 100000 in
set_option maxHeartbeats 1000000 in
theorem rr_9_2 (r s t n m : Int) (w : World) (r0 : 0 ≤ r) (r1 : r < 16) (s0 : 0 ≤ s) (s1 : s < 16) (t0 : 0 ≤ t) (x2 : t < 16) (x3 : 1 ≤ m ∧ m ≤ 65536) (x5 : 65536 < n) : Calls Tryz.prog 31 #[.agg #[.int .u8 9, .int .u8 0, .int .i64 r, .int .i64 s, .int .i64 t, .int .i64 n, .int .i64 m]] w (RR ⟨9, 0, r, s, t, n, m⟩ w) := by
  have HQ := Lib.hid (show rightB ⟨9, 0, r, s, t, n, m⟩ = false by simp [rightB, isK, ptsOf, fitsP, dropAll, dropP, isR] <;> omega)
  have HP := Lib.hid (fun w => parts_at (k := 9) (s := [97, 116, 110, 109]) (b := true) (by decide) (by decide) (by decide) (by decide) w)
  have HI := Lib.hid (show InsAt (w.alloc (.cells (ic ⟨9, 0, r, s, t, n, m⟩) 53)) w.heap.size ⟨9, 0, r, s, t, n, m⟩ from heap_alloc_new _ _)
  have HB := Lib.hid (below_box w (.cells (ic ⟨9, 0, r, s, t, n, m⟩) 53))
  have k114 : hasB [97, 116, 110, 109] 114 = false := by decide
  have k97 : hasB [97, 116, 110, 109] 97 = true := by decide
  have k116 : hasB [97, 116, 110, 109] 116 = true := by decide
  have k109 : hasB [97, 116, 110, 109] 109 = true := by decide
  have k110 : hasB [97, 116, 110, 109] 110 = true := by decide
  have k106 : hasB [97, 116, 110, 109] 106 = false := by decide
  have k107 : hasB [97, 116, 110, 109] 107 = false := by decide
  have z0 : regB 0 false = true := by decide
  have q1 := regB_in r0 r1
  have q2 := regB_in s0 s1
  have q3 := regB_in t0 x2
  obtain ⟨x3a, x3b⟩ := x3
  unfold ic at HI HB
  go_enter Tryz.func31, Tryz.ntmps31
  go_wp2_with fail
  refine (HP.out _).mono ?_
  rintro e w1 ⟨rfl, hb1⟩
  have hi1 := HI.out.below hb1 (by simp)
  obtain ⟨⟨c0, c1, c2, c3, c4, c5, c6⟩, _⟩ := ins_cells hi1
  have HB1 := Lib.hid (HB.out.trans (hb1.mono (by simp)))
  clear hb1 hi1 HI HB HP
  go_wp2_with fail
  go_quiet (first
    | (go_at_call 48; exact Calls.quiet_of_same (has_q (by decide) _))
    | (go_at_call 47; exact Calls.quiet_of_same (reg_q _)))
  go_wp2_with (go_at_call 48; refine (has_any _ _ _ (by decide)).mono ?_; rintro e w' ⟨rfl, rfl⟩)
  go_ret
  exact ⟨by rw [HQ.out]; first | rfl | exact congrArg (fun b => Ending.returned (Value.bool b)) (decide_eq_false (show ¬ n ≤ 65536 by omega)) | exact congrArg (fun b => Ending.returned (Value.bool b)) (decide_eq_false (show ¬ m ≤ 65536 by omega)) | exact congrArg (fun b => Ending.returned (Value.bool b)) (decide_eq_false (show ¬ n ≤ 4 by omega)), HB1.out.trans (below_draws nq)⟩
set_option maxRecDepth 100000 in
set_option maxHeartbeats 1000000 in
theorem rr_9_3 (r s t n m : Int) (w : World) (r0 : 0 ≤ r) (r1 : r < 16) (s0 : 0 ≤ s) (s1 : s < 16) (t0 : 0 ≤ t) (x2 : t < 16) (x3 : m < 1) : Calls Tryz.prog 31 #[.agg #[.int .u8 9, .int .u8 0, .int .i64 r, .int .i64 s, .int .i64 t, .int .i64 n, .int .i64 m]] w (RR ⟨9, 0, r, s, t, n, m⟩ w) := by
  have HQ := Lib.hid (show rightB ⟨9, 0, r, s, t, n, m⟩ = false by simp [rightB, isK, ptsOf, fitsP, dropAll, dropP, isR] <;> omega)
  have HP := Lib.hid (fun w => parts_at (k := 9) (s := [97, 116, 110, 109]) (b := true) (by decide) (by decide) (by decide) (by decide) w)
  have HI := Lib.hid (show InsAt (w.alloc (.cells (ic ⟨9, 0, r, s, t, n, m⟩) 53)) w.heap.size ⟨9, 0, r, s, t, n, m⟩ from heap_alloc_new _ _)
  have HB := Lib.hid (below_box w (.cells (ic ⟨9, 0, r, s, t, n, m⟩) 53))
  have k114 : hasB [97, 116, 110, 109] 114 = false := by decide
  have k97 : hasB [97, 116, 110, 109] 97 = true := by decide
  have k116 : hasB [97, 116, 110, 109] 116 = true := by decide
  have k109 : hasB [97, 116, 110, 109] 109 = true := by decide
  have k110 : hasB [97, 116, 110, 109] 110 = true := by decide
  have k106 : hasB [97, 116, 110, 109] 106 = false := by decide
  have k107 : hasB [97, 116, 110, 109] 107 = false := by decide
  have z0 : regB 0 false = true := by decide
  have q1 := regB_in r0 r1
  have q2 := regB_in s0 s1
  have q3 := regB_in t0 x2
  unfold ic at HI HB
  go_enter Tryz.func31, Tryz.ntmps31
  go_wp2_with fail
  refine (HP.out _).mono ?_
  rintro e w1 ⟨rfl, hb1⟩
  have hi1 := HI.out.below hb1 (by simp)
  obtain ⟨⟨c0, c1, c2, c3, c4, c5, c6⟩, _⟩ := ins_cells hi1
  have HB1 := Lib.hid (HB.out.trans (hb1.mono (by simp)))
  clear hb1 hi1 HI HB HP
  go_wp2_with fail
  go_quiet (first
    | (go_at_call 48; exact Calls.quiet_of_same (has_q (by decide) _))
    | (go_at_call 47; exact Calls.quiet_of_same (reg_q _)))
  go_wp2_with (go_at_call 48; refine (has_any _ _ _ (by decide)).mono ?_; rintro e w' ⟨rfl, rfl⟩)
  go_ret
  exact ⟨by rw [HQ.out]; first | rfl | exact congrArg (fun b => Ending.returned (Value.bool b)) (decide_eq_false (show ¬ n ≤ 65536 by omega)) | exact congrArg (fun b => Ending.returned (Value.bool b)) (decide_eq_false (show ¬ m ≤ 65536 by omega)) | exact congrArg (fun b => Ending.returned (Value.bool b)) (decide_eq_false (show ¬ n ≤ 4 by omega)), HB1.out.trans (below_draws nq)⟩
set_option maxRecDepth 100000 in
set_option maxHeartbeats 1000000 in
theorem rr_9_4 (r s t n m : Int) (w : World) (r0 : 0 ≤ r) (r1 : r < 16) (s0 : 0 ≤ s) (s1 : s < 16) (t0 : 0 ≤ t) (x2 : t < 16) (x3 : 65536 < m) : Calls Tryz.prog 31 #[.agg #[.int .u8 9, .int .u8 0, .int .i64 r, .int .i64 s, .int .i64 t, .int .i64 n, .int .i64 m]] w (RR ⟨9, 0, r, s, t, n, m⟩ w) := by
  have HQ := Lib.hid (show rightB ⟨9, 0, r, s, t, n, m⟩ = false by simp [rightB, isK, ptsOf, fitsP, dropAll, dropP, isR] <;> omega)
  have HP := Lib.hid (fun w => parts_at (k := 9) (s := [97, 116, 110, 109]) (b := true) (by decide) (by decide) (by decide) (by decide) w)
  have HI := Lib.hid (show InsAt (w.alloc (.cells (ic ⟨9, 0, r, s, t, n, m⟩) 53)) w.heap.size ⟨9, 0, r, s, t, n, m⟩ from heap_alloc_new _ _)
  have HB := Lib.hid (below_box w (.cells (ic ⟨9, 0, r, s, t, n, m⟩) 53))
  have k114 : hasB [97, 116, 110, 109] 114 = false := by decide
  have k97 : hasB [97, 116, 110, 109] 97 = true := by decide
  have k116 : hasB [97, 116, 110, 109] 116 = true := by decide
  have k109 : hasB [97, 116, 110, 109] 109 = true := by decide
  have k110 : hasB [97, 116, 110, 109] 110 = true := by decide
  have k106 : hasB [97, 116, 110, 109] 106 = false := by decide
  have k107 : hasB [97, 116, 110, 109] 107 = false := by decide
  have z0 : regB 0 false = true := by decide
  have q1 := regB_in r0 r1
  have q2 := regB_in s0 s1
  have q3 := regB_in t0 x2
  unfold ic at HI HB
  go_enter Tryz.func31, Tryz.ntmps31
  go_wp2_with fail
  refine (HP.out _).mono ?_
  rintro e w1 ⟨rfl, hb1⟩
  have hi1 := HI.out.below hb1 (by simp)
  obtain ⟨⟨c0, c1, c2, c3, c4, c5, c6⟩, _⟩ := ins_cells hi1
  have HB1 := Lib.hid (HB.out.trans (hb1.mono (by simp)))
  clear hb1 hi1 HI HB HP
  go_wp2_with fail
  go_quiet (first
    | (go_at_call 48; exact Calls.quiet_of_same (has_q (by decide) _))
    | (go_at_call 47; exact Calls.quiet_of_same (reg_q _)))
  go_wp2_with (go_at_call 48; refine (has_any _ _ _ (by decide)).mono ?_; rintro e w' ⟨rfl, rfl⟩)
  go_ret
  exact ⟨by rw [HQ.out]; first | rfl | exact congrArg (fun b => Ending.returned (Value.bool b)) (decide_eq_false (show ¬ n ≤ 65536 by omega)) | exact congrArg (fun b => Ending.returned (Value.bool b)) (decide_eq_false (show ¬ m ≤ 65536 by omega)) | exact congrArg (fun b => Ending.returned (Value.bool b)) (decide_eq_false (show ¬ n ≤ 4 by omega)), HB1.out.trans (below_draws nq)⟩
set_option maxRecDepth 100000 in
set_option maxHeartbeats 1000000 in
theorem rr_9_5 (r s t n m : Int) (w : World) (r0 : 0 ≤ r) (r1 : r < 16) (s0 : 0 ≤ s) (s1 : s < 16) (_t0 : 0 ≤ t) (x2 : ¬ t < 16) : Calls Tryz.prog 31 #[.agg #[.int .u8 9, .int .u8 0, .int .i64 r, .int .i64 s, .int .i64 t, .int .i64 n, .int .i64 m]] w (RR ⟨9, 0, r, s, t, n, m⟩ w) := by
  have HQ := Lib.hid (show rightB ⟨9, 0, r, s, t, n, m⟩ = false by simp [rightB, isK, ptsOf, fitsP, dropAll, dropP, isR] <;> omega)
  have HP := Lib.hid (fun w => parts_at (k := 9) (s := [97, 116, 110, 109]) (b := true) (by decide) (by decide) (by decide) (by decide) w)
  have HI := Lib.hid (show InsAt (w.alloc (.cells (ic ⟨9, 0, r, s, t, n, m⟩) 53)) w.heap.size ⟨9, 0, r, s, t, n, m⟩ from heap_alloc_new _ _)
  have HB := Lib.hid (below_box w (.cells (ic ⟨9, 0, r, s, t, n, m⟩) 53))
  have k114 : hasB [97, 116, 110, 109] 114 = false := by decide
  have k97 : hasB [97, 116, 110, 109] 97 = true := by decide
  have k116 : hasB [97, 116, 110, 109] 116 = true := by decide
  have k109 : hasB [97, 116, 110, 109] 109 = true := by decide
  have k110 : hasB [97, 116, 110, 109] 110 = true := by decide
  have k106 : hasB [97, 116, 110, 109] 106 = false := by decide
  have k107 : hasB [97, 116, 110, 109] 107 = false := by decide
  have z0 : regB 0 false = true := by decide
  have q1 := regB_in r0 r1
  have q2 := regB_in s0 s1
  have q3 := regB_out x2
  unfold ic at HI HB
  go_enter Tryz.func31, Tryz.ntmps31
  go_wp2_with fail
  refine (HP.out _).mono ?_
  rintro e w1 ⟨rfl, hb1⟩
  have hi1 := HI.out.below hb1 (by simp)
  obtain ⟨⟨c0, c1, c2, c3, c4, c5, c6⟩, _⟩ := ins_cells hi1
  have HB1 := Lib.hid (HB.out.trans (hb1.mono (by simp)))
  clear hb1 hi1 HI HB HP
  go_wp2_with fail
  go_quiet (first
    | (go_at_call 48; exact Calls.quiet_of_same (has_q (by decide) _))
    | (go_at_call 47; exact Calls.quiet_of_same (reg_q _)))
  go_wp2_with (go_at_call 48; refine (has_any _ _ _ (by decide)).mono ?_; rintro e w' ⟨rfl, rfl⟩)
  go_ret
  exact ⟨by rw [HQ.out]; first | rfl | exact congrArg (fun b => Ending.returned (Value.bool b)) (decide_eq_false (show ¬ n ≤ 65536 by omega)) | exact congrArg (fun b => Ending.returned (Value.bool b)) (decide_eq_false (show ¬ m ≤ 65536 by omega)) | exact congrArg (fun b => Ending.returned (Value.bool b)) (decide_eq_false (show ¬ n ≤ 4 by omega)), HB1.out.trans (below_draws nq)⟩
theorem refRight_9 (r s t n m : Int) (w : World) (r0 : 0 ≤ r) (r1 : r < 16) (s0 : 0 ≤ s) (s1 : s < 16) (t0 : 0 ≤ t) : Calls Tryz.prog 31 #[.agg #[.int .u8 9, .int .u8 0, .int .i64 r, .int .i64 s, .int .i64 t, .int .i64 n, .int .i64 m]] w (RR ⟨9, 0, r, s, t, n, m⟩ w) := by
  rcases (show (t < 16) ∨ (¬ t < 16) by omega) with x2 | x2
  · rcases (show (1 ≤ m ∧ m ≤ 65536) ∨ (m < 1) ∨ (65536 < m) by omega) with x3 | x3 | x3
    · rcases (show (-65536 ≤ n ∧ n ≤ 65536) ∨ (n < -65536) ∨ (65536 < n) by omega) with x5 | x5 | x5
      · exact rr_9_0 r s t n m w r0 r1 s0 s1 t0 x2 x3 x5
      · exact rr_9_1 r s t n m w r0 r1 s0 s1 t0 x2 x3 x5
      · exact rr_9_2 r s t n m w r0 r1 s0 s1 t0 x2 x3 x5
    · exact rr_9_3 r s t n m w r0 r1 s0 s1 t0 x2 x3
    · exact rr_9_4 r s t n m w r0 r1 s0 s1 t0 x2 x3
  · exact rr_9_5 r s t n m w r0 r1 s0 s1 t0 x2

end Go.Proofs.YtdnpoeegefkoiaaGreat
