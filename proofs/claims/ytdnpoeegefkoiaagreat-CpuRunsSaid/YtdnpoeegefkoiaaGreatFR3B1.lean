/-
  Merged for a claim: R3B1.
-/
import Derived.Test.YtdnpoeegefkoiaaGreatFR3B
namespace Go.Proofs.YtdnpoeegefkoiaaGreat
open Go.RowKit

set_option maxRecDepth 100000 in
set_option maxHeartbeats 1000000 in
theorem rr_1_0 (w : World)   : Calls Tryz.prog 31 #[.agg #[.int .u8 1, .int .u8 0, .int .i64 0, .int .i64 0, .int .i64 0, .int .i64 0, .int .i64 0]] w (RR ⟨1, 0, 0, 0, 0, 0, 0⟩ w) := by
  have HQ := Lib.hid (show rightB ⟨1, 0, 0, 0, 0, 0, 0⟩ = true by simp [rightB, isK, ptsOf, fitsP, dropAll, dropP, isR] <;> omega)
  have HP := Lib.hid (fun w => parts_at (k := 1) (s := []) (b := true) (by decide) (by decide) (by decide) (by decide) w)
  have HI := Lib.hid (show InsAt (w.alloc (.cells (ic ⟨1, 0, 0, 0, 0, 0, 0⟩) 53)) w.heap.size ⟨1, 0, 0, 0, 0, 0, 0⟩ from heap_alloc_new _ _)
  have HB := Lib.hid (below_box w (.cells (ic ⟨1, 0, 0, 0, 0, 0, 0⟩) 53))
  have k114 : hasB [] 114 = false := by decide
  have k97 : hasB [] 97 = false := by decide
  have k116 : hasB [] 116 = false := by decide
  have k109 : hasB [] 109 = false := by decide
  have k110 : hasB [] 110 = false := by decide
  have k106 : hasB [] 106 = false := by decide
  have k107 : hasB [] 107 = false := by decide
  have z0 : regB 0 false = true := by decide
  unfold ic at HI HB
  go_enter Tryz.func31, Tryz.ntmps31
  go_wp2_with fail
  refine (HP.out _).mono ?_
  rintro e w1 ⟨rfl, hb1⟩
  have hi1 := HI.out.below hb1 (by simp)
  obtain ⟨⟨c0, c1, c2, c3, c4, c5, c6⟩, _⟩ := ins_cells hi1
  have HB1 := Lib.hid (HB.out.trans (hb1.mono (by simp)))
  clear hb1 hi1 HI HB HP
  go_wp2_with fail
  go_quiet (first
    | (go_at_call 48; exact Calls.quiet_of_same (has_q (by decide) _))
    | (go_at_call 47; exact Calls.quiet_of_same (reg_q _)))
  go_wp2_with (go_at_call 48; refine (has_any _ _ _ (by decide)).mono ?_; rintro e w' ⟨rfl, rfl⟩)
  go_ret
  exact ⟨by rw [HQ.out]; rfl, HB1.out.trans (below_draws nq)⟩
theorem refRight_1 (w : World)  : Calls Tryz.prog 31 #[.agg #[.int .u8 1, .int .u8 0, .int .i64 0, .int .i64 0, .int .i64 0, .int .i64 0, .int .i64 0]] w (RR ⟨1, 0, 0, 0, 0, 0, 0⟩ w) := by
  exact rr_1_0  w  
set_option maxRecDepth 100000 in
set_option maxHeartbeats 1000000 in
theorem rr_2_0 (r n : Int) (w : World) (r0 : 0 ≤ r) (x1 : r < 16) : Calls Tryz.prog 31 #[.agg #[.int .u8 2, .int .u8 0, .int .i64 r, .int .i64 0, .int .i64 0, .int .i64 n, .int .i64 0]] w (RR ⟨2, 0, r, 0, 0, n, 0⟩ w) := by
  have HQ := Lib.hid (show rightB ⟨2, 0, r, 0, 0, n, 0⟩ = true by simp [rightB, isK, ptsOf, fitsP, dropAll, dropP, isR] <;> omega)
  have HP := Lib.hid (fun w => parts_at (k := 2) (s := [114, 110]) (b := true) (by decide) (by decide) (by decide) (by decide) w)
  have HI := Lib.hid (show InsAt (w.alloc (.cells (ic ⟨2, 0, r, 0, 0, n, 0⟩) 53)) w.heap.size ⟨2, 0, r, 0, 0, n, 0⟩ from heap_alloc_new _ _)
  have HB := Lib.hid (below_box w (.cells (ic ⟨2, 0, r, 0, 0, n, 0⟩) 53))
  have k114 : hasB [114, 110] 114 = true := by decide
  have k97 : hasB [114, 110] 97 = false := by decide
  have k116 : hasB [114, 110] 116 = false := by decide
  have k109 : hasB [114, 110] 109 = false := by decide
  have k110 : hasB [114, 110] 110 = true := by decide
  have k106 : hasB [114, 110] 106 = false := by decide
  have k107 : hasB [114, 110] 107 = false := by decide
  have z0 : regB 0 false = true := by decide
  have q1 := regB_in r0 x1
  unfold ic at HI HB
  go_enter Tryz.func31, Tryz.ntmps31
  go_wp2_with fail
  refine (HP.out _).mono ?_
  rintro e w1 ⟨rfl, hb1⟩
  have hi1 := HI.out.below hb1 (by simp)
  obtain ⟨⟨c0, c1, c2, c3, c4, c5, c6⟩, _⟩ := ins_cells hi1
  have HB1 := Lib.hid (HB.out.trans (hb1.mono (by simp)))
  clear hb1 hi1 HI HB HP
  go_wp2_with fail
  go_quiet (first
    | (go_at_call 48; exact Calls.quiet_of_same (has_q (by decide) _))
    | (go_at_call 47; exact Calls.quiet_of_same (reg_q _)))
  go_wp2_with (go_at_call 48; refine (has_any _ _ _ (by decide)).mono ?_; rintro e w' ⟨rfl, rfl⟩)
  go_ret
  exact ⟨by rw [HQ.out]; rfl, HB1.out.trans (below_draws nq)⟩
set_option maxRecDepth 100000 in
set_option maxHeartbeats 1000000 in
theorem rr_2_1 (r n : Int) (w : World) (_r0 : 0 ≤ r) (x1 : ¬ r < 16) : Calls Tryz.prog 31 #[.agg #[.int .u8 2, .int .u8 0, .int .i64 r, .int .i64 0, .int .i64 0, .int .i64 n, .int .i64 0]] w (RR ⟨2, 0, r, 0, 0, n, 0⟩ w) := by
  have HQ := Lib.hid (show rightB ⟨2, 0, r, 0, 0, n, 0⟩ = false by simp [rightB, isK, ptsOf, fitsP, dropAll, dropP, isR] <;> omega)
  have HP := Lib.hid (fun w => parts_at (k := 2) (s := [114, 110]) (b := true) (by decide) (by decide) (by decide) (by decide) w)
  have HI := Lib.hid (show InsAt (w.alloc (.cells (ic ⟨2, 0, r, 0, 0, n, 0⟩) 53)) w.heap.size ⟨2, 0, r, 0, 0, n, 0⟩ from heap_alloc_new _ _)
  have HB := Lib.hid (below_box w (.cells (ic ⟨2, 0, r, 0, 0, n, 0⟩) 53))
  have k114 : hasB [114, 110] 114 = true := by decide
  have k97 : hasB [114, 110] 97 = false := by decide
  have k116 : hasB [114, 110] 116 = false := by decide
  have k109 : hasB [114, 110] 109 = false := by decide
  have k110 : hasB [114, 110] 110 = true := by decide
  have k106 : hasB [114, 110] 106 = false := by decide
  have k107 : hasB [114, 110] 107 = false := by decide
  have z0 : regB 0 false = true := by decide
  have q1 := regB_out x1
  unfold ic at HI HB
  go_enter Tryz.func31, Tryz.ntmps31
  go_wp2_with fail
  refine (HP.out _).mono ?_
  rintro e w1 ⟨rfl, hb1⟩
  have hi1 := HI.out.below hb1 (by simp)
  obtain ⟨⟨c0, c1, c2, c3, c4, c5, c6⟩, _⟩ := ins_cells hi1
  have HB1 := Lib.hid (HB.out.trans (hb1.mono (by simp)))
  clear hb1 hi1 HI HB HP
  go_wp2_with fail
  go_quiet (first
    | (go_at_call 48; exact Calls.quiet_of_same (has_q (by decide) _))
    | (go_at_call 47; exact Calls.quiet_of_same (reg_q _)))
  go_wp2_with (go_at_call 48; refine (has_any _ _ _ (by decide)).mono ?_; rintro e w' ⟨rfl, rfl⟩)
  go_ret
  exact ⟨by rw [HQ.out]; rfl, HB1.out.trans (below_draws nq)⟩
theorem refRight_2 (r n : Int) (w : World) (r0 : 0 ≤ r) : Calls Tryz.prog 31 #[.agg #[.int .u8 2, .int .u8 0, .int .i64 r, .int .i64 0, .int .i64 0, .int .i64 n, .int .i64 0]] w (RR ⟨2, 0, r, 0, 0, n, 0⟩ w) := by
  rcases (show (r < 16) ∨ (¬ r < 16) by omega) with x1 | x1
  · exact rr_2_0 r n w r0 x1
  · exact rr_2_1 r n w r0 x1
set_option maxRecDepth 100000 in
set_option maxHeartbeats 1000000 in
theorem rr_3_0 (r s : Int) (w : World) (r0 : 0 ≤ r) (r1 : r < 16) (s0 : 0 ≤ s) (s1 : s < 16)  : Calls Tryz.prog 31 #[.agg #[.int .u8 3, .int .u8 0, .int .i64 r, .int .i64 s, .int .i64 0, .int .i64 0, .int .i64 0]] w (RR ⟨3, 0, r, s, 0, 0, 0⟩ w) := by
  have HQ := Lib.hid (show rightB ⟨3, 0, r, s, 0, 0, 0⟩ = true by simp [rightB, isK, ptsOf, fitsP, dropAll, dropP, isR] <;> omega)
  have HP := Lib.hid (fun w => parts_at (k := 3) (s := [97]) (b := true) (by decide) (by decide) (by decide) (by decide) w)
  have HI := Lib.hid (show InsAt (w.alloc (.cells (ic ⟨3, 0, r, s, 0, 0, 0⟩) 53)) w.heap.size ⟨3, 0, r, s, 0, 0, 0⟩ from heap_alloc_new _ _)
  have HB := Lib.hid (below_box w (.cells (ic ⟨3, 0, r, s, 0, 0, 0⟩) 53))
  have k114 : hasB [97] 114 = false := by decide
  have k97 : hasB [97] 97 = true := by decide
  have k116 : hasB [97] 116 = false := by decide
  have k109 : hasB [97] 109 = false := by decide
  have k110 : hasB [97] 110 = false := by decide
  have k106 : hasB [97] 106 = false := by decide
  have k107 : hasB [97] 107 = false := by decide
  have z0 : regB 0 false = true := by decide
  have q1 := regB_in r0 r1
  have q2 := regB_in s0 s1
  unfold ic at HI HB
  go_enter Tryz.func31, Tryz.ntmps31
  go_wp2_with fail
  refine (HP.out _).mono ?_
  rintro e w1 ⟨rfl, hb1⟩
  have hi1 := HI.out.below hb1 (by simp)
  obtain ⟨⟨c0, c1, c2, c3, c4, c5, c6⟩, _⟩ := ins_cells hi1
  have HB1 := Lib.hid (HB.out.trans (hb1.mono (by simp)))
  clear hb1 hi1 HI HB HP
  go_wp2_with fail
  go_quiet (first
    | (go_at_call 48; exact Calls.quiet_of_same (has_q (by decide) _))
    | (go_at_call 47; exact Calls.quiet_of_same (reg_q _)))
  go_wp2_with (go_at_call 48; refine (has_any _ _ _ (by decide)).mono ?_; rintro e w' ⟨rfl, rfl⟩)
  go_ret
  exact ⟨by rw [HQ.out]; rfl, HB1.out.trans (below_draws nq)⟩
theorem refRight_3 (r s : Int) (w : World) (r0 : 0 ≤ r) (r1 : r < 16) (s0 : 0 ≤ s) (s1 : s < 16) : Calls Tryz.prog 31 #[.agg #[.int .u8 3, .int .u8 0, .int .i64 r, .int .i64 s, .int .i64 0, .int .i64 0, .int .i64 0]] w (RR ⟨3, 0, r, s, 0, 0, 0⟩ w) := by
  exact rr_3_0 r s w r0 r1 s0 s1 
set_option maxRecDepth 100000 in
set_option maxHeartbeats 1000000 in
theorem rr_4_0 (o r s t : Int) (w : World) (o0 : 0 ≤ o) (o1 : o < 256) (r0 : 0 ≤ r) (r1 : r < 16) (s0 : 0 ≤ s) (s1 : s < 16) (t0 : 0 ≤ t) (x2 : t < 16) (x4 : 1 ≤ o ∧ o ≤ 13) : Calls Tryz.prog 31 #[.agg #[.int .u8 4, .int .u8 o, .int .i64 r, .int .i64 s, .int .i64 t, .int .i64 0, .int .i64 0]] w (RR ⟨4, o, r, s, t, 0, 0⟩ w) := by
  have HQ := Lib.hid (show rightB ⟨4, o, r, s, t, 0, 0⟩ = true by simp [rightB, isK, ptsOf, fitsP, dropAll, dropP, isR] <;> omega)
  have HP := Lib.hid (fun w => parts_at (k := 4) (s := [111, 97, 116]) (b := true) (by decide) (by decide) (by decide) (by decide) w)
  have HI := Lib.hid (show InsAt (w.alloc (.cells (ic ⟨4, o, r, s, t, 0, 0⟩) 53)) w.heap.size ⟨4, o, r, s, t, 0, 0⟩ from heap_alloc_new _ _)
  have HB := Lib.hid (below_box w (.cells (ic ⟨4, o, r, s, t, 0, 0⟩) 53))
  have k114 : hasB [111, 97, 116] 114 = false := by decide
  have k97 : hasB [111, 97, 116] 97 = true := by decide
  have k116 : hasB [111, 97, 116] 116 = true := by decide
  have k109 : hasB [111, 97, 116] 109 = false := by decide
  have k110 : hasB [111, 97, 116] 110 = false := by decide
  have k106 : hasB [111, 97, 116] 106 = false := by decide
  have k107 : hasB [111, 97, 116] 107 = false := by decide
  have z0 : regB 0 false = true := by decide
  have q1 := regB_in r0 r1
  have q2 := regB_in s0 s1
  have q3 := regB_in t0 x2
  obtain ⟨x4a, x4b⟩ := x4
  unfold ic at HI HB
  go_enter Tryz.func31, Tryz.ntmps31
  go_wp2_with fail
  refine (HP.out _).mono ?_
  rintro e w1 ⟨rfl, hb1⟩
  have hi1 := HI.out.below hb1 (by simp)
  obtain ⟨⟨c0, c1, c2, c3, c4, c5, c6⟩, _⟩ := ins_cells hi1
  have HB1 := Lib.hid (HB.out.trans (hb1.mono (by simp)))
  clear hb1 hi1 HI HB HP
  go_wp2_with fail
  go_quiet (first
    | (go_at_call 48; exact Calls.quiet_of_same (has_q (by decide) _))
    | (go_at_call 47; exact Calls.quiet_of_same (reg_q _)))
  go_wp2_with (go_at_call 48; refine (has_any _ _ _ (by decide)).mono ?_; rintro e w' ⟨rfl, rfl⟩)
  go_ret
  exact ⟨by rw [HQ.out]; rfl, HB1.out.trans (below_draws nq)⟩
set_option maxRecDepth 100000 in
set_option maxHeartbeats 1000000 in
theorem rr_4_1 (o r s t : Int) (w : World) (o0 : 0 ≤ o) (o1 : o < 256) (r0 : 0 ≤ r) (r1 : r < 16) (s0 : 0 ≤ s) (s1 : s < 16) (t0 : 0 ≤ t) (x2 : t < 16) (x4 : o < 1) : Calls Tryz.prog 31 #[.agg #[.int .u8 4, .int .u8 o, .int .i64 r, .int .i64 s, .int .i64 t, .int .i64 0, .int .i64 0]] w (RR ⟨4, o, r, s, t, 0, 0⟩ w) := by
  have HQ := Lib.hid (show rightB ⟨4, o, r, s, t, 0, 0⟩ = false by simp [rightB, isK, ptsOf, fitsP, dropAll, dropP, isR] <;> omega)
  have HP := Lib.hid (fun w => parts_at (k := 4) (s := [111, 97, 116]) (b := true) (by decide) (by decide) (by decide) (by decide) w)
  have HI := Lib.hid (show InsAt (w.alloc (.cells (ic ⟨4, o, r, s, t, 0, 0⟩) 53)) w.heap.size ⟨4, o, r, s, t, 0, 0⟩ from heap_alloc_new _ _)
  have HB := Lib.hid (below_box w (.cells (ic ⟨4, o, r, s, t, 0, 0⟩) 53))
  have k114 : hasB [111, 97, 116] 114 = false := by decide
  have k97 : hasB [111, 97, 116] 97 = true := by decide
  have k116 : hasB [111, 97, 116] 116 = true := by decide
  have k109 : hasB [111, 97, 116] 109 = false := by decide
  have k110 : hasB [111, 97, 116] 110 = false := by decide
  have k106 : hasB [111, 97, 116] 106 = false := by decide
  have k107 : hasB [111, 97, 116] 107 = false := by decide
  have z0 : regB 0 false = true := by decide
  have q1 := regB_in r0 r1
  have q2 := regB_in s0 s1
  have q3 := regB_in t0 x2
  unfold ic at HI HB
  go_enter Tryz.func31, Tryz.ntmps31
  go_wp2_with fail
  refine (HP.out _).mono ?_
  rintro e w1 ⟨rfl, hb1⟩
  have hi1 := HI.out.below hb1 (by simp)
  obtain ⟨⟨c0, c1, c2, c3, c4, c5, c6⟩, _⟩ := ins_cells hi1
  have HB1 := Lib.hid (HB.out.trans (hb1.mono (by simp)))
  clear hb1 hi1 HI HB HP
  go_wp2_with fail
  go_quiet (first
    | (go_at_call 48; exact Calls.quiet_of_same (has_q (by decide) _))
    | (go_at_call 47; exact Calls.quiet_of_same (reg_q _)))
  go_wp2_with (go_at_call 48; refine (has_any _ _ _ (by decide)).mono ?_; rintro e w' ⟨rfl, rfl⟩)
  go_ret
  exact ⟨by rw [HQ.out]; rfl, HB1.out.trans (below_draws nq)⟩
set_option maxRecDepth 100000 in
set_option maxHeartbeats 1000000 in
theorem rr_4_2 (o r s t : Int) (w : World) (o0 : 0 ≤ o) (o1 : o < 256) (r0 : 0 ≤ r) (r1 : r < 16) (s0 : 0 ≤ s) (s1 : s < 16) (t0 : 0 ≤ t) (x2 : t < 16) (x4 : 13 < o) : Calls Tryz.prog 31 #[.agg #[.int .u8 4, .int .u8 o, .int .i64 r, .int .i64 s, .int .i64 t, .int .i64 0, .int .i64 0]] w (RR ⟨4, o, r, s, t, 0, 0⟩ w) := by
  have HQ := Lib.hid (show rightB ⟨4, o, r, s, t, 0, 0⟩ = false by simp [rightB, isK, ptsOf, fitsP, dropAll, dropP, isR] <;> omega)
  have HP := Lib.hid (fun w => parts_at (k := 4) (s := [111, 97, 116]) (b := true) (by decide) (by decide) (by decide) (by decide) w)
  have HI := Lib.hid (show InsAt (w.alloc (.cells (ic ⟨4, o, r, s, t, 0, 0⟩) 53)) w.heap.size ⟨4, o, r, s, t, 0, 0⟩ from heap_alloc_new _ _)
  have HB := Lib.hid (below_box w (.cells (ic ⟨4, o, r, s, t, 0, 0⟩) 53))
  have k114 : hasB [111, 97, 116] 114 = false := by decide
  have k97 : hasB [111, 97, 116] 97 = true := by decide
  have k116 : hasB [111, 97, 116] 116 = true := by decide
  have k109 : hasB [111, 97, 116] 109 = false := by decide
  have k110 : hasB [111, 97, 116] 110 = false := by decide
  have k106 : hasB [111, 97, 116] 106 = false := by decide
  have k107 : hasB [111, 97, 116] 107 = false := by decide
  have z0 : regB 0 false = true := by decide
  have q1 := regB_in r0 r1
  have q2 := regB_in s0 s1
  have q3 := regB_in t0 x2
  unfold ic at HI HB
  go_enter Tryz.func31, Tryz.ntmps31
  go_wp2_with fail
  refine (HP.out _).mono ?_
  rintro e w1 ⟨rfl, hb1⟩
  have hi1 := HI.out.below hb1 (by simp)
  obtain ⟨⟨c0, c1, c2, c3, c4, c5, c6⟩, _⟩ := ins_cells hi1
  have HB1 := Lib.hid (HB.out.trans (hb1.mono (by simp)))
  clear hb1 hi1 HI HB HP
  go_wp2_with fail
  go_quiet (first
    | (go_at_call 48; exact Calls.quiet_of_same (has_q (by decide) _))
    | (go_at_call 47; exact Calls.quiet_of_same (reg_q _)))
  go_wp2_with (go_at_call 48; refine (has_any _ _ _ (by decide)).mono ?_; rintro e w' ⟨rfl, rfl⟩)
  go_ret
  exact ⟨by rw [HQ.out]; rfl, HB1.out.trans (below_draws nq)⟩
set_option maxRecDepth 100000 in
set_option maxHeartbeats 1000000 in
theorem rr_4_3 (o r s t : Int) (w : World) (_o0 : 0 ≤ o) (_o1 : o < 256) (r0 : 0 ≤ r) (r1 : r < 16) (s0 : 0 ≤ s) (s1 : s < 16) (_t0 : 0 ≤ t) (x2 : ¬ t < 16) : Calls Tryz.prog 31 #[.agg #[.int .u8 4, .int .u8 o, .int .i64 r, .int .i64 s, .int .i64 t, .int .i64 0, .int .i64 0]] w (RR ⟨4, o, r, s, t, 0, 0⟩ w) := by
  have HQ := Lib.hid (show rightB ⟨4, o, r, s, t, 0, 0⟩ = false by simp [rightB, isK, ptsOf, fitsP, dropAll, dropP, isR] <;> omega)
  have HP := Lib.hid (fun w => parts_at (k := 4) (s := [111, 97, 116]) (b := true) (by decide) (by decide) (by decide) (by decide) w)
  have HI := Lib.hid (show InsAt (w.alloc (.cells (ic ⟨4, o, r, s, t, 0, 0⟩) 53)) w.heap.size ⟨4, o, r, s, t, 0, 0⟩ from heap_alloc_new _ _)
  have HB := Lib.hid (below_box w (.cells (ic ⟨4, o, r, s, t, 0, 0⟩) 53))
  have k114 : hasB [111, 97, 116] 114 = false := by decide
  have k97 : hasB [111, 97, 116] 97 = true := by decide
  have k116 : hasB [111, 97, 116] 116 = true := by decide
  have k109 : hasB [111, 97, 116] 109 = false := by decide
  have k110 : hasB [111, 97, 116] 110 = false := by decide
  have k106 : hasB [111, 97, 116] 106 = false := by decide
  have k107 : hasB [111, 97, 116] 107 = false := by decide
  have z0 : regB 0 false = true := by decide
  have q1 := regB_in r0 r1
  have q2 := regB_in s0 s1
  have q3 := regB_out x2
  unfold ic at HI HB
  go_enter Tryz.func31, Tryz.ntmps31
  go_wp2_with fail
  refine (HP.out _).mono ?_
  rintro e w1 ⟨rfl, hb1⟩
  have hi1 := HI.out.below hb1 (by simp)
  obtain ⟨⟨c0, c1, c2, c3, c4, c5, c6⟩, _⟩ := ins_cells hi1
  have HB1 := Lib.hid (HB.out.trans (hb1.mono (by simp)))
  clear hb1 hi1 HI HB HP
  go_wp2_with fail
  go_quiet (first
    | (go_at_call 48; exact Calls.quiet_of_same (has_q (by decide) _))
    | (go_at_call 47; exact Calls.quiet_of_same (reg_q _)))
  go_wp2_with (go_at_call 48; refine (has_any _ _ _ (by decide)).mono ?_; rintro e w' ⟨rfl, rfl⟩)
  go_ret
  exact ⟨by rw [HQ.out]; rfl, HB1.out.trans (below_draws nq)⟩
theorem refRight_4 (o r s t : Int) (w : World) (o0 : 0 ≤ o) (o1 : o < 256) (r0 : 0 ≤ r) (r1 : r < 16) (s0 : 0 ≤ s) (s1 : s < 16) (t0 : 0 ≤ t) : Calls Tryz.prog 31 #[.agg #[.int .u8 4, .int .u8 o, .int .i64 r, .int .i64 s, .int .i64 t, .int .i64 0, .int .i64 0]] w (RR ⟨4, o, r, s, t, 0, 0⟩ w) := by
  rcases (show (t < 16) ∨ (¬ t < 16) by omega) with x2 | x2
  · rcases (show (1 ≤ o ∧ o ≤ 13) ∨ (o < 1) ∨ (13 < o) by omega) with x4 | x4 | x4
    · exact rr_4_0 o r s t w o0 o1 r0 r1 s0 s1 t0 x2 x4
    · exact rr_4_1 o r s t w o0 o1 r0 r1 s0 s1 t0 x2 x4
    · exact rr_4_2 o r s t w o0 o1 r0 r1 s0 s1 t0 x2 x4
  · exact rr_4_3 o r s t w o0 o1 r0 r1 s0 s1 t0 x2
set_option maxRecDepth 100000 in
set_option maxHeartbeats 1000000 in
theorem rr_5_0 (o r s : Int) (w : World) (_o0 : 0 ≤ o) (_o1 : o < 256) (r0 : 0 ≤ r) (r1 : r < 16) (s0 : 0 ≤ s) (s1 : s < 16) (x4 : o = 14) : Calls Tryz.prog 31 #[.agg #[.int .u8 5, .int .u8 o, .int .i64 r, .int .i64 s, .int .i64 0, .int .i64 0, .int .i64 0]] w (RR ⟨5, o, r, s, 0, 0, 0⟩ w) := by
  have HQ := Lib.hid (show rightB ⟨5, o, r, s, 0, 0, 0⟩ = true by simp [rightB, isK, ptsOf, fitsP, dropAll, dropP, isR] <;> omega)
  have HP := Lib.hid (fun w => parts_at (k := 5) (s := [111, 97]) (b := true) (by decide) (by decide) (by decide) (by decide) w)
  have HI := Lib.hid (show InsAt (w.alloc (.cells (ic ⟨5, o, r, s, 0, 0, 0⟩) 53)) w.heap.size ⟨5, o, r, s, 0, 0, 0⟩ from heap_alloc_new _ _)
  have HB := Lib.hid (below_box w (.cells (ic ⟨5, o, r, s, 0, 0, 0⟩) 53))
  have k114 : hasB [111, 97] 114 = false := by decide
  have k97 : hasB [111, 97] 97 = true := by decide
  have k116 : hasB [111, 97] 116 = false := by decide
  have k109 : hasB [111, 97] 109 = false := by decide
  have k110 : hasB [111, 97] 110 = false := by decide
  have k106 : hasB [111, 97] 106 = false := by decide
  have k107 : hasB [111, 97] 107 = false := by decide
  have z0 : regB 0 false = true := by decide
  have q1 := regB_in r0 r1
  have q2 := regB_in s0 s1
  have e14 := beq_of x4
  have n14 : (o != 14) = false := by simp [x4]
  clear x4
  unfold ic at HI HB
  go_enter Tryz.func31, Tryz.ntmps31
  go_wp2_with fail
  refine (HP.out _).mono ?_
  rintro e w1 ⟨rfl, hb1⟩
  have hi1 := HI.out.below hb1 (by simp)
  obtain ⟨⟨c0, c1, c2, c3, c4, c5, c6⟩, _⟩ := ins_cells hi1
  have HB1 := Lib.hid (HB.out.trans (hb1.mono (by simp)))
  clear hb1 hi1 HI HB HP
  go_wp2_with fail
  go_quiet (first
    | (go_at_call 48; exact Calls.quiet_of_same (has_q (by decide) _))
    | (go_at_call 47; exact Calls.quiet_of_same (reg_q _)))
  go_wp2_with (go_at_call 48; refine (has_any _ _ _ (by decide)).mono ?_; rintro e w' ⟨rfl, rfl⟩)
  go_ret
  exact ⟨by rw [HQ.out]; rfl, HB1.out.trans (below_draws nq)⟩
set_option maxRecDepth 100000 in
set_option maxHeartbeats 1000000 in
theorem rr_5_1 (o r s : Int) (w : World) (_o0 : 0 ≤ o) (_o1 : o < 256) (r0 : 0 ≤ r) (r1 : r < 16) (s0 : 0 ≤ s) (s1 : s < 16) (x4 : o = 15) : Calls Tryz.prog 31 #[.agg #[.int .u8 5, .int .u8 o, .int .i64 r, .int .i64 s, .int .i64 0, .int .i64 0, .int .i64 0]] w (RR ⟨5, o, r, s, 0, 0, 0⟩ w) := by
  have HQ := Lib.hid (show rightB ⟨5, o, r, s, 0, 0, 0⟩ = true by simp [rightB, isK, ptsOf, fitsP, dropAll, dropP, isR] <;> omega)
  have HP := Lib.hid (fun w => parts_at (k := 5) (s := [111, 97]) (b := true) (by decide) (by decide) (by decide) (by decide) w)
  have HI := Lib.hid (show InsAt (w.alloc (.cells (ic ⟨5, o, r, s, 0, 0, 0⟩) 53)) w.heap.size ⟨5, o, r, s, 0, 0, 0⟩ from heap_alloc_new _ _)
  have HB := Lib.hid (below_box w (.cells (ic ⟨5, o, r, s, 0, 0, 0⟩) 53))
  have k114 : hasB [111, 97] 114 = false := by decide
  have k97 : hasB [111, 97] 97 = true := by decide
  have k116 : hasB [111, 97] 116 = false := by decide
  have k109 : hasB [111, 97] 109 = false := by decide
  have k110 : hasB [111, 97] 110 = false := by decide
  have k106 : hasB [111, 97] 106 = false := by decide
  have k107 : hasB [111, 97] 107 = false := by decide
  have z0 : regB 0 false = true := by decide
  have q1 := regB_in r0 r1
  have q2 := regB_in s0 s1
  have e14 : (o == 14) = false := nbeq_of (by omega)
  have n14 : (o != 14) = true := by simp [x4]
  have n15 : (o != 15) = false := by simp [x4]
  clear x4
  unfold ic at HI HB
  go_enter Tryz.func31, Tryz.ntmps31
  go_wp2_with fail
  refine (HP.out _).mono ?_
  rintro e w1 ⟨rfl, hb1⟩
  have hi1 := HI.out.below hb1 (by simp)
  obtain ⟨⟨c0, c1, c2, c3, c4, c5, c6⟩, _⟩ := ins_cells hi1
  have HB1 := Lib.hid (HB.out.trans (hb1.mono (by simp)))
  clear hb1 hi1 HI HB HP
  go_wp2_with fail
  go_quiet (first
    | (go_at_call 48; exact Calls.quiet_of_same (has_q (by decide) _))
    | (go_at_call 47; exact Calls.quiet_of_same (reg_q _)))
  go_wp2_with (go_at_call 48; refine (has_any _ _ _ (by decide)).mono ?_; rintro e w' ⟨rfl, rfl⟩)
  go_ret
  exact ⟨by rw [HQ.out]; rfl, HB1.out.trans (below_draws nq)⟩
set_option maxRecDepth 100000 in
set_option maxHeartbeats 1000000 in
theorem rr_5_2 (o r s : Int) (w : World) (_o0 : 0 ≤ o) (_o1 : o < 256) (r0 : 0 ≤ r) (r1 : r < 16) (s0 : 0 ≤ s) (s1 : s < 16) (x4 : ¬ o = 14 ∧ ¬ o = 15) : Calls Tryz.prog 31 #[.agg #[.int .u8 5, .int .u8 o, .int .i64 r, .int .i64 s, .int .i64 0, .int .i64 0, .int .i64 0]] w (RR ⟨5, o, r, s, 0, 0, 0⟩ w) := by
  have HQ := Lib.hid (show rightB ⟨5, o, r, s, 0, 0, 0⟩ = false by simp [rightB, isK, ptsOf, fitsP, dropAll, dropP, isR] <;> omega)
  have HP := Lib.hid (fun w => parts_at (k := 5) (s := [111, 97]) (b := true) (by decide) (by decide) (by decide) (by decide) w)
  have HI := Lib.hid (show InsAt (w.alloc (.cells (ic ⟨5, o, r, s, 0, 0, 0⟩) 53)) w.heap.size ⟨5, o, r, s, 0, 0, 0⟩ from heap_alloc_new _ _)
  have HB := Lib.hid (below_box w (.cells (ic ⟨5, o, r, s, 0, 0, 0⟩) 53))
  have k114 : hasB [111, 97] 114 = false := by decide
  have k97 : hasB [111, 97] 97 = true := by decide
  have k116 : hasB [111, 97] 116 = false := by decide
  have k109 : hasB [111, 97] 109 = false := by decide
  have k110 : hasB [111, 97] 110 = false := by decide
  have k106 : hasB [111, 97] 106 = false := by decide
  have k107 : hasB [111, 97] 107 = false := by decide
  have z0 : regB 0 false = true := by decide
  have q1 := regB_in r0 r1
  have q2 := regB_in s0 s1
  have n14 : (o != 14) = true := by simp [x4.1]
  have n15 : (o != 15) = true := by simp [x4.2]
  clear x4
  unfold ic at HI HB
  go_enter Tryz.func31, Tryz.ntmps31
  go_wp2_with fail
  refine (HP.out _).mono ?_
  rintro e w1 ⟨rfl, hb1⟩
  have hi1 := HI.out.below hb1 (by simp)
  obtain ⟨⟨c0, c1, c2, c3, c4, c5, c6⟩, _⟩ := ins_cells hi1
  have HB1 := Lib.hid (HB.out.trans (hb1.mono (by simp)))
  clear hb1 hi1 HI HB HP
  go_wp2_with fail
  go_quiet (first
    | (go_at_call 48; exact Calls.quiet_of_same (has_q (by decide) _))
    | (go_at_call 47; exact Calls.quiet_of_same (reg_q _)))
  go_wp2_with (go_at_call 48; refine (has_any _ _ _ (by decide)).mono ?_; rintro e w' ⟨rfl, rfl⟩)
  go_ret
  exact ⟨by rw [HQ.out]; rfl, HB1.out.trans (below_draws nq)⟩
theorem refRight_5 (o r s : Int) (w : World) (o0 : 0 ≤ o) (o1 : o < 256) (r0 : 0 ≤ r) (r1 : r < 16) (s0 : 0 ≤ s) (s1 : s < 16) : Calls Tryz.prog 31 #[.agg #[.int .u8 5, .int .u8 o, .int .i64 r, .int .i64 s, .int .i64 0, .int .i64 0, .int .i64 0]] w (RR ⟨5, o, r, s, 0, 0, 0⟩ w) := by
  rcases (show (o = 14) ∨ (o = 15) ∨ (¬ o = 14 ∧ ¬ o = 15) by omega) with x4 | x4 | x4
  · exact rr_5_0 o r s w o0 o1 r0 r1 s0 s1 x4
  · exact rr_5_1 o r s w o0 o1 r0 r1 s0 s1 x4
  · exact rr_5_2 o r s w o0 o1 r0 r1 s0 s1 x4

end Go.Proofs.YtdnpoeegefkoiaaGreat
