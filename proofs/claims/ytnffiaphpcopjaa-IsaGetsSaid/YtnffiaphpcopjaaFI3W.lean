/-
  Merged for a claim: I3W.
-/
import Derived.Test.YtnffiaphpcopjaaFI3L
import Derived.Test.YtnffiaphpcopjaaFI3M
namespace Go.Proofs.Ytnffiaphpcopjaa
open Go.RowKit

def Yes (w : World) (e : Ending) (w' : World) : Prop := e = .returned (.bool true) ∧ Below w.heap.size w w'
def wI : List UInt8 := [255, 8, 18, 3, 126, 4]
def wX : Ins := ⟨8, 0, 1, 2, 3, -2, 4⟩
theorem wX_rng : wX.Rng := by constructor <;> decide
theorem w0_rng : (insOf 0).Rng := by constructor <;> decide

theorem wk_put (w : World) (A : Option Addr) (c : Nat) (hc : A = none → c = 0) (h : Lies w w.heap.size A [255]) :
    Calls Try.prog 8 #[.slice A 1 c, .agg #[.int .u8 8, .int .u8 0, .int .i64 1, .int .i64 2, .int .i64 3, .int .i64 (-2), .int .i64 4]] w (Made w wI) := by
  have := isaPut_any A c [255] wX w wX_rng hc h (by simp)
  rw [show [255] ++ ownB wX = wI from by decide +kernel] at this
  exact this
theorem wk_get (w : World) (A : Option Addr) (c : Nat) (hc : 6 ≤ c) (h : Lies w w.heap.size A wI) :
    Calls Try.prog 17 #[.slice A 6 c, .int .i64 1] w fun e w' => e = .returned (.tuple #[.agg #[.int .u8 8, .int .u8 0, .int .i64 1, .int .i64 2, .int .i64 3, .int .i64 (-2), .int .i64 4], .int .i64 6, .int .i64 0]) ∧ Below w.heap.size w w' := by
  have := isaGet_any A c wI 1 w hc (by decide) h
  unfold GetR at this
  rw [show gI wI 1 = wX from by decide +kernel, show gN wI 1 = 6 from by decide +kernel, show gE wI 1 = 0 from by decide +kernel] at this
  exact this
theorem wk_right (w : World) : Calls Try.prog 9 #[.agg #[.int .u8 8, .int .u8 0, .int .i64 1, .int .i64 2, .int .i64 3, .int .i64 (-2), .int .i64 4]] w (Yes w) := by
  have := right_any wX w
  unfold RightR at this
  rw [show rightB wX = true from by decide +kernel] at this
  exact this
theorem wk_right0 (w : World) : Calls Try.prog 9 #[.agg #[.int .u8 0, .int .u8 0, .int .i64 0, .int .i64 0, .int .i64 0, .int .i64 0, .int .i64 0]] w fun e w' => e = .returned (.bool false) ∧ Below w.heap.size w w' := by
  have := right_any (insOf 0) w
  unfold RightR at this
  rw [show rightB (insOf 0) = false from by decide +kernel] at this
  exact this
theorem wk_size (w : World) : Calls Try.prog 11 #[.agg #[.int .u8 8, .int .u8 0, .int .i64 1, .int .i64 2, .int .i64 3, .int .i64 (-2), .int .i64 4]] w fun e w' => e = .returned (.int .i64 5) ∧ Below w.heap.size w w' := by
  have := isaSize_any wX w wX_rng
  rw [show (ownB wX).length = 5 from by decide +kernel] at this
  exact this
theorem wk_eq (w : World) : (binOp .eql 24 (.agg #[.int .u8 8, .int .u8 0, .int .i64 1, .int .i64 2, .int .i64 3, .int .i64 (-2), .int .i64 4]) (.agg #[.int .u8 8, .int .u8 0, .int .i64 1, .int .i64 2, .int .i64 3, .int .i64 (-2), .int .i64 4])).run Try.prog w = .ok (.bool true) w := by
  have := ins_eql wX wX w
  rwa [decide_eq_true (rfl : wX = wX)] at this
theorem wk_lies (w : World) (o : Obj) : Lies ((w.alloc o).alloc (.cells #[.int .u8 255] 5)) ((w.alloc o).alloc (.cells #[.int .u8 255] 5)).heap.size (some ⟨w.heap.size + 1, 0, none⟩) [255] := byte_box w o 255 (by omega) (by omega)

set_option maxRecDepth 100000 in
set_option maxHeartbeats 1000000 in
theorem works_any (w : World) : Calls Try.prog 6 #[] w (Yes w) := by
  go_enter Try.func6, Try.ntmps6
  go_wp2_with fail
  refine (wk_put _ _ 1 (by simp) (wk_lies w _)).mono ?_
  rintro e w1 ⟨v1, rfl, ho1, hb1⟩
  obtain ⟨A1, c1, rfl, hc1, _, hL1⟩ := ho1.form
  have hx : InsAt w1 w.heap.size wX := InsAt.below (show InsAt _ w.heap.size wX from heap_alloc2_old w _ _) hb1 (by simp; omega)
  have HB1 := Lib.hid ((below_box2 w (.cells (ic wX) 24) (.cells #[.int .u8 255] 5)).trans (hb1.mono (by simp; omega)))
  have hz1 := HB1.out.size
  obtain ⟨⟨c10, c11, c12, c13, c14, c15, c16⟩, _⟩ := ins_cells hx
  have HX1 := Lib.hid hx
  have hlt := hx.lt
  have hcap : 6 ≤ c1 := by assumption
  have HL1 := Lib.hid hL1
  clear hx hb1 ho1 hL1
  go_wp2_with fail
  refine (wk_get _ A1 c1 hcap HL1.out).mono ?_
  rintro e w2 ⟨rfl, hb2⟩
  have hb3 := hb2.trans ((below_box w2 (.cells #[.int .u8 8, .int .u8 0, .int .i64 1, .int .i64 2, .int .i64 3, .int .i64 (-2), .int .i64 4] 24)).mono hb2.size)
  have hx3 := HX1.out.below hb3 hlt
  have hy3 : InsAt (w2.alloc (.cells #[.int .u8 8, .int .u8 0, .int .i64 1, .int .i64 2, .int .i64 3, .int .i64 (-2), .int .i64 4] 24)) w2.heap.size wX := heap_alloc_new _ _
  have hz2 := hb2.size
  obtain ⟨⟨d0, d1, d2, d3, d4, d5, d6⟩, _⟩ := ins_cells hx3
  have HB3 := Lib.hid hb3
  have HX3 := Lib.hid hx3
  have HY3 := Lib.hid hy3
  have HL3 := Lib.hid (HL1.out.below hb3)
  clear hb2 hb3 hx3 hy3 c10 c11 c12 c13 c14 c15 c16
  go_wp2_with fail
  refine (wk_right _).mono ?_
  rintro e w4 ⟨rfl, hb4⟩
  have hx4 := HX3.out.below hb4 HX3.out.lt
  have hy4 := HY3.out.below hb4 HY3.out.lt
  have hz4 := hb4.size
  obtain ⟨g, o, rfl, _, hc2⟩ := (HL3.out.below (hb4.mono (by simp; omega))).at_ (j := 2) (by decide)
  rw [show (wI[2]'(by decide)).toNat = 18 from by decide] at hc2
  obtain ⟨⟨e0, e1, e2, e3, e4, e5, e6⟩, _⟩ := ins_cells hx4
  obtain ⟨⟨f0, f1, f2, f3, f4, f5, f6⟩, _⟩ := ins_cells hy4
  have HB4 := Lib.hid (HB3.out.trans (hb4.mono (by simp; omega)))
  have heq := wk_eq
  clear hb4 hx4 hy4 d0 d1 d2 d3 d4 d5 d6
  go_wp2_with fail
  refine (wk_size _).mono ?_
  rintro e w5 ⟨rfl, hb5⟩
  have HB5 := Lib.hid hb5
  clear hb5
  go_wp2_with fail
  refine (wk_right0 _).mono ?_
  rintro e w6 ⟨rfl, hb6⟩
  have HB6 := Lib.hid hb6
  clear hb6
  go_wp2_with fail
  go_ret
  have q4 := HB4.out.size
  have q5 := HB5.out.size
  exact ⟨rfl, HB1.out.trans (((HB4.out.trans (HB5.out.mono q4)).trans (HB6.out.mono (Nat.le_trans q4 q5))).mono hz1)⟩

end Go.Proofs.Ytnffiaphpcopjaa
