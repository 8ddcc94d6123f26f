/-
  The laws' anchor of layer 5: works answers true, in memory of its own.
-/
import Derived.Test.YtfpgmaegpiiagaaL5I
import Derived.Test.YtfpgmaegpiiagaaL5L
namespace Go.Proofs.Ytfpgmaegpiiagaa
open Go.RowKit

def wR : List Rw := [⟨0, 0⟩, ⟨3, 1⟩, ⟨303, 0⟩]
def wB : List UInt8 := [8, 45, 1, 172, 2, 2, 127, 3, 0]
theorem w_right : rightB wR = true := by decide +kernel
theorem w_prog : progB wR = wB := by decide +kernel
theorem w_cells (w : World) : RLies (w.alloc (.cells #[.int .i64 0, .int .i64 0, .int .i64 3, .int .i64 1, .int .i64 303, .int .i64 0] 42)) (w.heap.size + 1) (some ⟨w.heap.size, 0, none⟩) wR := by
  intro _
  refine ⟨w.heap.size, 0, rfl, Nat.lt_succ_self _, fun j hj f u hu => ?_⟩
  have hh := heap_alloc_new w (.cells #[.int .i64 0, .int .i64 0, .int .i64 3, .int .i64 1, .int .i64 303, .int .i64 0] 42)
  have hf : f < 2 := by have := (List.getElem?_eq_some_iff.1 hu).1; simpa [rC_len] using this
  simp only [World.cell?, hh]
  rw [← hu]
  have hj' : j = 0 ∨ j = 1 ∨ j = 2 := by simp [wR] at hj; omega
  have hf' : f = 0 ∨ f = 1 := by omega
  rcases hj' with rfl | rfl | rfl <;> rcases hf' with rfl | rfl <;> rfl
theorem w_write (w : World) (A : Option Addr) (c : Nat) (h : RLies w w.heap.size A wR) : Calls Try.prog 9 #[.slice A 3 c] w fun e w' => ∃ v, e = .returned (.tuple #[v, .int .i64 0]) ∧ Own w' w.heap.size v wB ∧ Below w.heap.size w w' := by
  have := write_any A c wR w (by decide) h
  unfold WriteR at this
  rwa [show wrE wR = 0 from if_pos w_right, show wrB wR = wB from (if_pos w_right).trans w_prog] at this
theorem w_read (w : World) (A : Option Addr) (c : Nat) (h : Lies w w.heap.size A wB) : Calls Try.prog 16 #[.slice A 9 c] w fun e w' => ∃ v, e = .returned (.tuple #[v, .int .i64 0]) ∧ ROwn w' w.heap.size v wR ∧ Below w.heap.size w w' := by
  have := read_any A c wB w (by decide) h
  unfold ReadR at this
  have hr := rdL_prog w_right
  rw [w_prog] at hr
  rwa [(re_some hr).1, (re_some hr).2] at this
theorem w_at (w : World) (A : Option Addr) (c : Nat) (hc : 3 ≤ c) (h : RLies w w.heap.size A wR) : Calls Try.prog 19 #[.slice A 3 c, .int .i64 3] w fun e w' => e = .returned (.tuple #[.int .i64 1, .bool true]) ∧ Below w.heap.size w w' := by
  have := at_any A c wR 3 w (by decide) hc h
  unfold AtR at this
  rwa [show atX wR 3 = 1 from by decide +kernel, show atB wR 3 = true from by decide +kernel] at this
theorem w_pcs (w : World) (A : Option Addr) (c : Nat) (hc : 3 ≤ c) (h : RLies w w.heap.size A wR) : Calls Try.prog 21 #[.slice A 3 c, .int .i64 0] w fun e w' => ∃ v, e = .returned v ∧ NOwn w' w.heap.size v [0, 303] ∧ Below w.heap.size w w' := by
  have := pcs_any A c wR 0 w (by decide) hc h
  unfold PcsR at this
  rwa [show pcsOf 0 wR = [0, 303] from by decide +kernel] at this
theorem w_formB {w : World} {B : Nat} {v : Value} (h : Own w B v wB) : ∃ g o c, v = .slice (some ⟨g, o, none⟩) 9 c ∧ 9 ≤ c ∧ g < w.heap.size ∧ w.cell? ⟨g, o + 1, none⟩ = some (.int .u8 45) ∧ Lies w w.heap.size (some ⟨g, o, none⟩) wB := by
  obtain ⟨A, c, e, h1, _, h2⟩ := h.form
  obtain ⟨g, o, rfl, hg, hc⟩ := h2.at_ (j := 1) (by decide)
  exact ⟨g, o, c, e, h1, hg, hc, h2⟩
theorem w_formR {w : World} {B : Nat} {v : Value} (h : ROwn w B v wR) : ∃ g o c, v = .slice (some ⟨g, o, none⟩) 3 c ∧ 3 ≤ c ∧ g < w.heap.size ∧ w.cell? ⟨g, o + 4, none⟩ = some (.int .i64 303) ∧ w.cell? ⟨g, o + 5, none⟩ = some (.int .i64 0) := by
  obtain ⟨A, c, e, h1, _, h2⟩ := h.form
  obtain ⟨g, o, rfl, hg, c0, c1⟩ := h2.at_ (j := 2) (by decide)
  exact ⟨g, o, c, e, h1, hg, c0, c1⟩
theorem w_formN {w : World} {B : Nat} {v : Value} (h : NOwn w B v [0, 303]) : ∃ g o c, v = .slice (some ⟨g, o, none⟩) 2 c ∧ 2 ≤ c ∧ w.cell? ⟨g, o + 1, none⟩ = some (.int .i64 303) := by
  obtain ⟨A, c, e, h1, h2⟩ := h.form
  obtain ⟨g, o, rfl, hg, c1⟩ := h2.at_ (j := 1) (by decide)
  exact ⟨g, o, c, e, h1, c1⟩

def Yes5 (w : World) (e : Ending) (w' : World) : Prop := e = .returned (.bool true) ∧ Below w.heap.size w w'

set_option maxRecDepth 100000 in
set_option maxHeartbeats 1000000 in
theorem works_any (w : World) : Calls Try.prog 7 #[] w (Yes5 w) := by
  have hb0 := below_new w (.cells #[.int .i64 0, .int .i64 0, .int .i64 3, .int .i64 1, .int .i64 303, .int .i64 0] 42)
  have hR0 := w_cells w
  go_enter Try.func7, Try.ntmps7
  go_wp2_with fail
  have hz0 : w.heap.size + 1 = (w.alloc (.cells #[.int .i64 0, .int .i64 0, .int .i64 3, .int .i64 1, .int .i64 303, .int .i64 0] 42)).heap.size := by simp
  rw [hz0] at hR0
  generalize w.alloc (.cells #[.int .i64 0, .int .i64 0, .int .i64 3, .int .i64 1, .int .i64 303, .int .i64 0] 42) = W at *
  refine (w_write W _ 3 hR0).mono ?_
  rintro e w1 ⟨v1, rfl, ho1, hb1⟩
  obtain ⟨g1, o1, c1, rfl, hc1, hg1, d1, hL1⟩ := w_formB ho1
  have HB1 := Lib.hid hb1
  clear ho1
  go_wp2_with fail
  refine (w_read w1 _ c1 hL1).mono ?_
  rintro e w2 ⟨v2, rfl, ho2, hb2⟩
  obtain ⟨g2, o2, c2, rfl, hc2, hg2, d2, d3⟩ := w_formR ho2
  have HB2 := Lib.hid (HB1.out.trans (hb2.mono HB1.out.size))
  have e1 := (hb2.cell (p := ⟨g1, o1 + 1, none⟩) hg1).trans d1
  have hz12 := hb2.size
  clear d1 hL1 ho2 hb2 hb1
  go_wp2_with fail
  refine (w_at w2 _ 3 (by omega) ((hR0.below HB2.out).more HB2.out.size)).mono ?_
  rintro e w3 ⟨rfl, hb3⟩
  have HB3 := Lib.hid (HB2.out.trans (hb3.mono HB2.out.size))
  have e2 := (hb3.cell (p := ⟨g1, o1 + 1, none⟩) (show g1 < w2.heap.size by omega)).trans e1
  have f2 := (hb3.cell (p := ⟨g2, o2 + 4, none⟩) hg2).trans d2
  have f3 := (hb3.cell (p := ⟨g2, o2 + 5, none⟩) hg2).trans d3
  have hz23 := hb3.size
  clear e1 d2 d3 hb3
  go_wp2_with fail
  refine (w_pcs w3 _ 3 (by omega) ((hR0.below HB3.out).more HB3.out.size)).mono ?_
  rintro e w4 ⟨v4, rfl, ho4, hb4⟩
  obtain ⟨g4, o4, c4, rfl, hc4, n1⟩ := w_formN ho4
  have HB4 := Lib.hid (HB3.out.trans (hb4.mono HB3.out.size))
  have e3 := (hb4.cell (p := ⟨g1, o1 + 1, none⟩) (show g1 < w3.heap.size by omega)).trans e2
  have f4 := (hb4.cell (p := ⟨g2, o2 + 4, none⟩) (show g2 < w3.heap.size by omega)).trans f2
  have f5 := (hb4.cell (p := ⟨g2, o2 + 5, none⟩) (show g2 < w3.heap.size by omega)).trans f3
  obtain ⟨g5, o5, q5, hg5, l4, l5⟩ := (hR0.below HB4.out).at_ (j := 2) (by decide)
  cases q5
  have m4 : w4.cell? ⟨w.heap.size, 4, none⟩ = some (.int .i64 303) := l4
  have m5 : w4.cell? ⟨w.heap.size, 5, none⟩ = some (.int .i64 0) := l5
  have heq : ∀ w, (binOp .eql 42 (.agg #[.int .i64 303, .int .i64 0]) (.agg #[.int .i64 303, .int .i64 0])).run Try.prog w = .ok (.bool true) w := fun w => by
    have := row_eql ⟨303, 0⟩ ⟨303, 0⟩ w
    rwa [decide_eq_true rfl] at this
  clear e2 f2 f3 hb4 ho4 l4 l5 hR0
  go_wp2_with fail
  go_region
  go_wp2_with fail
  trace_state
  go_ret
  exact ⟨rfl, hb0.trans ((HB4.out.mono (by omega)).drew)⟩
end Go.Proofs.Ytfpgmaegpiiagaa
