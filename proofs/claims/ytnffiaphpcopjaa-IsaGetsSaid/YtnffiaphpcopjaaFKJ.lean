/-
  Merged for a claim: KJ.
-/
import Derived.Test.YtnffiaphpcopjaaFJ3
import Derived.Test.YtnffiaphpcopjaaFR0A
namespace Go.Proofs.Ytnffiaphpcopjaa
open Go.RowKit

theorem Lies.take {w : World} {B : Nat} {A : Option Addr} {l : List UInt8} (h : Lies w B A l) (k : Nat) : Lies w B A (l.take k) := fun hl => by
  have hl' : 0 < l.length := by simp at hl; omega
  obtain ⟨g, o, e, hg, hc⟩ := h hl'
  refine ⟨g, o, e, hg, fun j hj => ?_⟩
  have hj' : j < l.length := by simp at hj; omega
  rw [hc j hj']; simp
theorem drawn {w w2 : World} (h : Below w.drew.heap.size w.drew w2) : Below w.heap.size w w2 := ⟨h.os, h.tape, h.output, h.size, h.block⟩
theorem eqIs (A A2 : Option Addr) (c c2 B B2 : Nat) {P : List UInt8} {q q2 : Nat} (w : World) (hl : P.length = q) (hl2 : P.length = q2) (hq : q ≤ 1099511627776) (h : Lies w B A P) (h2 : Lies w B2 A2 P) :
    Calls Try.prog 13 #[.slice A q c, .slice A2 q2 c2] w fun e w' => e = .returned (.bool true) ∧ w = w' := by
  have := eqBytes_same A A2 c c2 P w B B2 (by omega) h h2
  subst hl; subst hl2; exact this
/-- an instruction's cells in a block -/
def Cell7 (W : World) (g : Nat) (y : Ins) : Prop := W.cell? ⟨g, 0, none⟩ = some (.int .u8 y.k) ∧ W.cell? ⟨g, 1, none⟩ = some (.int .u8 y.o) ∧ W.cell? ⟨g, 2, none⟩ = some (.int .i64 y.r) ∧ W.cell? ⟨g, 3, none⟩ = some (.int .i64 y.s) ∧ W.cell? ⟨g, 4, none⟩ = some (.int .i64 y.t) ∧ W.cell? ⟨g, 5, none⟩ = some (.int .i64 y.n) ∧ W.cell? ⟨g, 6, none⟩ = some (.int .i64 y.m)
theorem Cell7.below {w w' : World} {g B : Nat} {y : Ins} (h : Cell7 w g y) (hb : Below B w w') (h1 : g < B) : Cell7 w' g y := by
  have e1 : ∀ j, w'.cell? ⟨g, j, none⟩ = w.cell? ⟨g, j, none⟩ := fun j => hb.cell (p := ⟨g, j, none⟩) h1
  unfold Cell7 at *
  simp only [e1]
  exact h

end Go.Proofs.Ytnffiaphpcopjaa
