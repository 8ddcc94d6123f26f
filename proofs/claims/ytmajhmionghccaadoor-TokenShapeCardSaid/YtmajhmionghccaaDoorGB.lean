/-
  What lies in one block, cell by cell.
-/
import Derived.Test.YtmajhmionghccaaDoorGA
namespace Go.Proofs.YtmajhmionghccaaDoor
open Go Go.RowKit

def CAt (w : World) (g : Nat) (e : TypeId) (cs : List Value) : Prop := w.heap[g]? = some (.cells cs.toArray e (0, 0))
theorem CAt.lt {w : World} {g : Nat} {e : TypeId} {cs : List Value} (h : CAt w g e cs) : g < w.heap.size := (Array.getElem?_eq_some_iff.1 h).1
theorem CAt.below {B : Nat} {w w' : World} {g : Nat} {e : TypeId} {cs : List Value} (h : CAt w g e cs) (hb : Below B w w') (hg : g < B) : CAt w' g e cs := (hb.block g hg).trans h
theorem CAt.cell {w : World} {g : Nat} {e : TypeId} {cs : List Value} (h : CAt w g e cs) {j : Nat} (hj : j < cs.length) : w.cell? ⟨g, j, none⟩ = some cs[j] := by
  unfold CAt at h
  simp [World.cell?, h, hj]
theorem CAt.frozen {w : World} {g : Nat} {e : TypeId} {cs : List Value} (h : CAt w g e cs) (j : Nat) : w.frozen? ⟨g, j, none⟩ = false := by
  unfold CAt at h
  simp [World.frozen?, h]
theorem CAt.set {w : World} {g : Nat} {e : TypeId} {cs : List Value} (h : CAt w g e cs) (j : Nat) (u : Value) : CAt (w.setCell ⟨g, j, none⟩ u) g e (cs.set j u) := by
  unfold CAt at h ⊢
  simp only [World.setCell, Array.getElem?_modify, h]
  simp
theorem CAt.other {w : World} {g : Nat} {e : TypeId} {cs : List Value} (h : CAt w g e cs) {p : Addr} (hp : g ≠ p.block) (u : Value) : CAt (w.setCell p u) g e cs := (Below.heap_setCell w p u g hp).trans h
end Go.Proofs.YtmajhmionghccaaDoor
