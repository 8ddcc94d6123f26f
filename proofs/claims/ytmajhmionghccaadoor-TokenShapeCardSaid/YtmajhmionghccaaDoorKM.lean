/-
  A word for memory: bytes that lie at an address below a block's number; and how it is kept.
-/
import Derived.Below
import Derived.Laws.OwnMore
import Derived.Deep.AppendLies
import Derived.Deep.Draws
import Derived.Maps.AppendAt
namespace Go.Proofs.YtmajhmionghccaaDoor
open Go.RowKit

def Lies (w : World) (B : Nat) (A : Option Addr) (l : List UInt8) : Prop :=
  0 < l.length → ∃ g o, A = some ⟨g, o, none⟩ ∧ g < B ∧ ∀ j (h : j < l.length), w.cell? ⟨g, o + j, none⟩ = some (.int .u8 (l[j].toNat : Int))

theorem below_draws {B : Nat} {w : World} (n : Nat) : Below B w (w.drewN n) := ⟨rfl, rfl, rfl, Nat.le_refl _, fun _ _ => rfl⟩

section
variable {w w' : World} {B B' : Nat} {A : Option Addr} {l : List UInt8}
theorem Lies.empty (w : World) (B : Nat) (A : Option Addr) : Lies w B A [] := fun h => absurd h (by simp)
theorem Lies.keep (h : Lies w B A l) (hk : ∀ p : Addr, p.block < B → w'.cell? p = w.cell? p) : Lies w' B A l := fun hl => by
  obtain ⟨g, o, e, hg, hc⟩ := h hl
  exact ⟨g, o, e, hg, fun j hj => (hk _ hg).trans (hc j hj)⟩
theorem Lies.more (h : Lies w B A l) (hB : B ≤ B') : Lies w B' A l := fun hl => by
  obtain ⟨g, o, e, hg, hc⟩ := h hl
  exact ⟨g, o, e, by omega, hc⟩
theorem Lies.below (h : Lies w B A l) (hb : Below B w w') : Lies w' B A l := h.keep fun _ hp => hb.cell hp
theorem Lies.drewN (h : Lies w B A l) (k : Nat) : Lies (w.drewN k) B A l := h
theorem Lies.alloc (h : Lies w B A l) (hB : B ≤ w.heap.size) (o : Obj) : Lies (w.alloc o) B A l := h.keep fun p hp => World.cell?_alloc_lt w o p (by omega)
theorem Lies.setCell (h : Lies w B A l) {p : Addr} (hB : B ≤ p.block) (u : Value) : Lies (w.setCell p u) B A l :=
  h.keep fun q hq => World.cell?_setCell_other w p q u (fun e => by subst e; omega)
theorem Lies.grown (h : Lies w B A l) {row : Option Nat} (hg : w.grownBy w' row) (hB : B ≤ w.heap.size) (hr : ∀ g, row = some g → B ≤ g) : Lies w' B A l :=
  h.keep fun p hp => World.cell?_of_block (hg.block p.block (by omega) (fun e => by have := hr _ e.symm; omega))
theorem Lies.at_ (h : Lies w B A l) {j : Nat} (hj : j < l.length) : ∃ g o, A = some ⟨g, o, none⟩ ∧ g < B ∧ w.cell? ⟨g, o + j, none⟩ = some (.int .u8 (l[j].toNat : Int)) := by
  obtain ⟨g, o, e, hg, hc⟩ := h (by omega)
  exact ⟨g, o, e, hg, hc j hj⟩
end

end Go.Proofs.YtmajhmionghccaaDoor
