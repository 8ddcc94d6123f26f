/-
  Contracts of the law's own mine and still: bytes in memory of their own, with room behind them; do they stand as they were.
-/
import Derived.Test.YtjgjikeanmdhkaaL
namespace Go.Proofs.Ytjgjikeanmdhkaa
open Go.RowKit

def z8 : Value := .int .u8 0
/-- block g holds l, and 40 zeros behind it -/
def Roomy (w : World) (g : Nat) (l : List UInt8) : Prop := w.heap[g]? = some (.cells (l.map b8 ++ List.replicate 40 z8).toArray 5 (0, 0))
/-- the same on the way: the first k of l -/
def Part (w : World) (g k : Nat) (l : List UInt8) : Prop := w.heap[g]? = some (.cells ((l.take k).map b8 ++ List.replicate (l.length - k + 40) z8).toArray 5 (0, 0))

theorem Part.start {w : World} {g : Nat} {l : List UInt8} (h : w.heap[g]? = some (.cells (List.replicate (l.length + 40) z8).toArray 5 (0, 0))) : Part w g 0 l := by simpa [Part] using h
theorem Part.last {w : World} {g : Nat} {l : List UInt8} (h : Part w g l.length l) : Roomy w g l := by simpa [Part, Roomy] using h
theorem Part.cell {w : World} {g k : Nat} {l : List UInt8} (h : Part w g k l) (hk : k < l.length) : w.cell? ⟨g, k, none⟩ = some (.int .u8 0) := by
  unfold Part at h
  simp only [World.cell?, h]
  have e : ((l.take k).map b8).length = k := by simp; omega
  simp only [Option.isSome_none, Bool.false_eq_true, if_false, List.getElem?_toArray]
  rw [List.getElem?_append_right (by omega), e]
  simp [z8]
theorem Part.frozen {w : World} {g k j : Nat} {l : List UInt8} (h : Part w g k l) : w.frozen? ⟨g, j, none⟩ = false := by
  unfold Part at h
  simp [World.frozen?, h]
theorem Part.step {w : World} {g k : Nat} {l : List UInt8} (h : Part w g k l) (hk : k < l.length) : Part (w.setCell ⟨g, k, none⟩ (.int .u8 (l[k].toNat : Int))) g (k + 1) l := by
  unfold Part at h ⊢
  have e : ((l.take k).map b8).length = k := by simp; omega
  simp only [World.setCell, Array.getElem?_modify, h]
  simp only [if_true, Option.map_some, List.setIfInBounds_toArray]
  congr 2
  rw [List.set_append_right _ _ (by omega), e, Nat.sub_self, show l.length - k + 40 = (l.length - (k + 1) + 40) + 1 by omega, List.replicate_succ, List.set_cons_zero]
  rw [List.take_succ_eq_append_getElem hk]
  simp only [List.map_append, List.map_cons, List.map_nil, List.append_assoc, List.cons_append, List.nil_append]
  rfl
theorem Roomy.lies {w : World} {g B : Nat} {l : List UInt8} (h : Roomy w g l) (hB : g < B) : Lies w B (some ⟨g, 0, none⟩) l := fun _ =>
  ⟨g, 0, rfl, hB, fun j hj => by
    unfold Roomy at h
    simp only [World.cell?, h]
    simp [hj, b8, List.getElem?_append_left]⟩
theorem Roomy.lt {w : World} {g : Nat} {l : List UInt8} (h : Roomy w g l) : g < w.heap.size := by
  rcases Nat.lt_or_ge g w.heap.size with hlt | hge
  · exact hlt
  · unfold Roomy at h; rw [Array.getElem?_eq_none hge] at h; cases h
theorem Roomy.below {w w' : World} {g B : Nat} {l : List UInt8} (h : Roomy w g l) (hb : Below B w w') (hg : g < B) : Roomy w' g l := (hb.block g hg).trans h

theorem make_room {ops : Array Oper} {rest : List Oper} {o : Oper} {a : Act} {Q : Exit → Act → World → Prop} (w : World) (hgd : o.guard = none) (x y : Operand) (ho : o.op = Op.makeSlice 28 x y) (n c : Nat) (C : Int)
    (hx : a.eval x = .int .i64 (n : Int)) (hy : a.eval y = .int .i64 C) (hC : C = (c : Int)) (hnc : n ≤ c) (hc : c ≤ 200000)
    (hK : ∀ w', w'.heap[w.heap.size]? = some (.cells (List.replicate c z8).toArray 5 (0, 0)) → Below w.heap.size w w' → w.heap.size < w'.heap.size → wpList Try.prog ops Q rest (a.put o.dst (.slice (some ⟨w.heap.size, 0, none⟩) n c)) w') :
    wpList Try.prog ops Q (o :: rest) a w := by
  obtain ⟨i0, hi0, hz0, hz1, hz2⟩ := info_parts u8_info
  subst hC
  refine wpList_plain hgd fun K hK' => ?_
  have hrun := run_make (P := Try.prog) w 28 5 i0 _ Try.underlying28 hi0 hz0 .i64 .i64 n c (by omega) (by omega) (by rw [hz2]; omega) (by omega)
  simp only [Int.toNat_natCast] at hrun
  unfold Oper.wp
  simp [execOp, ho, hx, hy, hrun, Result.andThen]
  refine hK' _ _ (hK _ ?_ ((Below.refl _ _).alloc (Nat.le_refl _) _) (by simp))
  rw [heap_alloc_new, hz1, Nat.mul_one]
  congr 2
  apply Array.ext'
  show (madeCells #[.int .u8 0] c).toList = _
  rw [toList_madeCells_one]
  rfl

end Go.Proofs.Ytjgjikeanmdhkaa
