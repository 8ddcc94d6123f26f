/-
  Contracts of the document's SameOne and Same (of like ones).
-/
import Derived.Test.YtpbopehhalicjaaU8H
import Derived.Laws.StructEq
import Derived.BigRegion
namespace Go.Proofs.Ytpbopehhalicjaa
open Go Go.RowKit

theorem loc_equal (a b : Lc) (w : World) : (Op.equal 31 (.agg (cK a)) (.agg (cK b))).run Try.prog w = .ok (decide (a = b)) w := by
  show (Op.equalIn (9998 + 1 + 1) 31 (.agg (cK a)) (.agg (cK b))).run Try.prog w = _
  rw [run_equalIn_struct _ _ _ _ _ (by simp [Program.fieldsOf, Try.underlying31]) (by kernel_rfl)]
  simp [Program.fieldsOf, Try.underlying31, Op.eqFields, part, cK, go_sem]
  obtain ⟨k, o⟩ := a
  obtain ⟨k', o'⟩ := b
  simp only [Lc.mk.injEq]
  repeat' split
  all_goals simp [*]
theorem loc_neq (a b : Lc) (w : World) : (binOp .neq 31 (.agg (cK a)) (.agg (cK b))).run Try.prog w = .ok (.bool (!decide (a = b))) w := by
  simp [binOp, go_sem, loc_equal]
def TrueR (w : World) (e : Ending) (w' : World) : Prop := e = .returned (.bool true) ∧ Below w.heap.size w w'

set_option maxRecDepth 100000 in
set_option maxHeartbeats 2000000 in
theorem sameOne_any (f t u : Int) (l : List Lc) (A A2 : Option Addr) (c c2 : Nat) (w : World) (hl : l.length ≤ 1099511627776) (h : LLies w w.heap.size A l) (h2 : LLies w w.heap.size A2 l) :
    Calls Try.prog 21 #[.agg #[.int .i64 f, .int .i64 t, .int .i64 u, .slice A l.length c], .agg #[.int .i64 f, .int .i64 t, .int .i64 u, .slice A2 l.length c2]] w (TrueR w) := by
  have hb1 := below_lnew w (.cells (pK ⟨f, t, u, l, A, c⟩) 29)
  have hb2 := below_lnew (w.alloc (.cells (pK ⟨f, t, u, l, A, c⟩) 29)) (.cells (pK ⟨f, t, u, l, A2, c2⟩) 29)
  have hX1 := (spAt_new w ⟨f, t, u, l, A, c⟩).below hb2 (by simp)
  have hX2 := spAt_new (w.alloc (.cells (pK ⟨f, t, u, l, A, c⟩) 29)) ⟨f, t, u, l, A2, c2⟩
  simp only [World.size_alloc] at hX2
  have HB := Lib.hid (hb1.trans (hb2.mono hb1.size))
  have a0 := hX1.fr
  have a1 := hX1.to
  have a2 := hX1.up
  have a3 := hX1.at_
  have b0 := hX2.fr
  have b1 := hX2.to
  have b2 := hX2.up
  have b3 := hX2.at_
  have hz1 : w.heap.size < ((w.alloc (.cells (pK ⟨f, t, u, l, A, c⟩) 29)).alloc (.cells (pK ⟨f, t, u, l, A2, c2⟩) 29)).heap.size := by simp; omega
  have hz2 : w.heap.size + 1 < ((w.alloc (.cells (pK ⟨f, t, u, l, A, c⟩) 29)).alloc (.cells (pK ⟨f, t, u, l, A2, c2⟩) 29)).heap.size := by simp
  have HL := Lib.hid (h.below HB.out)
  have HL2 := Lib.hid (h2.below HB.out)
  unfold pK at a0 a1 a2 a3 b0 b1 b2 b3 HB hz1 hz2 HL HL2
  dsimp only at a0 a1 a2 a3 b0 b1 b2 b3 HB hz1 hz2 HL HL2
  clear h h2 hb1 hb2 hX1 hX2
  go_enter Try.func21, Try.ntmps21
  go_wp2_with fail
  generalize ((w.alloc (.cells #[.int .i64 f, .int .i64 t, .int .i64 u, .slice A l.length c] 29)).alloc (.cells #[.int .i64 f, .int .i64 t, .int .i64 u, .slice A2 l.length c2] 29)) = W at *
  go_loopw [5] (fun i wr => ∃ k : Nat, k ≤ l.length ∧ i = .int .i64 k ∧ Hid (Below W.heap.size W wr)) (fun i _ => l.length - (intOf i).toNat)
  case atStart => exact ⟨0, by omega, rfl, Below.refl _ _⟩
  case round =>
    obtain ⟨k, hk, rfl, hB⟩ := hrel
    have d3 := (hB.out.cell (p := ⟨w.heap.size, 3, none⟩) hz1).trans a3
    have e3 := (hB.out.cell (p := ⟨w.heap.size + 1, 3, none⟩) hz2).trans b3
    by_cases hlt : k < l.length
    · obtain ⟨g, o, rfl, hg, c1, c2'⟩ := (HL.out.below (hB.out.mono (by omega))).at_ hlt
      obtain ⟨g', o', rfl, hg', c3, c4⟩ := (HL2.out.below (hB.out.mono (by omega))).at_ hlt
      have hki : (k : Int) < l.length := by omega
      generalize l[k] = r at *
      have hneq := fun w => loc_neq r r w
      rw [decide_eq_true rfl] at hneq
      unfold cK at hneq
      clear a0 a1 a2 a3 b0 b1 b2 b3
      go_wp2
      go_region
      go_wp2
      go_roundw
      case rel => exact ⟨k + 1, by omega, by go_num, hB.out.drew⟩
      case measure => simp [intOf]; omega
    · obtain rfl : k = l.length := by omega
      go_wp2
      go_ret
      exact ⟨rfl, HB.out.trans (hB.out.mono (by omega))⟩
theorem sameOne_n (f t u f2 t2 u2 : Int) (l l2 : List Lc) (A A2 : Option Addr) (n n2 c c2 : Nat) (w : World) (e0 : f = f2) (e1 : t = t2) (e2 : u = u2) (e3 : l = l2) (hn : l.length = n) (hn2 : l2.length = n2) (hl : l.length ≤ 1099511627776) (h : LLies w w.heap.size A l) (h2 : LLies w w.heap.size A2 l2) :
    Calls Try.prog 21 #[.agg #[.int .i64 f, .int .i64 t, .int .i64 u, .slice A n c], .agg #[.int .i64 f2, .int .i64 t2, .int .i64 u2, .slice A2 n2 c2]] w (TrueR w) := by
  subst e0; subst e1; subst e2; subst e3; subst hn; subst hn2
  exact sameOne_any f t u l A A2 c c2 w hl h h2
end Go.Proofs.Ytpbopehhalicjaa
