/-
  Merged for a claim: C4I.
-/
import Derived.Test.YtnffiaphpcopjaaFC4H
import Derived.Defers
import Derived.Recover
import Derived.Laws.Pointers
namespace Go.Proofs.Ytnffiaphpcopjaa
open Go Go.RowKit

set_option maxRecDepth 100000 in
theorem catch_thrown (q : Nat) (g : Nat) (h n : Int) (a b : Value) (w : World) (hq : w.cell? ⟨q, 0, none⟩ = some (.pointer (some ⟨g, 0, none⟩))) (h1 : w.cell? ⟨g, 21, none⟩ = some a) (h2 : w.cell? ⟨g, 22, none⟩ = some b) (f1 : w.frozen? ⟨g, 21, none⟩ = false) (f2 : w.frozen? ⟨g, 22, none⟩ = false) :
    CallsD Try.prog 59 #[.pointer (some ⟨q, 0, none⟩)] (.panicking (endC h n)) w fun e u' w' =>
      e = .returned (.tuple #[]) ∧ u' = .panicking [{ v := .iface 79 (.agg #[.int .u8 h, .int .i64 n]), recovered := true }] ∧ w' = ((w.setCell ⟨g, 21, none⟩ (.int .u8 h)).setCell ⟨g, 22, none⟩ (.int .i64 n)).alloc (.cells #[.int .u8 h, .int .i64 n] 79) := by
  have hlt := World.block_lt_of_cell? w _ h1
  have hltq := World.block_lt_of_cell? w _ hq
  simp only at hlt hltq
  unfold endC
  have hta : ∀ w : World, (Instr.typeAssert (.iface 79 (.agg #[.int .u8 h, .int .i64 n])) 20 79 true).run Try.prog w = .ok (.tuple #[.agg #[.int .u8 h, .int .i64 n], .bool true]) w := fun w => by kernel_rfl
  refine callsD_of_wpS Try.func59 rfl fun c₀ cs hu => ?_
  apply wpS_seq
  apply wpS_region
  simp [wpOpsS, go_sem, recoverD, hu, Try.ntmps59, Exit.thenS, hta]
  apply wpS_seq
  apply wpS_region
  simp [wpOpsS, go_sem, Exit.thenS]
  refine wpS_cond (t := true) (by simp [Act.eval, Array.replicate]) ?_
  simp only [if_true]
  apply wpS_region
  have hq1 := (World.cell?_alloc_lt w (.cells #[.int .u8 h, .int .i64 n] 79) ⟨q, 0, none⟩ hltq).trans hq
  have h11 := (World.cell?_alloc_lt w (.cells #[.int .u8 h, .int .i64 n] 79) ⟨g, 21, none⟩ hlt).trans h1
  have h21 := (World.cell?_alloc_lt w (.cells #[.int .u8 h, .int .i64 n] 79) ⟨g, 22, none⟩ hlt).trans h2
  simp [wpOpsS, go_sem, hq, h1, h2, f1, f2, hq1, h11, h21, hlt, bodyPostS, results, Try.results59]

theorem catch_idle (q : Nat) (w : World) :
    CallsD Try.prog 59 #[.pointer (some ⟨q, 0, none⟩)] .returning w fun e u' w' => e = .returned (.tuple #[]) ∧ u' = .returning ∧ w' = w.alloc (.cells #[.int .u8 0, .int .i64 0] 79) := by
  have hta : ∀ w : World, (Instr.typeAssert .nilIface 20 79 true).run Try.prog w = .ok (.tuple #[.agg #[.int .u8 0, .int .i64 0], .bool false]) w := fun w => by kernel_rfl
  refine callsD_of_wpS Try.func59 rfl fun c₀ cs hu => ?_
  apply wpS_seq
  apply wpS_region
  simp [wpOpsS, go_sem, recoverD, hu, Try.ntmps59, Exit.thenS, hta]
  apply wpS_seq
  apply wpS_region
  simp [wpOpsS, go_sem, Exit.thenS]
  refine wpS_cond (t := false) (by simp [Act.eval, Array.replicate]) ?_
  simp only [Bool.false_eq_true, if_false]
  refine wpS_of_wp (wp_skip ?_)
  cases c₀
  simp_all [bodyPostS, results, Try.results59]

end Go.Proofs.Ytnffiaphpcopjaa
