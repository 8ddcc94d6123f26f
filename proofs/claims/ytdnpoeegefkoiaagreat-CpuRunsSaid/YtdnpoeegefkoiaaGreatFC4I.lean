/-
  Merged for a claim: C4I.
-/
import Derived.Test.YtdnpoeegefkoiaaGreatFC4H
import Derived.Defers
import Derived.Recover
import Derived.Laws.Pointers
namespace Go.Proofs.YtdnpoeegefkoiaaGreat
open Go Go.RowKit

set_option maxRecDepth 100000 in
theorem catch_thrown (q : Nat) (g : Nat) (h n : Int) (a b : Value) (w : World) (hq : w.cell? ⟨q, 0, none⟩ = some (.pointer (some ⟨g, 0, none⟩))) (h1 : w.cell? ⟨g, 21, none⟩ = some a) (h2 : w.cell? ⟨g, 22, none⟩ = some b) (f1 : w.frozen? ⟨g, 21, none⟩ = false) (f2 : w.frozen? ⟨g, 22, none⟩ = false) :
    CallsD Tryz.prog 37 #[.pointer (some ⟨q, 0, none⟩)] (.panicking (endC h n)) w fun e u' w' =>
      e = .returned (.tuple #[]) ∧ u' = .panicking [{ v := .iface 57 (.agg #[.int .u8 h, .int .i64 n]), recovered := true }] ∧ w' = ((w.setCell ⟨g, 21, none⟩ (.int .u8 h)).setCell ⟨g, 22, none⟩ (.int .i64 n)).alloc (.cells #[.int .u8 h, .int .i64 n] 57) := by
  have hlt := World.block_lt_of_cell? w _ h1
  have hltq := World.block_lt_of_cell? w _ hq
  simp only at hlt hltq
  unfold endC
  have hta : ∀ w : World, (Instr.typeAssert (.iface 57 (.agg #[.int .u8 h, .int .i64 n])) 20 57 true).run Tryz.prog w = .ok (.tuple #[.agg #[.int .u8 h, .int .i64 n], .bool true]) w := fun w => by kernel_rfl
  refine callsD_of_wpS Tryz.func37 rfl fun c₀ cs hu => ?_
  apply wpS_seq
  apply wpS_region
  simp [wpOpsS, go_sem, recoverD, hu, Tryz.ntmps37, Exit.thenS, hta]
  apply wpS_seq
  apply wpS_region
  simp [wpOpsS, go_sem, Exit.thenS]
  refine wpS_cond (t := true) (by simp [Act.eval, Array.replicate]) ?_
  simp only [if_true]
  apply wpS_region
  have hq1 := (World.cell?_alloc_lt w (.cells #[.int .u8 h, .int .i64 n] 57) ⟨q, 0, none⟩ hltq).trans hq
  have h11 := (World.cell?_alloc_lt w (.cells #[.int .u8 h, .int .i64 n] 57) ⟨g, 21, none⟩ hlt).trans h1
  have h21 := (World.cell?_alloc_lt w (.cells #[.int .u8 h, .int .i64 n] 57) ⟨g, 22, none⟩ hlt).trans h2
  simp [wpOpsS, go_sem, h2, f1, f2, hq1, h11, hlt, bodyPostS, results, Tryz.results37]

theorem catch_idle (q : Nat) (w : World) :
    CallsD Tryz.prog 37 #[.pointer (some ⟨q, 0, none⟩)] .returning w fun e u' w' => e = .returned (.tuple #[]) ∧ u' = .returning ∧ w' = w.alloc (.cells #[.int .u8 0, .int .i64 0] 57) := by
  have hta : ∀ w : World, (Instr.typeAssert .nilIface 20 57 true).run Tryz.prog w = .ok (.tuple #[.agg #[.int .u8 0, .int .i64 0], .bool false]) w := fun w => by kernel_rfl
  refine callsD_of_wpS Tryz.func37 rfl fun c₀ cs hu => ?_
  apply wpS_seq
  apply wpS_region
  simp [wpOpsS, go_sem, recoverD, hu, Tryz.ntmps37, Exit.thenS, hta]
  apply wpS_seq
  apply wpS_region
  simp [wpOpsS, go_sem, Exit.thenS]
  refine wpS_cond (t := false) (by simp [Act.eval, Array.replicate]) ?_
  simp only [Bool.false_eq_true, if_false]
  refine wpS_of_wp (wp_skip ?_)
  cases c₀
  simp_all [bodyPostS, results, Tryz.results37]

end Go.Proofs.YtdnpoeegefkoiaaGreat
