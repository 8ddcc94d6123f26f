/-
  Merged for a claim: C4G1.
-/
import Derived.Test.YtdnpoeegefkoiaaGreatFJ4
import Derived.StillTailTactics
import Derived.RegionTactic
import Derived.Deep.RegionHeld3
namespace Go.Proofs.YtdnpoeegefkoiaaGreat
open Go Go.RowKit

section
variable {w : World} {S : Nat → Prop} {g : Nat} {m : Mc} {p : Mp}
set_option maxRecDepth 100000 in
set_option maxHeartbeats 1000000 in
theorem done_nop (h : MIn w S g m p) (o r s t n mm next : Int) :
    Calls Tryz.prog 39 #[.pointer (some ⟨g, 0, none⟩), iv ⟨1, o, r, s, t, n, mm⟩, .int .i64 next] w (DoneT m S g ⟨1, o, r, s, t, n, mm⟩ next w) := by
  have H := Lib.hid h
  have hlt := h.lt g h.mem
  clear h
  unfold iv ic
  go_enter Tryz.func39, Tryz.ntmps39
  go_wp2_with fail
  go_ret
  exact doneT rfl rfl (H.out.below (below_box _ _)) (Keeps.of_below (below_box _ _)) H.out.lt
set_option maxRecDepth 100000 in
set_option maxHeartbeats 1000000 in
theorem done_jump (h : MIn w S g m p) (o r s t n mm next : Int) :
    Calls Tryz.prog 39 #[.pointer (some ⟨g, 0, none⟩), iv ⟨10, o, r, s, t, n, mm⟩, .int .i64 next] w (DoneT m S g ⟨10, o, r, s, t, n, mm⟩ next w) := by
  have H := Lib.hid h
  have hlt := h.lt g h.mem
  clear h
  unfold iv ic
  go_enter Tryz.func39, Tryz.ntmps39
  go_wp2_with fail
  go_ret
  exact doneT rfl rfl (H.out.below (below_box _ _)) (Keeps.of_below (below_box _ _)) H.out.lt
set_option maxRecDepth 100000 in
set_option maxHeartbeats 1000000 in
theorem done_trap (h : MIn w S g m p) (o r s t n mm next : Int) (hn : n = 2 ∨ n = 3 ∨ n = 4) :
    Calls Tryz.prog 39 #[.pointer (some ⟨g, 0, none⟩), iv ⟨18, o, r, s, t, n, mm⟩, .int .i64 next] w (DoneE (n) (0) w) := by
  have H := Lib.hid h
  have hlt := h.lt g h.mem
  rcases hn with rfl | rfl | rfl
  all_goals
    clear h
    unfold iv ic
    go_enter Tryz.func39, Tryz.ntmps39
    go_wp2
    exact ⟨rfl, rfl, below_box _ _⟩
set_option maxRecDepth 100000 in
set_option maxHeartbeats 1000000 in
theorem done_zero (h : MIn w S g m p) (o s t n mm next : Int) (r : Nat) (hr : r < 16) :
    Calls Tryz.prog 39 #[.pointer (some ⟨g, 0, none⟩), iv ⟨11, o, r, s, t, n, mm⟩, .int .i64 next] w (DoneT m S g ⟨11, o, r, s, t, n, mm⟩ next w) := by
  have H := Lib.hid h
  have hlt := h.lt g h.mem
  have r0 : (0 : Int) ≤ (r : Int) := by omega
  have r1 : (r : Int) < 16 := by omega
  have cr := h.reg hr
  have HG := Lib.hid (show goOf m ⟨11, o, r, s, t, n, mm⟩ next = if rg m r = 0 then n else next from rfl)
  by_cases hz : rg m r = 0
  · rw [if_pos hz] at HG
    have b0 := beq_of hz
    rw [hz] at cr
    clear hz b0
    clear h
    unfold iv ic
    go_enter Tryz.func39, Tryz.ntmps39
    go_wp2_with fail
    go_region
    go_wp2_with fail
    go_ret
    exact doneT HG.out.symm rfl (H.out.box _) ((Keeps.refl S w).box _) H.out.lt
  · rw [if_neg hz] at HG
    have b0 := nbeq_of hz
    clear hz
    clear h
    unfold iv ic
    go_enter Tryz.func39, Tryz.ntmps39
    go_wp2_with fail
    go_region
    go_wp2_with fail
    go_ret
    exact doneT HG.out.symm rfl (H.out.box _) ((Keeps.refl S w).box _) H.out.lt
set_option maxRecDepth 100000 in
set_option maxHeartbeats 1000000 in
theorem done_halt (h : MIn w S g m p) (o s t n mm next : Int) (r : Nat) (hr : r < 16) :
    Calls Tryz.prog 39 #[.pointer (some ⟨g, 0, none⟩), iv ⟨17, o, r, s, t, n, mm⟩, .int .i64 next] w (DoneE (1) (rg m r) w) := by
  have H := Lib.hid h
  have hlt := h.lt g h.mem
  have r0 : (0 : Int) ≤ (r : Int) := by omega
  have r1 : (r : Int) < 16 := by omega
  have cr := h.reg hr
  clear h
  unfold iv ic
  go_enter Tryz.func39, Tryz.ntmps39
  go_wp2_with fail
  refine wp_region_still_tail 7 (by kernel_rfl) (by kernel_rfl) ?_
  change wpStill _ _ (World.drew _) _ _ _
  simp only [List.take_succ_cons, List.take_zero, List.drop_succ_cons, List.drop_zero]
  repeat still_step
  refine wpStill_nil ?_
  change wpList _ _ _ _ _ (World.drew _)
  go_wp2_with fail
  exact ⟨rfl, rfl, (below_box _ _).drew⟩
end

end Go.Proofs.YtdnpoeegefkoiaaGreat
