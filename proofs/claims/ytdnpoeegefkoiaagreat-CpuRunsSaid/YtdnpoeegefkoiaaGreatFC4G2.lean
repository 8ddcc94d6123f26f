/-
  Merged for a claim: C4G2.
-/
import Derived.Test.YtdnpoeegefkoiaaGreatFJ4
import Derived.StillTailTactics
import Derived.RegionTactic
import Derived.Deep.RegionHeld3
namespace Go.Proofs.YtdnpoeegefkoiaaGreat
open Go Go.RowKit

section
variable {w : World} {S : Nat → Prop} {g : Nat} {m : Mc} {p : Mp}
set_option maxRecDepth 100000 in
set_option maxHeartbeats 1000000 in
theorem done_un (h : MIn w S g m p) (o t n mm next : Int) (r s : Nat) (hr : r < 16) (hs : s < 16) :
    Calls Tryz.prog 39 #[.pointer (some ⟨g, 0, none⟩), iv ⟨5, o, r, s, t, n, mm⟩, .int .i64 next] w (DoneT m S g ⟨5, o, r, s, t, n, mm⟩ next w) := by
  have H := Lib.hid h
  have hlt := h.lt g h.mem
  have r0 : (0 : Int) ≤ (r : Int) := by omega
  have r1 : (r : Int) < 16 := by omega
  have cr := h.reg hr
  have s0 : (0 : Int) ≤ (s : Int) := by omega
  have s1 : (s : Int) < 16 := by omega
  have cs := h.reg hs
  have fr := h.frozen (2 + r)
  have HC := Lib.hid (fun w => still_of (unary_any o (rg m s) w))
  clear h
  unfold iv ic
  go_enter Tryz.func39, Tryz.ntmps39
  go_wp2_with fail
  refine wp_region_still_tail 16 (by kernel_rfl) (by kernel_rfl) ?_
  change wpStill _ _ (World.drew _) _ _ _
  simp only [List.take_succ_cons, List.take_zero, List.drop_succ_cons, List.drop_zero]
  repeat still_step
  still_call (HC.out _)
  repeat still_step
  refine wpStill_nil ?_
  change wpList _ _ _ _ _ (World.drew _)
  go_wp2_with fail
  go_ret
  exact doneT rfl rfl ((H.out.setReg hr (unV o (rg m s))).box _) ((Keeps.set g _ _ H.out.mem _).box _) H.out.lt
set_option maxRecDepth 100000 in
set_option maxHeartbeats 1000000 in
theorem done_load (h : MIn w S g m p) (o t n mm next : Int) (r s : Nat) (hr : r < 16) (hs : s < 16) (ha0 : 0 ≤ wrap64 (rg m s + n)) (ha1 : wrap64 (rg m s + n) < m.words.length) :
    Calls Tryz.prog 39 #[.pointer (some ⟨g, 0, none⟩), iv ⟨6, o, r, s, t, n, mm⟩, .int .i64 next] w (DoneT m S g ⟨6, o, r, s, t, n, mm⟩ next w) := by
  have H := Lib.hid h
  have hlt := h.lt g h.mem
  have r0 : (0 : Int) ≤ (r : Int) := by omega
  have r1 : (r : Int) < 16 := by omega
  have cr := h.reg hr
  have s0 : (0 : Int) ≤ (s : Int) := by omega
  have s1 : (s : Int) < 16 := by omega
  have cs := h.reg hs
  have fr := h.frozen (2 + r)
  have hltw := h.lt p.gw h.gwS
  have hne := h.gwg
  have hne2 := h.gwg.symm
  have cw := h.cells.2.2.2.1
  have HF := Lib.hid (show turnOf m ⟨6, o, r, s, t, n, mm⟩ next = setR m r (wd m (wrap64 (rg m s + n))) from rfl)
  obtain ⟨a1, ha⟩ : ∃ a1, a1 = wrap64 (rg m s + n) := ⟨_, rfl⟩
  have e1 : IntKind.i64.wrap (rg m s + n) = a1 := by rw [ha]; exact IntWalk.i64_left _
  have e2 : wrap64 (rg m s + n) = a1 := ha.symm
  rw [e2] at ha0 ha1 HF
  have HC := Lib.hid (fun w hc => still_of (word_yes g p.gw m.words.length a1 w hc ha0 ha1))
  have ca : w.cell? ⟨p.gw, a1.toNat, none⟩ = some (.int .i64 (wd m a1)) := by have := h.word (a := a1.toNat) (by omega); rwa [wd_nat] at this
  have HCW := Lib.hid (show (w.alloc (.cells #[.int .u8 6, .int .u8 o, .int .i64 r, .int .i64 s, .int .i64 t, .int .i64 n, .int .i64 mm] 53)).drew.cell? ⟨g, 18, none⟩ = _ from (below_box w _).cell (p := ⟨g, 18, none⟩) hlt |>.trans cw)
  clear ha ha0 ha1 cw
  clear h
  unfold iv ic
  go_enter Tryz.func39, Tryz.ntmps39
  go_wp2_with fail
  refine wp_region_still_tail 20 (by kernel_rfl) (by kernel_rfl) ?_
  change wpStill _ _ (World.drew _) _ _ _
  simp only [List.take_succ_cons, List.take_zero, List.drop_succ_cons, List.drop_zero]
  repeat still_step
  still_call (HC.out _ HCW.out)
  repeat still_step
  refine wpStill_nil ?_
  change wpList _ _ _ _ _ (World.drew _)
  go_wp2_with fail
  go_ret
  exact doneT rfl HF.out.symm ((H.out.setReg hr (wd m a1)).box _) ((Keeps.set g _ _ H.out.mem _).box _) H.out.lt
set_option maxRecDepth 100000 in
set_option maxHeartbeats 1000000 in
theorem done_store (h : MIn w S g m p) (o t n mm next : Int) (r s : Nat) (hr : r < 16) (hs : s < 16) (ha0 : 0 ≤ wrap64 (rg m s + n)) (ha1 : wrap64 (rg m s + n) < m.words.length) :
    Calls Tryz.prog 39 #[.pointer (some ⟨g, 0, none⟩), iv ⟨7, o, r, s, t, n, mm⟩, .int .i64 next] w (DoneT m S g ⟨7, o, r, s, t, n, mm⟩ next w) := by
  have H := Lib.hid h
  have hlt := h.lt g h.mem
  have r0 : (0 : Int) ≤ (r : Int) := by omega
  have r1 : (r : Int) < 16 := by omega
  have cr := h.reg hr
  have s0 : (0 : Int) ≤ (s : Int) := by omega
  have s1 : (s : Int) < 16 := by omega
  have cs := h.reg hs
  have hltw := h.lt p.gw h.gwS
  have hne := h.gwg
  have hne2 := h.gwg.symm
  have cw := h.cells.2.2.2.1
  have HF := Lib.hid (show turnOf m ⟨7, o, r, s, t, n, mm⟩ next = setW m (wrap64 (rg m s + n)) (rg m r) from rfl)
  obtain ⟨a1, ha⟩ : ∃ a1, a1 = wrap64 (rg m s + n) := ⟨_, rfl⟩
  have e1 : IntKind.i64.wrap (rg m s + n) = a1 := by rw [ha]; exact IntWalk.i64_left _
  have e2 : wrap64 (rg m s + n) = a1 := ha.symm
  rw [e2] at ha0 ha1 HF
  have HC := Lib.hid (fun w hc => still_of (word_yes g p.gw m.words.length a1 w hc ha0 ha1))
  have ca : w.cell? ⟨p.gw, a1.toNat, none⟩ = some (.int .i64 (wd m a1)) := by have := h.word (a := a1.toNat) (by omega); rwa [wd_nat] at this
  have fa := h.words.frozen a1.toNat
  have HCW := Lib.hid (show (w.alloc (.cells #[.int .u8 7, .int .u8 o, .int .i64 r, .int .i64 s, .int .i64 t, .int .i64 n, .int .i64 mm] 53)).drew.cell? ⟨g, 18, none⟩ = _ from (below_box w _).cell (p := ⟨g, 18, none⟩) hlt |>.trans cw)
  have HS := Lib.hid (show MIn (w.setCell ⟨p.gw, a1.toNat, none⟩ (.int .i64 (rg m r))) S g (setW m a1 (rg m r)) p by have := h.setWord a1.toNat (rg m r); rwa [setW_nat] at this)
  clear ha ha0 ha1 cw
  clear h
  unfold iv ic
  go_enter Tryz.func39, Tryz.ntmps39
  go_wp2_with fail
  refine wp_region_still_tail 20 (by kernel_rfl) (by kernel_rfl) ?_
  change wpStill _ _ (World.drew _) _ _ _
  simp only [List.take_succ_cons, List.take_zero, List.drop_succ_cons, List.drop_zero]
  repeat still_step
  still_call (HC.out _ HCW.out)
  repeat still_step
  refine wpStill_nil ?_
  change wpList _ _ _ _ _ (World.drew _)
  go_wp2_with fail
  go_ret
  exact doneT rfl HF.out.symm (HS.out.box _) ((Keeps.set p.gw _ _ H.out.gwS _).box _) H.out.lt
end

end Go.Proofs.YtdnpoeegefkoiaaGreat
