/-
  Merged for a claim: C4G4.
-/
import Derived.Test.YtdnpoeegefkoiaaGreatFJ4
import Derived.StillTailTactics
import Derived.RegionTactic
import Derived.Deep.RegionHeld3
namespace Go.Proofs.YtdnpoeegefkoiaaGreat
open Go Go.RowKit

section
variable {w : World} {S : Nat → Prop} {g : Nat} {m : Mc} {p : Mp}
set_option maxRecDepth 100000 in
set_option maxHeartbeats 1000000 in
theorem done_load_no (h : MIn w S g m p) (o t n mm next : Int) (r s : Nat) (hr : r < 16) (hs : s < 16) (hin : ¬ (0 ≤ wrap64 (rg m s + n) ∧ wrap64 (rg m s + n) < m.words.length)) :
    Calls Tryz.prog 39 #[.pointer (some ⟨g, 0, none⟩), iv ⟨6, o, r, s, t, n, mm⟩, .int .i64 next] w (DoneE (6) (0) w) := by
  have H := Lib.hid h
  have hlt := h.lt g h.mem
  have r0 : (0 : Int) ≤ (r : Int) := by omega
  have r1 : (r : Int) < 16 := by omega
  have cr := h.reg hr
  have s0 : (0 : Int) ≤ (s : Int) := by omega
  have s1 : (s : Int) < 16 := by omega
  have cs := h.reg hs
  obtain ⟨a1, ha⟩ : ∃ a1, a1 = wrap64 (rg m s + n) := ⟨_, rfl⟩
  have e1 : IntKind.i64.wrap (rg m s + n) = a1 := by rw [ha]; exact IntWalk.i64_left _
  have e2 : wrap64 (rg m s + n) = a1 := ha.symm
  rw [e2] at hin
  have HB := Lib.hid (below_box w (.cells #[.int .u8 6, .int .u8 o, .int .i64 r, .int .i64 s, .int .i64 t, .int .i64 n, .int .i64 mm] 53)).drew
  have HP := Lib.hid (fun (W : World) (hb : Below w.heap.size w W) => word_no g p.gw m.words.length a1 W (h.below hb).cells.2.2.2.1 hin)
  clear hin ha
  clear h
  unfold iv ic
  go_enter Tryz.func39, Tryz.ntmps39
  go_wp2_with fail
  refine wp_region_held_drew (S := fun W => W.cell? ⟨w.heap.size, 2, none⟩ = some (.int .i64 r) ∧ W.cell? ⟨w.heap.size, 3, none⟩ = some (.int .i64 s) ∧ W.cell? ⟨w.heap.size, 5, none⟩ = some (.int .i64 n) ∧ W.cell? ⟨g, 2 + s, none⟩ = some (.int .i64 (rg m s))) (by kernel_rfl) (by (try dsimp only); go_keep) (fun hHeld => ?_)
  refine wpAnyH_take (i := 0) (v := ?_) rfl (by kernel_rfl) (by kernel_rfl) (by kernel_rfl) (fun _ _ _ h => h) (Or.inl ⟨by rfl, ?hyq0⟩) (by assumption) ?restq0
  case hyq0 => (intro W hSw; (try dsimp only at hSw); go_simp; try (with_reducible rfl))
  (try simp only [Act.put, List.setIfInBounds_toArray])
  refine wpAnyH_take (i := 1) (v := ?_) rfl (by kernel_rfl) (by kernel_rfl) (by kernel_rfl) (fun _ _ _ h => h) (Or.inl ⟨by rfl, ?hyq1⟩) (by assumption) ?restq1
  case hyq1 => (intro W hSw; (try dsimp only at hSw); go_simp; try (with_reducible rfl))
  (try simp only [Act.put])
  refine wpAnyH_take (i := 2) (v := ?_) rfl (by kernel_rfl) (by kernel_rfl) (by kernel_rfl) (fun _ _ _ h => h) (Or.inl ⟨by rfl, ?hyq2⟩) (by assumption) ?restq2
  case hyq2 => (intro W hSw; (try dsimp only at hSw); go_simp; try (with_reducible rfl))
  (try simp only [Act.put])
  refine wpAnyH_take (i := 3) (v := ?_) rfl (by kernel_rfl) (by kernel_rfl) (by kernel_rfl) (fun _ _ _ h => h) (Or.inl ⟨by rfl, ?hyq3⟩) (by assumption) ?restq3
  case hyq3 => (intro W hSw; (try dsimp only at hSw); go_simp; try (with_reducible rfl))
  (try simp only [Act.put])
  refine wpAnyH_take (i := 4) (v := ?_) rfl (by kernel_rfl) (by kernel_rfl) (by kernel_rfl) (fun _ _ _ h => h) (Or.inl ⟨by rfl, ?hyq4⟩) (by assumption) ?restq4
  case hyq4 => (intro W hSw; (try dsimp only at hSw); go_simp; try (with_reducible rfl))
  (try simp only [Act.put])
  refine wpAnyH_take (i := 5) (v := ?_) rfl (by kernel_rfl) (by kernel_rfl) (by kernel_rfl) (fun _ _ _ h => h) (Or.inl ⟨by rfl, ?hyq5⟩) (by assumption) ?restq5
  case hyq5 => (intro W hSw; (try dsimp only at hSw); go_simp; try (with_reducible rfl))
  (try simp only [Act.put])
  refine wpAnyH_take (i := 6) (v := ?_) rfl (by kernel_rfl) (by kernel_rfl) (by kernel_rfl) (fun _ _ _ h => h) (Or.inl ⟨by rfl, ?hyq6⟩) (by assumption) ?restq6
  case hyq6 => (intro W hSw; (try dsimp only at hSw); go_simp; try (with_reducible rfl))
  (try simp only [Act.put])
  refine wpAnyH_take (i := 7) (v := ?_) rfl (by kernel_rfl) (by kernel_rfl) (by kernel_rfl) (fun _ _ _ h => h) (Or.inl ⟨by rfl, ?hyq7⟩) (by assumption) ?restq7
  case hyq7 => (intro W hSw; (try dsimp only at hSw); go_simp; try (with_reducible rfl))
  (try simp only [Act.put])
  refine wpAnyH_take (i := 8) (v := ?_) rfl (by kernel_rfl) (by kernel_rfl) (by kernel_rfl) (fun _ _ _ h => h) (Or.inl ⟨by rfl, ?hyq8⟩) (by assumption) ?restq8
  case hyq8 => (intro W hSw; (try dsimp only at hSw); go_simp; try (with_reducible rfl))
  (try simp only [Act.put])
  refine wpAnyH_take (i := 9) (v := ?_) rfl (by kernel_rfl) (by kernel_rfl) (by kernel_rfl) (fun _ _ _ h => h) (Or.inl ⟨by rfl, ?hyq9⟩) (by assumption) ?restq9
  case hyq9 => (intro W hSw; (try dsimp only at hSw); go_simp; try (with_reducible rfl))
  (try simp only [Act.put])
  refine wpAnyH_take (i := 10) (v := ?_) rfl (by kernel_rfl) (by kernel_rfl) (by kernel_rfl) (fun _ _ _ h => h) (Or.inl ⟨by rfl, ?hyq10⟩) (by assumption) ?restq10
  case hyq10 => (intro W hSw; (try dsimp only at hSw); go_simp; try (with_reducible rfl))
  (try simp only [Act.put])
  refine wpAnyH_take (i := 11) (v := ?_) rfl (by kernel_rfl) (by kernel_rfl) (by kernel_rfl) (fun _ _ _ h => h) (Or.inl ⟨by rfl, ?hyq11⟩) (by assumption) ?restq11
  case hyq11 => (intro W hSw; (try dsimp only at hSw); go_simp; try (with_reducible rfl))
  (try simp only [Act.put])
  refine wpAnyH_take (i := 12) (v := ?_) rfl (by kernel_rfl) (by kernel_rfl) (by kernel_rfl) (fun _ _ _ h => h) (Or.inl ⟨by rfl, ?hyq12⟩) (by assumption) ?restq12
  case hyq12 => (intro W hSw; (try dsimp only at hSw); go_simp; try (with_reducible rfl))
  (try simp only [Act.put])
  refine wpAnyH_take (i := 13) (v := ?_) rfl (by kernel_rfl) (by kernel_rfl) (by kernel_rfl) (fun _ _ _ h => h) (Or.inl ⟨by rfl, ?hyq13⟩) (by assumption) ?restq13
  case hyq13 => (intro W hSw; (try dsimp only at hSw); go_simp; try (with_reducible rfl))
  (try simp only [Act.put])
  refine wpAnyH_take (i := 17) (v := ?_) rfl (by kernel_rfl) (by kernel_rfl) (by kernel_rfl) (fun _ _ _ h => h) (Or.inl ⟨by rfl, ?hyq14⟩) (by assumption) ?restq14
  case hyq14 => (intro W hSw; (try dsimp only at hSw); go_simp; try (with_reducible rfl))
  (try simp only [Act.put])
  refine wpAnyH_take (i := 18) (v := ?_) rfl (by kernel_rfl) (by kernel_rfl) (by kernel_rfl) (fun _ _ _ h => h) (Or.inl ⟨by rfl, ?hyq15⟩) (by assumption) ?restq15
  case hyq15 => (intro W hSw; (try dsimp only at hSw); go_simp; try (with_reducible rfl))
  (try simp only [Act.put])
  refine wpAnyH_ready (rs := [14]) (by kernel_rfl) (by simp) ?_
  refine AllReadyH.cons rfl (fun K hK => ?_) AllReadyH.nil
  go_simp
  go_at_call 57
  refine (HP.out _ HB.out).mono ?_
  rintro e w' ⟨rfl, rfl⟩
  exact ⟨rfl, rfl, HB.out⟩
set_option maxRecDepth 100000 in
set_option maxHeartbeats 1000000 in
theorem done_store_no (h : MIn w S g m p) (o t n mm next : Int) (r s : Nat) (hr : r < 16) (hs : s < 16) (hin : ¬ (0 ≤ wrap64 (rg m s + n) ∧ wrap64 (rg m s + n) < m.words.length)) :
    Calls Tryz.prog 39 #[.pointer (some ⟨g, 0, none⟩), iv ⟨7, o, r, s, t, n, mm⟩, .int .i64 next] w (DoneE (6) (0) w) := by
  have H := Lib.hid h
  have hlt := h.lt g h.mem
  have r0 : (0 : Int) ≤ (r : Int) := by omega
  have r1 : (r : Int) < 16 := by omega
  have cr := h.reg hr
  have s0 : (0 : Int) ≤ (s : Int) := by omega
  have s1 : (s : Int) < 16 := by omega
  have cs := h.reg hs
  obtain ⟨a1, ha⟩ : ∃ a1, a1 = wrap64 (rg m s + n) := ⟨_, rfl⟩
  have e1 : IntKind.i64.wrap (rg m s + n) = a1 := by rw [ha]; exact IntWalk.i64_left _
  have e2 : wrap64 (rg m s + n) = a1 := ha.symm
  rw [e2] at hin
  have HB := Lib.hid (below_box w (.cells #[.int .u8 7, .int .u8 o, .int .i64 r, .int .i64 s, .int .i64 t, .int .i64 n, .int .i64 mm] 53)).drew
  have HP := Lib.hid (fun (W : World) (hb : Below w.heap.size w W) => word_no g p.gw m.words.length a1 W (h.below hb).cells.2.2.2.1 hin)
  clear hin ha
  clear h
  unfold iv ic
  go_enter Tryz.func39, Tryz.ntmps39
  go_wp2_with fail
  refine wp_region_held_drew (S := fun W => W.cell? ⟨w.heap.size, 2, none⟩ = some (.int .i64 r) ∧ W.cell? ⟨w.heap.size, 3, none⟩ = some (.int .i64 s) ∧ W.cell? ⟨w.heap.size, 5, none⟩ = some (.int .i64 n) ∧ W.cell? ⟨g, 2 + s, none⟩ = some (.int .i64 (rg m s)) ∧ W.cell? ⟨g, 2 + r, none⟩ = some (.int .i64 (rg m r))) (by kernel_rfl) (by (try dsimp only); go_keep) (fun hHeld => ?_)
  refine wpAnyH_take (i := 0) (v := ?_) rfl (by kernel_rfl) (by kernel_rfl) (by kernel_rfl) (fun _ _ _ h => h) (Or.inl ⟨by rfl, ?hyq0⟩) (by assumption) ?restq0
  case hyq0 => (intro W hSw; (try dsimp only at hSw); go_simp; try (with_reducible rfl))
  (try simp only [Act.put, List.setIfInBounds_toArray])
  refine wpAnyH_take (i := 1) (v := ?_) rfl (by kernel_rfl) (by kernel_rfl) (by kernel_rfl) (fun _ _ _ h => h) (Or.inl ⟨by rfl, ?hyq1⟩) (by assumption) ?restq1
  case hyq1 => (intro W hSw; (try dsimp only at hSw); go_simp; try (with_reducible rfl))
  (try simp only [Act.put])
  refine wpAnyH_take (i := 2) (v := ?_) rfl (by kernel_rfl) (by kernel_rfl) (by kernel_rfl) (fun _ _ _ h => h) (Or.inl ⟨by rfl, ?hyq2⟩) (by assumption) ?restq2
  case hyq2 => (intro W hSw; (try dsimp only at hSw); go_simp; try (with_reducible rfl))
  (try simp only [Act.put])
  refine wpAnyH_take (i := 3) (v := ?_) rfl (by kernel_rfl) (by kernel_rfl) (by kernel_rfl) (fun _ _ _ h => h) (Or.inl ⟨by rfl, ?hyq3⟩) (by assumption) ?restq3
  case hyq3 => (intro W hSw; (try dsimp only at hSw); go_simp; try (with_reducible rfl))
  (try simp only [Act.put])
  refine wpAnyH_take (i := 4) (v := ?_) rfl (by kernel_rfl) (by kernel_rfl) (by kernel_rfl) (fun _ _ _ h => h) (Or.inl ⟨by rfl, ?hyq4⟩) (by assumption) ?restq4
  case hyq4 => (intro W hSw; (try dsimp only at hSw); go_simp; try (with_reducible rfl))
  (try simp only [Act.put])
  refine wpAnyH_take (i := 5) (v := ?_) rfl (by kernel_rfl) (by kernel_rfl) (by kernel_rfl) (fun _ _ _ h => h) (Or.inl ⟨by rfl, ?hyq5⟩) (by assumption) ?restq5
  case hyq5 => (intro W hSw; (try dsimp only at hSw); go_simp; try (with_reducible rfl))
  (try simp only [Act.put])
  refine wpAnyH_take (i := 6) (v := ?_) rfl (by kernel_rfl) (by kernel_rfl) (by kernel_rfl) (fun _ _ _ h => h) (Or.inl ⟨by rfl, ?hyq6⟩) (by assumption) ?restq6
  case hyq6 => (intro W hSw; (try dsimp only at hSw); go_simp; try (with_reducible rfl))
  (try simp only [Act.put])
  refine wpAnyH_take (i := 7) (v := ?_) rfl (by kernel_rfl) (by kernel_rfl) (by kernel_rfl) (fun _ _ _ h => h) (Or.inl ⟨by rfl, ?hyq7⟩) (by assumption) ?restq7
  case hyq7 => (intro W hSw; (try dsimp only at hSw); go_simp; try (with_reducible rfl))
  (try simp only [Act.put])
  refine wpAnyH_take (i := 8) (v := ?_) rfl (by kernel_rfl) (by kernel_rfl) (by kernel_rfl) (fun _ _ _ h => h) (Or.inl ⟨by rfl, ?hyq8⟩) (by assumption) ?restq8
  case hyq8 => (intro W hSw; (try dsimp only at hSw); go_simp; try (with_reducible rfl))
  (try simp only [Act.put])
  refine wpAnyH_take (i := 9) (v := ?_) rfl (by kernel_rfl) (by kernel_rfl) (by kernel_rfl) (fun _ _ _ h => h) (Or.inl ⟨by rfl, ?hyq9⟩) (by assumption) ?restq9
  case hyq9 => (intro W hSw; (try dsimp only at hSw); go_simp; try (with_reducible rfl))
  (try simp only [Act.put])
  refine wpAnyH_take (i := 10) (v := ?_) rfl (by kernel_rfl) (by kernel_rfl) (by kernel_rfl) (fun _ _ _ h => h) (Or.inl ⟨by rfl, ?hyq10⟩) (by assumption) ?restq10
  case hyq10 => (intro W hSw; (try dsimp only at hSw); go_simp; try (with_reducible rfl))
  (try simp only [Act.put])
  refine wpAnyH_take (i := 12) (v := ?_) rfl (by kernel_rfl) (by kernel_rfl) (by kernel_rfl) (fun _ _ _ h => h) (Or.inl ⟨by rfl, ?hyq11⟩) (by assumption) ?restq11
  case hyq11 => (intro W hSw; (try dsimp only at hSw); go_simp; try (with_reducible rfl))
  (try simp only [Act.put])
  refine wpAnyH_take (i := 13) (v := ?_) rfl (by kernel_rfl) (by kernel_rfl) (by kernel_rfl) (fun _ _ _ h => h) (Or.inl ⟨by rfl, ?hyq12⟩) (by assumption) ?restq12
  case hyq12 => (intro W hSw; (try dsimp only at hSw); go_simp; try (with_reducible rfl))
  (try simp only [Act.put])
  refine wpAnyH_take (i := 14) (v := ?_) rfl (by kernel_rfl) (by kernel_rfl) (by kernel_rfl) (fun _ _ _ h => h) (Or.inl ⟨by rfl, ?hyq13⟩) (by assumption) ?restq13
  case hyq13 => (intro W hSw; (try dsimp only at hSw); go_simp; try (with_reducible rfl))
  (try simp only [Act.put])
  refine wpAnyH_take (i := 15) (v := ?_) rfl (by kernel_rfl) (by kernel_rfl) (by kernel_rfl) (fun _ _ _ h => h) (Or.inl ⟨by rfl, ?hyq14⟩) (by assumption) ?restq14
  case hyq14 => (intro W hSw; (try dsimp only at hSw); go_simp; try (with_reducible rfl))
  (try simp only [Act.put])
  refine wpAnyH_take (i := 16) (v := ?_) rfl (by kernel_rfl) (by kernel_rfl) (by kernel_rfl) (fun _ _ _ h => h) (Or.inl ⟨by rfl, ?hyq15⟩) (by assumption) ?restq15
  case hyq15 => (intro W hSw; (try dsimp only at hSw); go_simp; try (with_reducible rfl))
  (try simp only [Act.put])
  refine wpAnyH_take (i := 17) (v := ?_) rfl (by kernel_rfl) (by kernel_rfl) (by kernel_rfl) (fun _ _ _ h => h) (Or.inl ⟨by rfl, ?hyq16⟩) (by assumption) ?restq16
  case hyq16 => (intro W hSw; (try dsimp only at hSw); go_simp; try (with_reducible rfl))
  (try simp only [Act.put])
  refine wpAnyH_take (i := 18) (v := ?_) rfl (by kernel_rfl) (by kernel_rfl) (by kernel_rfl) (fun _ _ _ h => h) (Or.inl ⟨by rfl, ?hyq17⟩) (by assumption) ?restq17
  case hyq17 => (intro W hSw; (try dsimp only at hSw); go_simp; try (with_reducible rfl))
  (try simp only [Act.put])
  refine wpAnyH_ready (rs := [11]) (by kernel_rfl) (by simp) ?_
  refine AllReadyH.cons rfl (fun K hK => ?_) AllReadyH.nil
  go_simp
  go_at_call 57
  refine (HP.out _ HB.out).mono ?_
  rintro e w' ⟨rfl, rfl⟩
  exact ⟨rfl, rfl, HB.out⟩
set_option maxRecDepth 100000 in
set_option maxHeartbeats 1000000 in
theorem done_bin_no (h : MIn w S g m p) (o n mm next : Int) (r s t : Nat) (hr : r < 16) (hs : s < 16) (ht : t < 16) (ho : o = 4 ∨ o = 5) (hz : rg m t = 0) :
    Calls Tryz.prog 39 #[.pointer (some ⟨g, 0, none⟩), iv ⟨4, o, r, s, t, n, mm⟩, .int .i64 next] w (DoneE (2) (0) w) := by
  have H := Lib.hid h
  have hlt := h.lt g h.mem
  have r0 : (0 : Int) ≤ (r : Int) := by omega
  have r1 : (r : Int) < 16 := by omega
  have cr := h.reg hr
  have s0 : (0 : Int) ≤ (s : Int) := by omega
  have s1 : (s : Int) < 16 := by omega
  have cs := h.reg hs
  have t0 : (0 : Int) ≤ (t : Int) := by omega
  have t1 : (t : Int) < 16 := by omega
  have ct := h.reg ht
  have HB := Lib.hid (below_box w (.cells #[.int .u8 4, .int .u8 o, .int .i64 r, .int .i64 s, .int .i64 t, .int .i64 n, .int .i64 mm] 53)).drew
  have HP := Lib.hid (fun w => binary_no o (rg m s) ho w)
  rw [hz] at ct
  clear ho hz
  clear h
  unfold iv ic
  go_enter Tryz.func39, Tryz.ntmps39
  go_wp2_with fail
  refine wp_region_held_drew (S := fun W => W.cell? ⟨w.heap.size, 1, none⟩ = some (.int .u8 o) ∧ W.cell? ⟨w.heap.size, 2, none⟩ = some (.int .i64 r) ∧ W.cell? ⟨w.heap.size, 3, none⟩ = some (.int .i64 s) ∧ W.cell? ⟨w.heap.size, 4, none⟩ = some (.int .i64 t) ∧ W.cell? ⟨g, 2 + s, none⟩ = some (.int .i64 (rg m s)) ∧ W.cell? ⟨g, 2 + t, none⟩ = some (.int .i64 0)) (by kernel_rfl) (by (try dsimp only); go_keep) (fun hHeld => ?_)
  refine wpAnyH_take (i := 0) (v := ?_) rfl (by kernel_rfl) (by kernel_rfl) (by kernel_rfl) (fun _ _ _ h => h) (Or.inl ⟨by rfl, ?hyq0⟩) (by assumption) ?restq0
  case hyq0 => (intro W hSw; (try dsimp only at hSw); go_simp; try (with_reducible rfl))
  (try simp only [Act.put, List.setIfInBounds_toArray])
  refine wpAnyH_take (i := 1) (v := ?_) rfl (by kernel_rfl) (by kernel_rfl) (by kernel_rfl) (fun _ _ _ h => h) (Or.inl ⟨by rfl, ?hyq1⟩) (by assumption) ?restq1
  case hyq1 => (intro W hSw; (try dsimp only at hSw); go_simp; try (with_reducible rfl))
  (try simp only [Act.put])
  refine wpAnyH_take (i := 2) (v := ?_) rfl (by kernel_rfl) (by kernel_rfl) (by kernel_rfl) (fun _ _ _ h => h) (Or.inl ⟨by rfl, ?hyq2⟩) (by assumption) ?restq2
  case hyq2 => (intro W hSw; (try dsimp only at hSw); go_simp; try (with_reducible rfl))
  (try simp only [Act.put])
  refine wpAnyH_take (i := 3) (v := ?_) rfl (by kernel_rfl) (by kernel_rfl) (by kernel_rfl) (fun _ _ _ h => h) (Or.inl ⟨by rfl, ?hyq3⟩) (by assumption) ?restq3
  case hyq3 => (intro W hSw; (try dsimp only at hSw); go_simp; try (with_reducible rfl))
  (try simp only [Act.put])
  refine wpAnyH_take (i := 4) (v := ?_) rfl (by kernel_rfl) (by kernel_rfl) (by kernel_rfl) (fun _ _ _ h => h) (Or.inl ⟨by rfl, ?hyq4⟩) (by assumption) ?restq4
  case hyq4 => (intro W hSw; (try dsimp only at hSw); go_simp; try (with_reducible rfl))
  (try simp only [Act.put])
  refine wpAnyH_take (i := 5) (v := ?_) rfl (by kernel_rfl) (by kernel_rfl) (by kernel_rfl) (fun _ _ _ h => h) (Or.inl ⟨by rfl, ?hyq5⟩) (by assumption) ?restq5
  case hyq5 => (intro W hSw; (try dsimp only at hSw); go_simp; try (with_reducible rfl))
  (try simp only [Act.put])
  refine wpAnyH_take (i := 6) (v := ?_) rfl (by kernel_rfl) (by kernel_rfl) (by kernel_rfl) (fun _ _ _ h => h) (Or.inl ⟨by rfl, ?hyq6⟩) (by assumption) ?restq6
  case hyq6 => (intro W hSw; (try dsimp only at hSw); go_simp; try (with_reducible rfl))
  (try simp only [Act.put])
  refine wpAnyH_take (i := 7) (v := ?_) rfl (by kernel_rfl) (by kernel_rfl) (by kernel_rfl) (fun _ _ _ h => h) (Or.inl ⟨by rfl, ?hyq7⟩) (by assumption) ?restq7
  case hyq7 => (intro W hSw; (try dsimp only at hSw); go_simp; try (with_reducible rfl))
  (try simp only [Act.put])
  refine wpAnyH_take (i := 8) (v := ?_) rfl (by kernel_rfl) (by kernel_rfl) (by kernel_rfl) (fun _ _ _ h => h) (Or.inl ⟨by rfl, ?hyq8⟩) (by assumption) ?restq8
  case hyq8 => (intro W hSw; (try dsimp only at hSw); go_simp; try (with_reducible rfl))
  (try simp only [Act.put])
  refine wpAnyH_take (i := 9) (v := ?_) rfl (by kernel_rfl) (by kernel_rfl) (by kernel_rfl) (fun _ _ _ h => h) (Or.inl ⟨by rfl, ?hyq9⟩) (by assumption) ?restq9
  case hyq9 => (intro W hSw; (try dsimp only at hSw); go_simp; try (with_reducible rfl))
  (try simp only [Act.put])
  refine wpAnyH_take (i := 10) (v := ?_) rfl (by kernel_rfl) (by kernel_rfl) (by kernel_rfl) (fun _ _ _ h => h) (Or.inl ⟨by rfl, ?hyq10⟩) (by assumption) ?restq10
  case hyq10 => (intro W hSw; (try dsimp only at hSw); go_simp; try (with_reducible rfl))
  (try simp only [Act.put])
  refine wpAnyH_take (i := 11) (v := ?_) rfl (by kernel_rfl) (by kernel_rfl) (by kernel_rfl) (fun _ _ _ h => h) (Or.inl ⟨by rfl, ?hyq11⟩) (by assumption) ?restq11
  case hyq11 => (intro W hSw; (try dsimp only at hSw); go_simp; try (with_reducible rfl))
  (try simp only [Act.put])
  refine wpAnyH_take (i := 12) (v := ?_) rfl (by kernel_rfl) (by kernel_rfl) (by kernel_rfl) (fun _ _ _ h => h) (Or.inl ⟨by rfl, ?hyq12⟩) (by assumption) ?restq12
  case hyq12 => (intro W hSw; (try dsimp only at hSw); go_simp; try (with_reducible rfl))
  (try simp only [Act.put])
  refine wpAnyH_take (i := 13) (v := ?_) rfl (by kernel_rfl) (by kernel_rfl) (by kernel_rfl) (fun _ _ _ h => h) (Or.inl ⟨by rfl, ?hyq13⟩) (by assumption) ?restq13
  case hyq13 => (intro W hSw; (try dsimp only at hSw); go_simp; try (with_reducible rfl))
  (try simp only [Act.put])
  refine wpAnyH_take (i := 14) (v := ?_) rfl (by kernel_rfl) (by kernel_rfl) (by kernel_rfl) (fun _ _ _ h => h) (Or.inl ⟨by rfl, ?hyq14⟩) (by assumption) ?restq14
  case hyq14 => (intro W hSw; (try dsimp only at hSw); go_simp; try (with_reducible rfl))
  (try simp only [Act.put])
  refine wpAnyH_take (i := 15) (v := ?_) rfl (by kernel_rfl) (by kernel_rfl) (by kernel_rfl) (fun _ _ _ h => h) (Or.inl ⟨by rfl, ?hyq15⟩) (by assumption) ?restq15
  case hyq15 => (intro W hSw; (try dsimp only at hSw); go_simp; try (with_reducible rfl))
  (try simp only [Act.put])
  refine wpAnyH_take (i := 16) (v := ?_) rfl (by kernel_rfl) (by kernel_rfl) (by kernel_rfl) (fun _ _ _ h => h) (Or.inl ⟨by rfl, ?hyq16⟩) (by assumption) ?restq16
  case hyq16 => (intro W hSw; (try dsimp only at hSw); go_simp; try (with_reducible rfl))
  (try simp only [Act.put])
  refine wpAnyH_take (i := 17) (v := ?_) rfl (by kernel_rfl) (by kernel_rfl) (by kernel_rfl) (fun _ _ _ h => h) (Or.inl ⟨by rfl, ?hyq17⟩) (by assumption) ?restq17
  case hyq17 => (intro W hSw; (try dsimp only at hSw); go_simp; try (with_reducible rfl))
  (try simp only [Act.put])
  refine wpAnyH_take (i := 18) (v := ?_) rfl (by kernel_rfl) (by kernel_rfl) (by kernel_rfl) (fun _ _ _ h => h) (Or.inl ⟨by rfl, ?hyq18⟩) (by assumption) ?restq18
  case hyq18 => (intro W hSw; (try dsimp only at hSw); go_simp; try (with_reducible rfl))
  (try simp only [Act.put])
  refine wpAnyH_take (i := 20) (v := ?_) rfl (by kernel_rfl) (by kernel_rfl) (by kernel_rfl) (fun _ _ _ h => h) (Or.inl ⟨by rfl, ?hyq19⟩) (by assumption) ?restq19
  case hyq19 => (intro W hSw; (try dsimp only at hSw); go_simp; try (with_reducible rfl))
  (try simp only [Act.put])
  refine wpAnyH_take (i := 21) (v := ?_) rfl (by kernel_rfl) (by kernel_rfl) (by kernel_rfl) (fun _ _ _ h => h) (Or.inl ⟨by rfl, ?hyq20⟩) (by assumption) ?restq20
  case hyq20 => (intro W hSw; (try dsimp only at hSw); go_simp; try (with_reducible rfl))
  (try simp only [Act.put])
  refine wpAnyH_ready (rs := [19]) (by kernel_rfl) (by simp) ?_
  refine AllReadyH.cons rfl (fun K hK => ?_) AllReadyH.nil
  go_simp
  go_at_call 55
  refine (HP.out _).mono ?_
  rintro e w' ⟨rfl, rfl⟩
  exact ⟨rfl, rfl, HB.out⟩
set_option maxRecDepth 100000 in
set_option maxHeartbeats 1000000 in
theorem done_in_no (h : MIn w S g m p) (o s t n mm next : Int) (r : Nat) (hr : r < 16) (hin : m.input = []) :
    Calls Tryz.prog 39 #[.pointer (some ⟨g, 0, none⟩), iv ⟨15, o, r, s, t, n, mm⟩, .int .i64 next] w (DoneE (4) (0) w) := by
  have H := Lib.hid h
  have hlt := h.lt g h.mem
  have r0 : (0 : Int) ≤ (r : Int) := by omega
  have r1 : (r : Int) < 16 := by omega
  have cr := h.reg hr
  have HB := Lib.hid (below_box w (.cells #[.int .u8 15, .int .u8 o, .int .i64 r, .int .i64 s, .int .i64 t, .int .i64 n, .int .i64 mm] 53)).drew
  have HP := Lib.hid (fun (W : World) (hb : Below w.heap.size w W) => read_no g W p.Ai p.ci (by have := (h.below hb).cells.2.2.2.2.1; rwa [hin] at this))
  clear hin
  clear h
  unfold iv ic
  go_enter Tryz.func39, Tryz.ntmps39
  go_wp2_with fail
  refine wp_region_held_drew (S := fun W => W.cell? ⟨w.heap.size, 2, none⟩ = some (.int .i64 r)) (by kernel_rfl) (by (try dsimp only); go_keep) (fun hHeld => ?_)
  refine wpAnyH_take (i := 0) (v := ?_) rfl (by kernel_rfl) (by kernel_rfl) (by kernel_rfl) (fun _ _ _ h => h) (Or.inl ⟨by rfl, ?hyq0⟩) (by assumption) ?restq0
  case hyq0 => (intro W hSw; (try dsimp only at hSw); go_simp; try (with_reducible rfl))
  (try simp only [Act.put, List.setIfInBounds_toArray])
  refine wpAnyH_take (i := 1) (v := ?_) rfl (by kernel_rfl) (by kernel_rfl) (by kernel_rfl) (fun _ _ _ h => h) (Or.inl ⟨by rfl, ?hyq1⟩) (by assumption) ?restq1
  case hyq1 => (intro W hSw; (try dsimp only at hSw); go_simp; try (with_reducible rfl))
  (try simp only [Act.put])
  refine wpAnyH_take (i := 2) (v := ?_) rfl (by kernel_rfl) (by kernel_rfl) (by kernel_rfl) (fun _ _ _ h => h) (Or.inl ⟨by rfl, ?hyq2⟩) (by assumption) ?restq2
  case hyq2 => (intro W hSw; (try dsimp only at hSw); go_simp; try (with_reducible rfl))
  (try simp only [Act.put])
  refine wpAnyH_take (i := 3) (v := ?_) rfl (by kernel_rfl) (by kernel_rfl) (by kernel_rfl) (fun _ _ _ h => h) (Or.inl ⟨by rfl, ?hyq3⟩) (by assumption) ?restq3
  case hyq3 => (intro W hSw; (try dsimp only at hSw); go_simp; try (with_reducible rfl))
  (try simp only [Act.put])
  refine wpAnyH_take (i := 5) (v := ?_) rfl (by kernel_rfl) (by kernel_rfl) (by kernel_rfl) (fun _ _ _ h => h) (Or.inl ⟨by rfl, ?hyq4⟩) (by assumption) ?restq4
  case hyq4 => (intro W hSw; (try dsimp only at hSw); go_simp; try (with_reducible rfl))
  (try simp only [Act.put])
  refine wpAnyH_take (i := 6) (v := ?_) rfl (by kernel_rfl) (by kernel_rfl) (by kernel_rfl) (fun _ _ _ h => h) (Or.inl ⟨by rfl, ?hyq5⟩) (by assumption) ?restq5
  case hyq5 => (intro W hSw; (try dsimp only at hSw); go_simp; try (with_reducible rfl))
  (try simp only [Act.put])
  refine wpAnyH_ready (rs := [4]) (by kernel_rfl) (by simp) ?_
  refine AllReadyH.cons rfl (fun K hK => ?_) AllReadyH.nil
  go_simp
  go_at_call 62
  refine (HP.out _ HB.out).mono ?_
  rintro e w' ⟨rfl, rfl⟩
  exact ⟨rfl, rfl, HB.out⟩
end

end Go.Proofs.YtdnpoeegefkoiaaGreat
