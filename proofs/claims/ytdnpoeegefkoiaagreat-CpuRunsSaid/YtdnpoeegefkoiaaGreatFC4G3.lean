/-
  Merged for a claim: C4G3.
-/
import Derived.Test.YtdnpoeegefkoiaaGreatFJ4
import Derived.StillTailTactics
import Derived.RegionTactic
import Derived.Deep.RegionHeld3
namespace Go.Proofs.YtdnpoeegefkoiaaGreat
open Go Go.RowKit

section
variable {w : World} {S : Nat → Prop} {g : Nat} {m : Mc} {p : Mp}
set_option maxRecDepth 100000 in
set_option maxHeartbeats 1000000 in
theorem done_pick_index (h : MIn w S g m p) (o n mm next : Int) (r s t : Nat) (hr : r < 16) (hs : s < 16) (ht : t < 16) (hin : rg m t < 0 ∨ mm ≤ rg m t) :
    Calls Tryz.prog 39 #[.pointer (some ⟨g, 0, none⟩), iv ⟨8, o, r, s, t, n, mm⟩, .int .i64 next] w (DoneE (3) (0) w) := by
  have H := Lib.hid h
  have hlt := h.lt g h.mem
  have r0 : (0 : Int) ≤ (r : Int) := by omega
  have r1 : (r : Int) < 16 := by omega
  have cr := h.reg hr
  have s0 : (0 : Int) ≤ (s : Int) := by omega
  have s1 : (s : Int) < 16 := by omega
  have cs := h.reg hs
  have t0 : (0 : Int) ≤ (t : Int) := by omega
  have t1 : (t : Int) < 16 := by omega
  have ct := h.reg ht
  have hb0 := below_box w (.cells #[.int .u8 8, .int .u8 o, .int .i64 r, .int .i64 s, .int .i64 t, .int .i64 n, .int .i64 mm] 53)
  have HP := Lib.hid (fun (W : World) (hb : Below w.heap.size w W) => part_index g W 8 o r n mm (rg m s) (rg m t) s t hs ht ((h.below hb).reg hs) ((h.below hb).reg ht) hin)
  have HB := Lib.hid hb0.drew
  clear hin hb0
  clear h
  unfold iv ic
  go_enter Tryz.func39, Tryz.ntmps39
  go_wp2_with fail
  refine wp_region_held_drew (S := fun W => W.cell? ⟨w.heap.size, 0, none⟩ = some (.int .u8 8) ∧ W.cell? ⟨w.heap.size, 1, none⟩ = some (.int .u8 o) ∧ W.cell? ⟨w.heap.size, 2, none⟩ = some (.int .i64 r) ∧ W.cell? ⟨w.heap.size, 3, none⟩ = some (.int .i64 s) ∧ W.cell? ⟨w.heap.size, 4, none⟩ = some (.int .i64 t) ∧ W.cell? ⟨w.heap.size, 5, none⟩ = some (.int .i64 n) ∧ W.cell? ⟨w.heap.size, 6, none⟩ = some (.int .i64 mm)) (by kernel_rfl) (by (try dsimp only); go_keep) (fun hHeld => ?_)
  refine wpAnyH_take (i := 0) (v := ?_) rfl (by kernel_rfl) (by kernel_rfl) (by kernel_rfl) (fun _ _ _ h => h) (Or.inl ⟨by rfl, ?hyq0⟩) (by assumption) ?restq0
  case hyq0 => (intro W hSw; (try dsimp only at hSw); go_simp; try (with_reducible rfl))
  (try simp only [Act.put, List.setIfInBounds_toArray])
  refine wpAnyH_take (i := 1) (v := ?_) rfl (by kernel_rfl) (by kernel_rfl) (by kernel_rfl) (fun _ _ _ h => h) (Or.inl ⟨by rfl, ?hyq1⟩) (by assumption) ?restq1
  case hyq1 => (intro W hSw; (try dsimp only at hSw); go_simp; try (with_reducible rfl))
  (try simp only [Act.put])
  refine wpAnyH_take (i := 2) (v := ?_) rfl (by kernel_rfl) (by kernel_rfl) (by kernel_rfl) (fun _ _ _ h => h) (Or.inl ⟨by rfl, ?hyq2⟩) (by assumption) ?restq2
  case hyq2 => (intro W hSw; (try dsimp only at hSw); go_simp; try (with_reducible rfl))
  (try simp only [Act.put])
  refine wpAnyH_take (i := 3) (v := ?_) rfl (by kernel_rfl) (by kernel_rfl) (by kernel_rfl) (fun _ _ _ h => h) (Or.inl ⟨by rfl, ?hyq3⟩) (by assumption) ?restq3
  case hyq3 => (intro W hSw; (try dsimp only at hSw); go_simp; try (with_reducible rfl))
  (try simp only [Act.put])
  refine wpAnyH_take (i := 4) (v := ?_) rfl (by kernel_rfl) (by kernel_rfl) (by kernel_rfl) (fun _ _ _ h => h) (Or.inl ⟨by rfl, ?hyq4⟩) (by assumption) ?restq4
  case hyq4 => (intro W hSw; (try dsimp only at hSw); go_simp; try (with_reducible rfl))
  (try simp only [Act.put])
  refine wpAnyH_take (i := 8) (v := ?_) rfl (by kernel_rfl) (by kernel_rfl) (by kernel_rfl) (fun _ _ _ h => h) (Or.inl ⟨by rfl, ?hyq5⟩) (by assumption) ?restq5
  case hyq5 => (intro W hSw; (try dsimp only at hSw); go_simp; try (with_reducible rfl))
  (try simp only [Act.put])
  refine wpAnyH_take (i := 9) (v := ?_) rfl (by kernel_rfl) (by kernel_rfl) (by kernel_rfl) (fun _ _ _ h => h) (Or.inl ⟨by rfl, ?hyq6⟩) (by assumption) ?restq6
  case hyq6 => (intro W hSw; (try dsimp only at hSw); go_simp; try (with_reducible rfl))
  (try simp only [Act.put])
  refine wpAnyH_ready (rs := [5]) (by kernel_rfl) (by simp) ?_
  refine AllReadyH.cons rfl (fun K hK => ?_) AllReadyH.nil
  go_simp
  go_at_call 58
  refine (HP.out _ HB.out).mono ?_
  rintro e w9 ⟨rfl, hb9⟩
  exact ⟨rfl, rfl, HB.out.trans (hb9.mono HB.out.size)⟩
set_option maxRecDepth 100000 in
set_option maxHeartbeats 1000000 in
theorem done_pick_no (h : MIn w S g m p) (o n mm next : Int) (r s t : Nat) (hr : r < 16) (hs : s < 16) (ht : t < 16) (ht0 : 0 ≤ rg m t) (ht1 : rg m t < mm) (hin : ¬ (0 ≤ wrap64 (wrap64 (rg m s + n) + rg m t) ∧ wrap64 (wrap64 (rg m s + n) + rg m t) < m.words.length)) :
    Calls Tryz.prog 39 #[.pointer (some ⟨g, 0, none⟩), iv ⟨8, o, r, s, t, n, mm⟩, .int .i64 next] w (DoneE (6) (0) w) := by
  have H := Lib.hid h
  have hlt := h.lt g h.mem
  have r0 : (0 : Int) ≤ (r : Int) := by omega
  have r1 : (r : Int) < 16 := by omega
  have cr := h.reg hr
  have s0 : (0 : Int) ≤ (s : Int) := by omega
  have s1 : (s : Int) < 16 := by omega
  have cs := h.reg hs
  have t0 : (0 : Int) ≤ (t : Int) := by omega
  have t1 : (t : Int) < 16 := by omega
  have ct := h.reg ht
  obtain ⟨a1, ha⟩ : ∃ a1, a1 = wrap64 (rg m s + n) := ⟨_, rfl⟩
  obtain ⟨a2, hc⟩ : ∃ a2, a2 = wrap64 (wrap64 (rg m s + n) + rg m t) := ⟨_, rfl⟩
  have q1 : IntKind.i64.wrap (rg m s + n) = a1 := by rw [ha]; exact IntWalk.i64_left _
  have q2 : IntKind.i64.wrap (a1 + rg m t) = a2 := by rw [hc, ha]; exact IntWalk.i64_left _
  rw [← hc] at hin
  have hb0 := below_box w (.cells #[.int .u8 8, .int .u8 o, .int .i64 r, .int .i64 s, .int .i64 t, .int .i64 n, .int .i64 mm] 53)
  have HP := Lib.hid (fun (W : World) (hb : Below w.heap.size w W) => part_no g p.gw m.words.length W 8 o r n mm (rg m s) (rg m t) s t hs ht ((h.below hb).reg hs) ((h.below hb).reg ht) ((h.below hb).cells.2.2.2.1) ht0 ht1 a1 a2 q1 q2 hin)
  have HB := Lib.hid hb0.drew
  clear hin hb0 ha hc ht0 ht1
  clear h
  unfold iv ic
  go_enter Tryz.func39, Tryz.ntmps39
  go_wp2_with fail
  refine wp_region_held_drew (S := fun W => W.cell? ⟨w.heap.size, 0, none⟩ = some (.int .u8 8) ∧ W.cell? ⟨w.heap.size, 1, none⟩ = some (.int .u8 o) ∧ W.cell? ⟨w.heap.size, 2, none⟩ = some (.int .i64 r) ∧ W.cell? ⟨w.heap.size, 3, none⟩ = some (.int .i64 s) ∧ W.cell? ⟨w.heap.size, 4, none⟩ = some (.int .i64 t) ∧ W.cell? ⟨w.heap.size, 5, none⟩ = some (.int .i64 n) ∧ W.cell? ⟨w.heap.size, 6, none⟩ = some (.int .i64 mm)) (by kernel_rfl) (by (try dsimp only); go_keep) (fun hHeld => ?_)
  refine wpAnyH_take (i := 0) (v := ?_) rfl (by kernel_rfl) (by kernel_rfl) (by kernel_rfl) (fun _ _ _ h => h) (Or.inl ⟨by rfl, ?hyq0⟩) (by assumption) ?restq0
  case hyq0 => (intro W hSw; (try dsimp only at hSw); go_simp; try (with_reducible rfl))
  (try simp only [Act.put, List.setIfInBounds_toArray])
  refine wpAnyH_take (i := 1) (v := ?_) rfl (by kernel_rfl) (by kernel_rfl) (by kernel_rfl) (fun _ _ _ h => h) (Or.inl ⟨by rfl, ?hyq1⟩) (by assumption) ?restq1
  case hyq1 => (intro W hSw; (try dsimp only at hSw); go_simp; try (with_reducible rfl))
  (try simp only [Act.put])
  refine wpAnyH_take (i := 2) (v := ?_) rfl (by kernel_rfl) (by kernel_rfl) (by kernel_rfl) (fun _ _ _ h => h) (Or.inl ⟨by rfl, ?hyq2⟩) (by assumption) ?restq2
  case hyq2 => (intro W hSw; (try dsimp only at hSw); go_simp; try (with_reducible rfl))
  (try simp only [Act.put])
  refine wpAnyH_take (i := 3) (v := ?_) rfl (by kernel_rfl) (by kernel_rfl) (by kernel_rfl) (fun _ _ _ h => h) (Or.inl ⟨by rfl, ?hyq3⟩) (by assumption) ?restq3
  case hyq3 => (intro W hSw; (try dsimp only at hSw); go_simp; try (with_reducible rfl))
  (try simp only [Act.put])
  refine wpAnyH_take (i := 4) (v := ?_) rfl (by kernel_rfl) (by kernel_rfl) (by kernel_rfl) (fun _ _ _ h => h) (Or.inl ⟨by rfl, ?hyq4⟩) (by assumption) ?restq4
  case hyq4 => (intro W hSw; (try dsimp only at hSw); go_simp; try (with_reducible rfl))
  (try simp only [Act.put])
  refine wpAnyH_take (i := 8) (v := ?_) rfl (by kernel_rfl) (by kernel_rfl) (by kernel_rfl) (fun _ _ _ h => h) (Or.inl ⟨by rfl, ?hyq5⟩) (by assumption) ?restq5
  case hyq5 => (intro W hSw; (try dsimp only at hSw); go_simp; try (with_reducible rfl))
  (try simp only [Act.put])
  refine wpAnyH_take (i := 9) (v := ?_) rfl (by kernel_rfl) (by kernel_rfl) (by kernel_rfl) (fun _ _ _ h => h) (Or.inl ⟨by rfl, ?hyq6⟩) (by assumption) ?restq6
  case hyq6 => (intro W hSw; (try dsimp only at hSw); go_simp; try (with_reducible rfl))
  (try simp only [Act.put])
  refine wpAnyH_ready (rs := [5]) (by kernel_rfl) (by simp) ?_
  refine AllReadyH.cons rfl (fun K hK => ?_) AllReadyH.nil
  go_simp
  go_at_call 58
  refine (HP.out _ HB.out).mono ?_
  rintro e w9 ⟨rfl, hb9⟩
  exact ⟨rfl, rfl, HB.out.trans (hb9.mono HB.out.size)⟩
set_option maxRecDepth 100000 in
set_option maxHeartbeats 1000000 in
theorem done_lay_index (h : MIn w S g m p) (o n mm next : Int) (r s t : Nat) (hr : r < 16) (hs : s < 16) (ht : t < 16) (hin : rg m t < 0 ∨ mm ≤ rg m t) :
    Calls Tryz.prog 39 #[.pointer (some ⟨g, 0, none⟩), iv ⟨9, o, r, s, t, n, mm⟩, .int .i64 next] w (DoneE (3) (0) w) := by
  have H := Lib.hid h
  have hlt := h.lt g h.mem
  have r0 : (0 : Int) ≤ (r : Int) := by omega
  have r1 : (r : Int) < 16 := by omega
  have cr := h.reg hr
  have s0 : (0 : Int) ≤ (s : Int) := by omega
  have s1 : (s : Int) < 16 := by omega
  have cs := h.reg hs
  have t0 : (0 : Int) ≤ (t : Int) := by omega
  have t1 : (t : Int) < 16 := by omega
  have ct := h.reg ht
  have hb0 := below_box w (.cells #[.int .u8 9, .int .u8 o, .int .i64 r, .int .i64 s, .int .i64 t, .int .i64 n, .int .i64 mm] 53)
  have HP := Lib.hid (fun (W : World) (hb : Below w.heap.size w W) => part_index g W 9 o r n mm (rg m s) (rg m t) s t hs ht ((h.below hb).reg hs) ((h.below hb).reg ht) hin)
  have HB := Lib.hid hb0.drew
  clear hin hb0
  clear h
  unfold iv ic
  go_enter Tryz.func39, Tryz.ntmps39
  go_wp2_with fail
  refine wp_region_held_drew (S := fun W => W.cell? ⟨w.heap.size, 0, none⟩ = some (.int .u8 9) ∧ W.cell? ⟨w.heap.size, 1, none⟩ = some (.int .u8 o) ∧ W.cell? ⟨w.heap.size, 2, none⟩ = some (.int .i64 r) ∧ W.cell? ⟨w.heap.size, 3, none⟩ = some (.int .i64 s) ∧ W.cell? ⟨w.heap.size, 4, none⟩ = some (.int .i64 t) ∧ W.cell? ⟨w.heap.size, 5, none⟩ = some (.int .i64 n) ∧ W.cell? ⟨w.heap.size, 6, none⟩ = some (.int .i64 mm) ∧ W.cell? ⟨g, 2 + r, none⟩ = some (.int .i64 (rg m r))) (by kernel_rfl) (by (try dsimp only); go_keep) (fun hHeld => ?_)
  refine wpAnyH_take (i := 0) (v := ?_) rfl (by kernel_rfl) (by kernel_rfl) (by kernel_rfl) (fun _ _ _ h => h) (Or.inl ⟨by rfl, ?hyq0⟩) (by assumption) ?restq0
  case hyq0 => (intro W hSw; (try dsimp only at hSw); go_simp; try (with_reducible rfl))
  (try simp only [Act.put, List.setIfInBounds_toArray])
  refine wpAnyH_take (i := 1) (v := ?_) rfl (by kernel_rfl) (by kernel_rfl) (by kernel_rfl) (fun _ _ _ h => h) (Or.inl ⟨by rfl, ?hyq1⟩) (by assumption) ?restq1
  case hyq1 => (intro W hSw; (try dsimp only at hSw); go_simp; try (with_reducible rfl))
  (try simp only [Act.put])
  refine wpAnyH_take (i := 3) (v := ?_) rfl (by kernel_rfl) (by kernel_rfl) (by kernel_rfl) (fun _ _ _ h => h) (Or.inl ⟨by rfl, ?hyq2⟩) (by assumption) ?restq2
  case hyq2 => (intro W hSw; (try dsimp only at hSw); go_simp; try (with_reducible rfl))
  (try simp only [Act.put])
  refine wpAnyH_take (i := 4) (v := ?_) rfl (by kernel_rfl) (by kernel_rfl) (by kernel_rfl) (fun _ _ _ h => h) (Or.inl ⟨by rfl, ?hyq3⟩) (by assumption) ?restq3
  case hyq3 => (intro W hSw; (try dsimp only at hSw); go_simp; try (with_reducible rfl))
  (try simp only [Act.put])
  refine wpAnyH_take (i := 5) (v := ?_) rfl (by kernel_rfl) (by kernel_rfl) (by kernel_rfl) (fun _ _ _ h => h) (Or.inl ⟨by rfl, ?hyq4⟩) (by assumption) ?restq4
  case hyq4 => (intro W hSw; (try dsimp only at hSw); go_simp; try (with_reducible rfl))
  (try simp only [Act.put])
  refine wpAnyH_take (i := 6) (v := ?_) rfl (by kernel_rfl) (by kernel_rfl) (by kernel_rfl) (fun _ _ _ h => h) (Or.inl ⟨by rfl, ?hyq5⟩) (by assumption) ?restq5
  case hyq5 => (intro W hSw; (try dsimp only at hSw); go_simp; try (with_reducible rfl))
  (try simp only [Act.put])
  refine wpAnyH_take (i := 7) (v := ?_) rfl (by kernel_rfl) (by kernel_rfl) (by kernel_rfl) (fun _ _ _ h => h) (Or.inl ⟨by rfl, ?hyq6⟩) (by assumption) ?restq6
  case hyq6 => (intro W hSw; (try dsimp only at hSw); go_simp; try (with_reducible rfl))
  (try simp only [Act.put])
  refine wpAnyH_take (i := 8) (v := ?_) rfl (by kernel_rfl) (by kernel_rfl) (by kernel_rfl) (fun _ _ _ h => h) (Or.inl ⟨by rfl, ?hyq7⟩) (by assumption) ?restq7
  case hyq7 => (intro W hSw; (try dsimp only at hSw); go_simp; try (with_reducible rfl))
  (try simp only [Act.put])
  refine wpAnyH_take (i := 9) (v := ?_) rfl (by kernel_rfl) (by kernel_rfl) (by kernel_rfl) (fun _ _ _ h => h) (Or.inl ⟨by rfl, ?hyq8⟩) (by assumption) ?restq8
  case hyq8 => (intro W hSw; (try dsimp only at hSw); go_simp; try (with_reducible rfl))
  (try simp only [Act.put])
  refine wpAnyH_ready (rs := [2]) (by kernel_rfl) (by simp) ?_
  refine AllReadyH.cons rfl (fun K hK => ?_) AllReadyH.nil
  go_simp
  go_at_call 58
  refine (HP.out _ HB.out).mono ?_
  rintro e w9 ⟨rfl, hb9⟩
  exact ⟨rfl, rfl, HB.out.trans (hb9.mono HB.out.size)⟩
set_option maxRecDepth 100000 in
set_option maxHeartbeats 1000000 in
theorem done_lay_no (h : MIn w S g m p) (o n mm next : Int) (r s t : Nat) (hr : r < 16) (hs : s < 16) (ht : t < 16) (ht0 : 0 ≤ rg m t) (ht1 : rg m t < mm) (hin : ¬ (0 ≤ wrap64 (wrap64 (rg m s + n) + rg m t) ∧ wrap64 (wrap64 (rg m s + n) + rg m t) < m.words.length)) :
    Calls Tryz.prog 39 #[.pointer (some ⟨g, 0, none⟩), iv ⟨9, o, r, s, t, n, mm⟩, .int .i64 next] w (DoneE (6) (0) w) := by
  have H := Lib.hid h
  have hlt := h.lt g h.mem
  have r0 : (0 : Int) ≤ (r : Int) := by omega
  have r1 : (r : Int) < 16 := by omega
  have cr := h.reg hr
  have s0 : (0 : Int) ≤ (s : Int) := by omega
  have s1 : (s : Int) < 16 := by omega
  have cs := h.reg hs
  have t0 : (0 : Int) ≤ (t : Int) := by omega
  have t1 : (t : Int) < 16 := by omega
  have ct := h.reg ht
  obtain ⟨a1, ha⟩ : ∃ a1, a1 = wrap64 (rg m s + n) := ⟨_, rfl⟩
  obtain ⟨a2, hc⟩ : ∃ a2, a2 = wrap64 (wrap64 (rg m s + n) + rg m t) := ⟨_, rfl⟩
  have q1 : IntKind.i64.wrap (rg m s + n) = a1 := by rw [ha]; exact IntWalk.i64_left _
  have q2 : IntKind.i64.wrap (a1 + rg m t) = a2 := by rw [hc, ha]; exact IntWalk.i64_left _
  rw [← hc] at hin
  have hb0 := below_box w (.cells #[.int .u8 9, .int .u8 o, .int .i64 r, .int .i64 s, .int .i64 t, .int .i64 n, .int .i64 mm] 53)
  have HP := Lib.hid (fun (W : World) (hb : Below w.heap.size w W) => part_no g p.gw m.words.length W 9 o r n mm (rg m s) (rg m t) s t hs ht ((h.below hb).reg hs) ((h.below hb).reg ht) ((h.below hb).cells.2.2.2.1) ht0 ht1 a1 a2 q1 q2 hin)
  have HB := Lib.hid hb0.drew
  clear hin hb0 ha hc ht0 ht1
  clear h
  unfold iv ic
  go_enter Tryz.func39, Tryz.ntmps39
  go_wp2_with fail
  refine wp_region_held_drew (S := fun W => W.cell? ⟨w.heap.size, 0, none⟩ = some (.int .u8 9) ∧ W.cell? ⟨w.heap.size, 1, none⟩ = some (.int .u8 o) ∧ W.cell? ⟨w.heap.size, 2, none⟩ = some (.int .i64 r) ∧ W.cell? ⟨w.heap.size, 3, none⟩ = some (.int .i64 s) ∧ W.cell? ⟨w.heap.size, 4, none⟩ = some (.int .i64 t) ∧ W.cell? ⟨w.heap.size, 5, none⟩ = some (.int .i64 n) ∧ W.cell? ⟨w.heap.size, 6, none⟩ = some (.int .i64 mm) ∧ W.cell? ⟨g, 2 + r, none⟩ = some (.int .i64 (rg m r))) (by kernel_rfl) (by (try dsimp only); go_keep) (fun hHeld => ?_)
  refine wpAnyH_take (i := 0) (v := ?_) rfl (by kernel_rfl) (by kernel_rfl) (by kernel_rfl) (fun _ _ _ h => h) (Or.inl ⟨by rfl, ?hyq0⟩) (by assumption) ?restq0
  case hyq0 => (intro W hSw; (try dsimp only at hSw); go_simp; try (with_reducible rfl))
  (try simp only [Act.put, List.setIfInBounds_toArray])
  refine wpAnyH_take (i := 1) (v := ?_) rfl (by kernel_rfl) (by kernel_rfl) (by kernel_rfl) (fun _ _ _ h => h) (Or.inl ⟨by rfl, ?hyq1⟩) (by assumption) ?restq1
  case hyq1 => (intro W hSw; (try dsimp only at hSw); go_simp; try (with_reducible rfl))
  (try simp only [Act.put])
  refine wpAnyH_take (i := 3) (v := ?_) rfl (by kernel_rfl) (by kernel_rfl) (by kernel_rfl) (fun _ _ _ h => h) (Or.inl ⟨by rfl, ?hyq2⟩) (by assumption) ?restq2
  case hyq2 => (intro W hSw; (try dsimp only at hSw); go_simp; try (with_reducible rfl))
  (try simp only [Act.put])
  refine wpAnyH_take (i := 4) (v := ?_) rfl (by kernel_rfl) (by kernel_rfl) (by kernel_rfl) (fun _ _ _ h => h) (Or.inl ⟨by rfl, ?hyq3⟩) (by assumption) ?restq3
  case hyq3 => (intro W hSw; (try dsimp only at hSw); go_simp; try (with_reducible rfl))
  (try simp only [Act.put])
  refine wpAnyH_take (i := 5) (v := ?_) rfl (by kernel_rfl) (by kernel_rfl) (by kernel_rfl) (fun _ _ _ h => h) (Or.inl ⟨by rfl, ?hyq4⟩) (by assumption) ?restq4
  case hyq4 => (intro W hSw; (try dsimp only at hSw); go_simp; try (with_reducible rfl))
  (try simp only [Act.put])
  refine wpAnyH_take (i := 6) (v := ?_) rfl (by kernel_rfl) (by kernel_rfl) (by kernel_rfl) (fun _ _ _ h => h) (Or.inl ⟨by rfl, ?hyq5⟩) (by assumption) ?restq5
  case hyq5 => (intro W hSw; (try dsimp only at hSw); go_simp; try (with_reducible rfl))
  (try simp only [Act.put])
  refine wpAnyH_take (i := 7) (v := ?_) rfl (by kernel_rfl) (by kernel_rfl) (by kernel_rfl) (fun _ _ _ h => h) (Or.inl ⟨by rfl, ?hyq6⟩) (by assumption) ?restq6
  case hyq6 => (intro W hSw; (try dsimp only at hSw); go_simp; try (with_reducible rfl))
  (try simp only [Act.put])
  refine wpAnyH_take (i := 8) (v := ?_) rfl (by kernel_rfl) (by kernel_rfl) (by kernel_rfl) (fun _ _ _ h => h) (Or.inl ⟨by rfl, ?hyq7⟩) (by assumption) ?restq7
  case hyq7 => (intro W hSw; (try dsimp only at hSw); go_simp; try (with_reducible rfl))
  (try simp only [Act.put])
  refine wpAnyH_take (i := 9) (v := ?_) rfl (by kernel_rfl) (by kernel_rfl) (by kernel_rfl) (fun _ _ _ h => h) (Or.inl ⟨by rfl, ?hyq8⟩) (by assumption) ?restq8
  case hyq8 => (intro W hSw; (try dsimp only at hSw); go_simp; try (with_reducible rfl))
  (try simp only [Act.put])
  refine wpAnyH_ready (rs := [2]) (by kernel_rfl) (by simp) ?_
  refine AllReadyH.cons rfl (fun K hK => ?_) AllReadyH.nil
  go_simp
  go_at_call 58
  refine (HP.out _ HB.out).mono ?_
  rintro e w9 ⟨rfl, hb9⟩
  exact ⟨rfl, rfl, HB.out.trans (hb9.mono HB.out.size)⟩
end

end Go.Proofs.YtdnpoeegefkoiaaGreat
