/-
  Merged for a claim: C5I.
-/
import Derived.Test.YtdnpoeegefkoiaaGreatFC5H
import Derived.RegionTactic
import Derived.Deep.RegionHeld3
import Derived.Deep.QuietTactic
import Derived.BigQuiet
import Derived.StillTailTactics
namespace Go.Proofs.YtdnpoeegefkoiaaGreat
open Go Go.RowKit


section
variable {w : World} {S : Nat → Prop} {g : Nat} {m : Mc} {p : Rp}
set_option maxRecDepth 100000 in
set_option maxHeartbeats 4000000 in
theorem does_out (h : DIn w S g m p) (o t n mm next : Int) (r : Nat) (hr : r < 16) (hll : m.out.length ≤ 1099511627776) :
    Calls Tryz.prog 29 #[.pointer (some ⟨g, 0, none⟩), iv ⟨16, o, r, 0, t, n, mm⟩, .int .i64 next] w (DoesR ({ m with out := m.out ++ [rg m r], pc := next }) 0 S g w) := by
  have H := Lib.hid h
  obtain ⟨⟨l0, l1, l2⟩, f0, f1, f2⟩ := h.facts
  obtain ⟨c0, c1, c2, c3, c4, c5, c6, c7⟩ := h.cells
  have n1 : p.gr ≠ g := h.grg
  have r0 : (0 : Int) ≤ (r : Int) := by omega
  have r1 : (r : Int) < 16 := by omega
  have cr := h.reg hr
  have cs := h.reg (r := 0) (by omega)
  obtain ⟨A5, z5, e5, hz5, hn5, hL5⟩ := h.out.ilsC
  have HLL := Lib.hid hll
  have HN5 := Lib.hid hn5
  have HVO := Lib.hid e5
  have HB := Lib.hid (below_box w (.cells #[.int .u8 16, .int .u8 o, .int .i64 r, .int .i64 0, .int .i64 t, .int .i64 n, .int .i64 mm] 53)).drew.drew
  have HD := Lib.hid ((h.al (.cells #[.int .u8 16, .int .u8 o, .int .i64 r, .int .i64 0, .int .i64 t, .int .i64 n, .int .i64 mm] 53)).dr.dr)
  have HBX := Lib.hid (show (w.alloc (.cells #[.int .u8 16, .int .u8 o, .int .i64 r, .int .i64 0, .int .i64 t, .int .i64 n, .int .i64 mm] 53)).drew.drew.cell? ⟨w.heap.size, 2, none⟩ = some (.int .i64 r) from by
    have := heap_alloc_new w (.cells #[.int .u8 16, .int .u8 o, .int .i64 r, .int .i64 0, .int .i64 t, .int .i64 n, .int .i64 mm] 53)
    show (w.alloc _).cell? _ = _
    simp only [World.cell?, this]
    rfl)
  have HSZ := Lib.hid (show w.heap.size + 1 ≤ (w.alloc (.cells #[.int .u8 16, .int .u8 o, .int .i64 r, .int .i64 0, .int .i64 t, .int .i64 n, .int .i64 mm] 53)).drew.drew.heap.size by simp)
  clear h f0 f1 f2 c0 c3 c4 c5 c6 c7 e5 hz5 hn5 hL5 hll
  unfold iv ic
  go_enter Tryz.func29, Tryz.ntmps29
  go_wp2_with fail
  go_region
  go_wp2_with fail
  refine wp_region_held_drew (S := fun W => W.cell? ⟨w.heap.size, 2, none⟩ = some (.int .i64 r) ∧ W.cell? ⟨p.gr, r, none⟩ = some (.int .i64 (rg m r)) ∧ W.cell? ⟨g, 2, none⟩ = some (.slice (some ⟨p.gr, 0, none⟩) 16 16)) (by kernel_rfl) (by exact ⟨HBX.out, HD.out.reg hr, HD.out.cells.2.2.1⟩) (fun hHeld => ?_)
  generalize (w.alloc (.cells #[.int .u8 16, .int .u8 o, .int .i64 r, .int .i64 0, .int .i64 t, .int .i64 n, .int .i64 mm] 53)).drew.drew = W0 at *
  clear c1 c2 cr cs
  refine wpAnyH_take (i := 0) (v := ?_) rfl (by kernel_rfl) (by kernel_rfl) (by kernel_rfl) (fun _ _ _ h => h) (Or.inl ⟨by rfl, ?hyo0⟩) (by assumption) ?resto0
  case hyo0 => (intro W hSw; (try dsimp only at hSw); go_simp; try (with_reducible rfl))
  (try simp only [Act.put, List.setIfInBounds_toArray])
  refine wpAnyH_take (i := 2) (v := ?_) rfl (by kernel_rfl) (by kernel_rfl) (by kernel_rfl) (fun _ _ _ h => h) (Or.inl ⟨by rfl, ?hyo2⟩) (by assumption) ?resto2
  case hyo2 => (intro W hSw; (try dsimp only at hSw); go_simp; try (with_reducible rfl))
  (try simp only [Act.put])
  refine wpAnyH_take (i := 3) (v := ?_) rfl (by kernel_rfl) (by kernel_rfl) (by kernel_rfl) (fun _ _ _ h => h) (Or.inl ⟨by rfl, ?hyo3⟩) (by assumption) ?resto3
  case hyo3 => (intro W hSw; (try dsimp only at hSw); go_simp; try (with_reducible rfl))
  (try simp only [Act.put])
  refine wpAnyH_take (i := 4) (v := ?_) rfl (by kernel_rfl) (by kernel_rfl) (by kernel_rfl) (fun _ _ _ h => h) (Or.inl ⟨by rfl, ?hyo4⟩) (by assumption) ?resto4
  case hyo4 => (intro W hSw; (try dsimp only at hSw); go_simp; try (with_reducible rfl))
  (try simp only [Act.put])
  refine wpAnyH_take (i := 7) (v := ?_) rfl (by kernel_rfl) (by kernel_rfl) (by kernel_rfl) (fun _ _ _ h => h) (Or.inl ⟨by rfl, ?hyo7⟩) (by assumption) ?resto7
  case hyo7 => (intro W hSw; (try dsimp only at hSw); go_simp; try (with_reducible rfl))
  (try simp only [Act.put])
  refine wpAnyH_take (i := 8) (v := ?_) rfl (by kernel_rfl) (by kernel_rfl) (by kernel_rfl) (fun _ _ _ h => h) (Or.inl ⟨by rfl, ?hyo8⟩) (by assumption) ?resto8
  case hyo8 => (intro W hSw; (try dsimp only at hSw); go_simp; try (with_reducible rfl))
  (try simp only [Act.put])
  refine wpAnyH_take (i := 9) (v := ?_) rfl (by kernel_rfl) (by kernel_rfl) (by kernel_rfl) (fun _ _ _ h => h) (Or.inl ⟨by rfl, ?hyo9⟩) (by assumption) ?resto9
  case hyo9 => (intro W hSw; (try dsimp only at hSw); go_simp; try (with_reducible rfl))
  (try simp only [Act.put])
  refine wpAnyH_take (i := 10) (v := ?_) rfl (by kernel_rfl) (by kernel_rfl) (by kernel_rfl) (fun _ _ _ h => h) (Or.inl ⟨by rfl, ?hyo10⟩) (by assumption) ?resto10
  case hyo10 => (intro W hSw; (try dsimp only at hSw); go_simp; try (with_reducible rfl))
  (try simp only [Act.put])
  refine wpAnyH_take (i := 11) (v := ?_) rfl (by kernel_rfl) (by kernel_rfl) (by kernel_rfl) (fun _ _ _ h => h) (Or.inl ⟨by rfl, ?hyo11⟩) (by assumption) ?resto11
  case hyo11 => (intro W hSw; (try dsimp only at hSw); go_simp; try (with_reducible rfl))
  (try simp only [Act.put])
  refine wpAnyH_take (i := 12) (v := ?_) rfl (by kernel_rfl) (by kernel_rfl) (by kernel_rfl) (fun _ _ _ h => h) (Or.inl ⟨by rfl, ?hyo12⟩) (by assumption) ?resto12
  case hyo12 => (intro W hSw; (try dsimp only at hSw); go_simp; try (with_reducible rfl))
  (try simp only [Act.put])
  refine wpAnyH_take (i := 13) (v := ?_) rfl (by kernel_rfl) (by kernel_rfl) (by kernel_rfl) (fun _ _ _ h => h) (Or.inl ⟨by rfl, ?hyo13⟩) (by assumption) ?resto13
  case hyo13 => (intro W hSw; (try dsimp only at hSw); go_simp; try (with_reducible rfl))
  (try simp only [Act.put])
  refine wpAnyH_take (i := 14) (v := ?_) rfl (by kernel_rfl) (by kernel_rfl) (by kernel_rfl) (fun _ _ _ h => h) (Or.inl ⟨by rfl, ?hyo14⟩) (by assumption) ?resto14
  case hyo14 => (intro W hSw; (try dsimp only at hSw); go_simp; try (with_reducible rfl))
  (try simp only [Act.put])
  have HQ0 := Lib.hid (Below.refl (w.heap.size + 1) W0)
  have HZ0 := Lib.hid (Nat.le_refl W0.heap.size)
  refine wpAnyH_ready (rs := [1, 5, 15]) (by kernel_rfl) (by simp) ?_
  refine AllReadyH.cons rfl (fun K hK => ?_) (AllReadyH.cons rfl (fun K hK => ?_) (AllReadyH.cons rfl (fun K hK => ?_) AllReadyH.nil))
  · have hnb1 := below_box W0 (.cells #[] 2)
    have HQ1 := Lib.hid (HQ0.out.trans (hnb1.mono (Nat.le_trans HSZ.out HZ0.out)))
    have HZ1 := Lib.hid (Nat.le_trans HZ0.out hnb1.size)
    have HV1 := Lib.hid (irow_new W0)
    have HN1 := Lib.hid (show W0.heap.size ≤ W0.heap.size from HZ0.out)
    go_simp
    refine hK.out _ _ (by exact ⟨(HQ1.out.cell (p := ⟨w.heap.size, 2, none⟩) (Nat.lt_succ_self _)).trans HBX.out, (HQ1.out.cell (p := ⟨p.gr, r, none⟩) (by simp; omega)).trans (HD.out.reg hr), (HQ1.out.cell (p := ⟨g, 2, none⟩) (by simp; omega)).trans HD.out.cells.2.2.1⟩) (fun hHeld => ?_)
    clear hK K hnb1
    generalize W0.alloc (.cells #[] 2) = W1 at *
    (try simp only [Act.put, List.setIfInBounds_toArray, List.set_cons_zero, List.set_cons_succ])
    refine wpAnyH_ready (rs := [5, 15]) (by kernel_rfl) (by simp) ?_
    refine AllReadyH.cons rfl (fun K hK => ?_) (AllReadyH.cons rfl (fun K hK => ?_) AllReadyH.nil)
    · have c5 := (HQ1.out.cell (p := ⟨g, 5, none⟩) (by simp; omega)).trans HD.out.cells.2.2.2.2.2.1
      rw [HVO.out] at c5
      go_simp
      refine hK.out _ _ (by exact hHeld) (fun hHeld => ?_)
      clear hK K c5
      (try simp only [Act.put, List.setIfInBounds_toArray, List.set_cons_zero, List.set_cons_succ])
      refine wpAnyH_ready (rs := [6, 15]) (by kernel_rfl) (by simp) ?_
      refine AllReadyH.cons rfl (fun K hK => ?_) (AllReadyH.cons rfl (fun K hK => ?_) AllReadyH.nil)
      · rw [if_pos (by rfl)]
        have hI3 : ILs W1 A5 m.out := by
          obtain ⟨A', z', e', _, _, hL'⟩ := (HD.out.same (w' := W1) (fun k hS => HQ1.out.block k (by have := H.out.lt k hS; omega)) HZ1.out).out.ilsC
          rw [HVO.out] at e'
          cases e'
          exact hL'
        refine wp_app_any _ (.tmp 337) (.tmp 341) rfl _ [] rfl HV1.out A5 z5 m.out rfl HN5.out hI3 (by have := HLL.out; simp; omega) ?_
        intro v3 W3 h3 g3 o3
        have HQ3 := Lib.hid (HQ1.out.grown g3 (Nat.le_trans HSZ.out HZ1.out) (fun j e => by have e2 : W0.heap.size = j := Option.some.inj e; have := HN1.out; have := HSZ.out; omega))
        have HZ3 := Lib.hid (Nat.le_trans HZ1.out g3.size)
        have HO3 := Lib.hid (fun j (e : v3.ownBlock = some j) => show W0.heap.size ≤ j from own_new o3 HN1.out HZ1.out e)
        have HV3 := Lib.hid h3
        obtain ⟨B3, y3, hv3⟩ := h3.form
        subst hv3
        clear h3 g3 o3 hI3
        refine hK.out _ _ (by exact ⟨(HQ3.out.cell (p := ⟨w.heap.size, 2, none⟩) (Nat.lt_succ_self _)).trans HBX.out, (HQ3.out.cell (p := ⟨p.gr, r, none⟩) (by simp; omega)).trans (HD.out.reg hr), (HQ3.out.cell (p := ⟨g, 2, none⟩) (by simp; omega)).trans HD.out.cells.2.2.1⟩) (fun hHeld => ?_)
        clear hK K
        (try simp only [Act.put, List.setIfInBounds_toArray])
        refine wpAnyH_ready (rs := [15]) (by kernel_rfl) (by simp) ?_
        refine AllReadyH.cons rfl (fun K hK => ?_) AllReadyH.nil
        have hnb4 := below_box W3 (.cells #[.int .i64 (rg m r)] 2)
        have HQ4 := Lib.hid (HQ3.out.trans (hnb4.mono (Nat.le_trans HSZ.out HZ3.out)))
        have HZ4 := Lib.hid (Nat.le_trans HZ3.out hnb4.size)
        have HX4 := Lib.hid (show (W3.alloc (.cells #[.int .i64 (rg m r)] 2)).cell? ⟨W3.heap.size, 0, none⟩ = some (.int .i64 (rg m r)) from by have := heap_alloc_new W3 (.cells #[.int .i64 (rg m r)] 2); simp only [World.cell?, this]; rfl)
        have HX4l := Lib.hid (show W3.heap.size < (W3.alloc (.cells #[.int .i64 (rg m r)] 2)).heap.size by simp)
        have HXN4 := Lib.hid (show W0.heap.size ≤ W3.heap.size from HZ3.out)
        have HV4 := Lib.hid (HV3.out.below hnb4)
        go_simp
        refine hK.out _ _ (by exact ⟨(HQ4.out.cell (p := ⟨w.heap.size, 2, none⟩) (Nat.lt_succ_self _)).trans HBX.out, (HQ4.out.cell (p := ⟨p.gr, r, none⟩) (by simp; omega)).trans (HD.out.reg hr), (HQ4.out.cell (p := ⟨g, 2, none⟩) (by simp; omega)).trans HD.out.cells.2.2.1⟩) (fun hHeld => ?_)
        clear hK K hnb4
        generalize W3.alloc (.cells #[.int .i64 (rg m r)] 2) = W4 at *
        (try simp only [Act.put, List.setIfInBounds_toArray, List.set_cons_zero, List.set_cons_succ])
        refine wpAnyH_ready (rs := [16]) (by kernel_rfl) (by simp) ?_
        refine AllReadyH.cons rfl (fun K hK => ?_) AllReadyH.nil
        rw [if_pos (by rfl)]
        refine wp_app_any _ (.tmp 342) (.tmp 351) rfl _ _ rfl HV4.out (some ⟨W3.heap.size, 0, none⟩) 1 [rg m r] rfl (by simp) (one_ils HX4l.out HX4.out) (by have := HLL.out; simp; omega) ?_
        intro v5 W5 h5 g5 o5
        have HQ5 := Lib.hid (HQ4.out.grown g5 (Nat.le_trans HSZ.out HZ4.out) (fun j e => by have := HO3.out j e; have := HSZ.out; omega))
        have HZ5 := Lib.hid (Nat.le_trans HZ4.out g5.size)
        have HO5 := Lib.hid (fun j (e : v5.ownBlock = some j) => show w.heap.size ≤ j ∧ j < W5.heap.size from ⟨Nat.le_trans (Nat.le_of_succ_le HSZ.out) (own_new2 o5 HO3.out HZ4.out e), IRow.lt h5 j e⟩)
        have HV5 := Lib.hid h5
        obtain ⟨B5, y5, e5⟩ := h5.form
        have HE5 := Lib.hid (e5.trans (show _ = Value.slice B5 (m.out.length + 1) y5 from by simp))
        have HD5 := Lib.hid (HD.out.same (w' := W5) (fun k hS => HQ5.out.block k (by have := H.out.lt k hS; omega)) HZ5.out)
        obtain ⟨c0, c1, c2, c3, c4, c5, c6, c7⟩ := HD5.out.cells
        rw [HVO.out] at c5
        have fo := HD5.out.frozen 5
        have fp := HD5.out.frozen 1
        have HSS := Lib.hid (show W5.cell? ⟨w.heap.size, 2, none⟩ = some (.int .i64 r) ∧ W5.cell? ⟨p.gr, r, none⟩ = some (.int .i64 (rg m r)) ∧ W5.cell? ⟨g, 2, none⟩ = some (.slice (some ⟨p.gr, 0, none⟩) 16 16) from ⟨(HQ5.out.cell (p := ⟨w.heap.size, 2, none⟩) (Nat.lt_succ_self _)).trans HBX.out, (HQ5.out.cell (p := ⟨p.gr, r, none⟩) (by simp; omega)).trans (HD.out.reg hr), (HQ5.out.cell (p := ⟨g, 2, none⟩) (by simp; omega)).trans HD.out.cells.2.2.1⟩)
        rw [e5]
        clear h5 g5 o5 e5 c0 c2 c3 c4 c6 c7
        refine hK.out _ _ (by exact HSS.out) (fun hHeld => ?_)
        clear hK K
        (try simp only [Act.put, List.setIfInBounds_toArray])
        refine wpAnyH_take (i := 17) (v := ?_) rfl (by kernel_rfl) (by kernel_rfl) (by kernel_rfl) (fun _ _ _ h => h) (Or.inl ⟨by rfl, ?hyp5⟩) (by assumption) ?restp5
        case hyp5 => (intro W hSw; (try dsimp only at hSw); go_simp; try (with_reducible rfl))
        (try simp only [Act.put])
        refine wpAnyH_take (i := 18) (v := ?_) rfl (by kernel_rfl) (by kernel_rfl) (by kernel_rfl) (fun _ _ _ h => h) (Or.inl ⟨by rfl, ?hyq5⟩) (by assumption) ?restq5
        case hyq5 => (intro W hSw; (try dsimp only at hSw); go_simp; try (with_reducible rfl))
        (try simp only [Act.put])
        refine wpAnyH_ready (rs := [19]) (by kernel_rfl) (by simp) ?_
        refine AllReadyH.cons rfl (fun K hK => ?_) AllReadyH.nil
        go_simp
        refine hK.out _ _ (by exact ⟨(World.cell?_setCell_far _ _ _ _ (by simp; omega)).trans HSS.out.1, (World.cell?_setCell_far _ _ _ _ (by simp; omega)).trans HSS.out.2.1, (World.cell?_setCell_other _ _ _ _ (by simp)).trans HSS.out.2.2⟩) (fun hHeld => ?_)
        clear hK K
        (try simp only [Act.put, List.setIfInBounds_toArray, List.set_cons_zero, List.set_cons_succ])
        refine wpAnyH_done (by kernel_rfl) ?_ _
        go_wp2_with fail
        go_ret
        have HF := (((HD5.out.more (S' := grow S w W5) (fun k hs => .inl hs) (grow_lt H.out.lt (by have := HZ5.out; have := HSZ.out; omega))).setOut v5 (m.out ++ [rg m r]) (by simpa using HV5.out) (fun k e => ⟨.inr (HO5.out k e), still_new H.out (HO5.out k e).1⟩)).setPc next)
        rw [HE5.out] at HF
        have HKF : Keeps S w W5 := (Keeps.of_below HB.out).trans (S' := fun k => w.heap.size + 1 ≤ k) ⟨HQ5.out.os, HQ5.out.tape, HQ5.out.output, HQ5.out.size, fun k hk hn => HQ5.out.block k (by omega)⟩ (fun k hs => .inr (by omega))
        exact does_of rfl rfl HF ((HKF.st H.out.mem _ _).st H.out.mem _ _) H.out.lt (grow_of (by simp [World.setCell]))
      · have hnb6 := below_box W1 (.cells #[.int .i64 (rg m r)] 2)
        have HQ6 := Lib.hid (HQ1.out.trans (hnb6.mono (Nat.le_trans HSZ.out HZ1.out)))
        have HZ6 := Lib.hid (Nat.le_trans HZ1.out hnb6.size)
        have HX6 := Lib.hid (show (W1.alloc (.cells #[.int .i64 (rg m r)] 2)).cell? ⟨W1.heap.size, 0, none⟩ = some (.int .i64 (rg m r)) from by have := heap_alloc_new W1 (.cells #[.int .i64 (rg m r)] 2); simp only [World.cell?, this]; rfl)
        have HX6l := Lib.hid (show W1.heap.size < (W1.alloc (.cells #[.int .i64 (rg m r)] 2)).heap.size by simp)
        have HXN6 := Lib.hid (show W0.heap.size ≤ W1.heap.size from HZ1.out)
        have HXX6 := Lib.hid (show W1.heap.size ≠ W0.heap.size from Nat.ne_of_gt (HV1.out.lt _ rfl))
        have HV6 := Lib.hid (HV1.out.below hnb6)
        go_simp
        refine hK.out _ _ (by exact ⟨(HQ6.out.cell (p := ⟨w.heap.size, 2, none⟩) (Nat.lt_succ_self _)).trans HBX.out, (HQ6.out.cell (p := ⟨p.gr, r, none⟩) (by simp; omega)).trans (HD.out.reg hr), (HQ6.out.cell (p := ⟨g, 2, none⟩) (by simp; omega)).trans HD.out.cells.2.2.1⟩) (fun hHeld => ?_)
        clear hK K hnb6
        generalize W1.alloc (.cells #[.int .i64 (rg m r)] 2) = W6 at *
        (try simp only [Act.put, List.setIfInBounds_toArray, List.set_cons_zero, List.set_cons_succ])
        refine wpAnyH_ready (rs := [6]) (by kernel_rfl) (by simp) ?_
        refine AllReadyH.cons rfl (fun K hK => ?_) AllReadyH.nil
        rw [if_pos (by rfl)]
        have hI7 : ILs W6 A5 m.out := by
          obtain ⟨A', z', e', _, _, hL'⟩ := (HD.out.same (w' := W6) (fun k hS => HQ6.out.block k (by have := H.out.lt k hS; omega)) HZ6.out).out.ilsC
          rw [HVO.out] at e'
          cases e'
          exact hL'
        refine wp_app_any _ (.tmp 337) (.tmp 341) rfl _ [] rfl HV6.out A5 z5 m.out rfl HN5.out hI7 (by have := HLL.out; simp; omega) ?_
        intro v7 W7 h7 g7 o7
        have HQ7 := Lib.hid (HQ6.out.grown g7 (Nat.le_trans HSZ.out HZ6.out) (fun j e => by have e2 : W0.heap.size = j := Option.some.inj e; have := HN1.out; have := HSZ.out; omega))
        have HZ7 := Lib.hid (Nat.le_trans HZ6.out g7.size)
        have HX7 := Lib.hid ((cell_same (g7.block (W1.heap.size) HX6l.out (fun e => HXX6.out (Option.some.inj e))) 0).trans HX6.out)
        have HX7l := Lib.hid (Nat.lt_of_lt_of_le HX6l.out g7.size)
        have HO7 := Lib.hid (fun j (e : v7.ownBlock = some j) => show W0.heap.size ≤ j from own_new o7 HN1.out HZ6.out e)
        have HV7 := Lib.hid h7
        obtain ⟨B7, y7, hv7⟩ := h7.form
        subst hv7
        clear h7 g7 o7 hI7
        refine hK.out _ _ (by exact ⟨(HQ7.out.cell (p := ⟨w.heap.size, 2, none⟩) (Nat.lt_succ_self _)).trans HBX.out, (HQ7.out.cell (p := ⟨p.gr, r, none⟩) (by simp; omega)).trans (HD.out.reg hr), (HQ7.out.cell (p := ⟨g, 2, none⟩) (by simp; omega)).trans HD.out.cells.2.2.1⟩) (fun hHeld => ?_)
        clear hK K
        (try simp only [Act.put, List.setIfInBounds_toArray])
        refine wpAnyH_ready (rs := [16]) (by kernel_rfl) (by simp) ?_
        refine AllReadyH.cons rfl (fun K hK => ?_) AllReadyH.nil
        rw [if_pos (by rfl)]
        refine wp_app_any _ (.tmp 342) (.tmp 351) rfl _ _ rfl HV7.out (some ⟨W1.heap.size, 0, none⟩) 1 [rg m r] rfl (by simp) (one_ils HX7l.out HX7.out) (by have := HLL.out; simp; omega) ?_
        intro v8 W8 h8 g8 o8
        have HQ8 := Lib.hid (HQ7.out.grown g8 (Nat.le_trans HSZ.out HZ7.out) (fun j e => by have := HO7.out j e; have := HSZ.out; omega))
        have HZ8 := Lib.hid (Nat.le_trans HZ7.out g8.size)
        have HO8 := Lib.hid (fun j (e : v8.ownBlock = some j) => show w.heap.size ≤ j ∧ j < W8.heap.size from ⟨Nat.le_trans (Nat.le_of_succ_le HSZ.out) (own_new2 o8 HO7.out HZ7.out e), IRow.lt h8 j e⟩)
        have HV8 := Lib.hid h8
        obtain ⟨B8, y8, e8⟩ := h8.form
        have HE8 := Lib.hid (e8.trans (show _ = Value.slice B8 (m.out.length + 1) y8 from by simp))
        have HD8 := Lib.hid (HD.out.same (w' := W8) (fun k hS => HQ8.out.block k (by have := H.out.lt k hS; omega)) HZ8.out)
        obtain ⟨c0, c1, c2, c3, c4, c5, c6, c7⟩ := HD8.out.cells
        rw [HVO.out] at c5
        have fo := HD8.out.frozen 5
        have fp := HD8.out.frozen 1
        have HSS := Lib.hid (show W8.cell? ⟨w.heap.size, 2, none⟩ = some (.int .i64 r) ∧ W8.cell? ⟨p.gr, r, none⟩ = some (.int .i64 (rg m r)) ∧ W8.cell? ⟨g, 2, none⟩ = some (.slice (some ⟨p.gr, 0, none⟩) 16 16) from ⟨(HQ8.out.cell (p := ⟨w.heap.size, 2, none⟩) (Nat.lt_succ_self _)).trans HBX.out, (HQ8.out.cell (p := ⟨p.gr, r, none⟩) (by simp; omega)).trans (HD.out.reg hr), (HQ8.out.cell (p := ⟨g, 2, none⟩) (by simp; omega)).trans HD.out.cells.2.2.1⟩)
        rw [e8]
        clear h8 g8 o8 e8 c0 c2 c3 c4 c6 c7
        refine hK.out _ _ (by exact HSS.out) (fun hHeld => ?_)
        clear hK K
        (try simp only [Act.put])
        refine wpAnyH_take (i := 17) (v := ?_) rfl (by kernel_rfl) (by kernel_rfl) (by kernel_rfl) (fun _ _ _ h => h) (Or.inl ⟨by rfl, ?hyp8⟩) (by assumption) ?restp8
        case hyp8 => (intro W hSw; (try dsimp only at hSw); go_simp; try (with_reducible rfl))
        (try simp only [Act.put])
        refine wpAnyH_take (i := 18) (v := ?_) rfl (by kernel_rfl) (by kernel_rfl) (by kernel_rfl) (fun _ _ _ h => h) (Or.inl ⟨by rfl, ?hyq8⟩) (by assumption) ?restq8
        case hyq8 => (intro W hSw; (try dsimp only at hSw); go_simp; try (with_reducible rfl))
        (try simp only [Act.put])
        refine wpAnyH_ready (rs := [19]) (by kernel_rfl) (by simp) ?_
        refine AllReadyH.cons rfl (fun K hK => ?_) AllReadyH.nil
        go_simp
        refine hK.out _ _ (by exact ⟨(World.cell?_setCell_far _ _ _ _ (by simp; omega)).trans HSS.out.1, (World.cell?_setCell_far _ _ _ _ (by simp; omega)).trans HSS.out.2.1, (World.cell?_setCell_other _ _ _ _ (by simp)).trans HSS.out.2.2⟩) (fun hHeld => ?_)
        clear hK K
        (try simp only [Act.put, List.setIfInBounds_toArray, List.set_cons_zero, List.set_cons_succ])
        refine wpAnyH_done (by kernel_rfl) ?_ _
        go_wp2_with fail
        go_ret
        have HF := (((HD8.out.more (S' := grow S w W8) (fun k hs => .inl hs) (grow_lt H.out.lt (by have := HZ8.out; have := HSZ.out; omega))).setOut v8 (m.out ++ [rg m r]) (by simpa using HV8.out) (fun k e => ⟨.inr (HO8.out k e), still_new H.out (HO8.out k e).1⟩)).setPc next)
        rw [HE8.out] at HF
        have HKF : Keeps S w W8 := (Keeps.of_below HB.out).trans (S' := fun k => w.heap.size + 1 ≤ k) ⟨HQ8.out.os, HQ8.out.tape, HQ8.out.output, HQ8.out.size, fun k hk hn => HQ8.out.block k (by omega)⟩ (fun k hs => .inr (by omega))
        exact does_of rfl rfl HF ((HKF.st H.out.mem _ _).st H.out.mem _ _) H.out.lt (grow_of (by simp [World.setCell]))
    · have hnb9 := below_box W1 (.cells #[.int .i64 (rg m r)] 2)
      have HQ9 := Lib.hid (HQ1.out.trans (hnb9.mono (Nat.le_trans HSZ.out HZ1.out)))
      have HZ9 := Lib.hid (Nat.le_trans HZ1.out hnb9.size)
      have HX9 := Lib.hid (show (W1.alloc (.cells #[.int .i64 (rg m r)] 2)).cell? ⟨W1.heap.size, 0, none⟩ = some (.int .i64 (rg m r)) from by have := heap_alloc_new W1 (.cells #[.int .i64 (rg m r)] 2); simp only [World.cell?, this]; rfl)
      have HX9l := Lib.hid (show W1.heap.size < (W1.alloc (.cells #[.int .i64 (rg m r)] 2)).heap.size by simp)
      have HXN9 := Lib.hid (show W0.heap.size ≤ W1.heap.size from HZ1.out)
      have HXX9 := Lib.hid (show W1.heap.size ≠ W0.heap.size from Nat.ne_of_gt (HV1.out.lt _ rfl))
      have HV9 := Lib.hid (HV1.out.below hnb9)
      go_simp
      refine hK.out _ _ (by exact ⟨(HQ9.out.cell (p := ⟨w.heap.size, 2, none⟩) (Nat.lt_succ_self _)).trans HBX.out, (HQ9.out.cell (p := ⟨p.gr, r, none⟩) (by simp; omega)).trans (HD.out.reg hr), (HQ9.out.cell (p := ⟨g, 2, none⟩) (by simp; omega)).trans HD.out.cells.2.2.1⟩) (fun hHeld => ?_)
      clear hK K hnb9
      generalize W1.alloc (.cells #[.int .i64 (rg m r)] 2) = W9 at *
      (try simp only [Act.put, List.setIfInBounds_toArray, List.set_cons_zero, List.set_cons_succ])
      refine wpAnyH_ready (rs := [5]) (by kernel_rfl) (by simp) ?_
      refine AllReadyH.cons rfl (fun K hK => ?_) AllReadyH.nil
      have c5 := (HQ9.out.cell (p := ⟨g, 5, none⟩) (by simp; omega)).trans HD.out.cells.2.2.2.2.2.1
      rw [HVO.out] at c5
      go_simp
      refine hK.out _ _ (by exact hHeld) (fun hHeld => ?_)
      clear hK K c5
      (try simp only [Act.put, List.setIfInBounds_toArray, List.set_cons_zero, List.set_cons_succ])
      refine wpAnyH_ready (rs := [6]) (by kernel_rfl) (by simp) ?_
      refine AllReadyH.cons rfl (fun K hK => ?_) AllReadyH.nil
      rw [if_pos (by rfl)]
      have hI11 : ILs W9 A5 m.out := by
        obtain ⟨A', z', e', _, _, hL'⟩ := (HD.out.same (w' := W9) (fun k hS => HQ9.out.block k (by have := H.out.lt k hS; omega)) HZ9.out).out.ilsC
        rw [HVO.out] at e'
        cases e'
        exact hL'
      refine wp_app_any _ (.tmp 337) (.tmp 341) rfl _ [] rfl HV9.out A5 z5 m.out rfl HN5.out hI11 (by have := HLL.out; simp; omega) ?_
      intro v11 W11 h11 g11 o11
      have HQ11 := Lib.hid (HQ9.out.grown g11 (Nat.le_trans HSZ.out HZ9.out) (fun j e => by have e2 : W0.heap.size = j := Option.some.inj e; have := HN1.out; have := HSZ.out; omega))
      have HZ11 := Lib.hid (Nat.le_trans HZ9.out g11.size)
      have HX11 := Lib.hid ((cell_same (g11.block (W1.heap.size) HX9l.out (fun e => HXX9.out (Option.some.inj e))) 0).trans HX9.out)
      have HX11l := Lib.hid (Nat.lt_of_lt_of_le HX9l.out g11.size)
      have HO11 := Lib.hid (fun j (e : v11.ownBlock = some j) => show W0.heap.size ≤ j from own_new o11 HN1.out HZ9.out e)
      have HV11 := Lib.hid h11
      obtain ⟨B11, y11, hv11⟩ := h11.form
      subst hv11
      clear h11 g11 o11 hI11
      refine hK.out _ _ (by exact ⟨(HQ11.out.cell (p := ⟨w.heap.size, 2, none⟩) (Nat.lt_succ_self _)).trans HBX.out, (HQ11.out.cell (p := ⟨p.gr, r, none⟩) (by simp; omega)).trans (HD.out.reg hr), (HQ11.out.cell (p := ⟨g, 2, none⟩) (by simp; omega)).trans HD.out.cells.2.2.1⟩) (fun hHeld => ?_)
      clear hK K
      (try simp only [Act.put, List.setIfInBounds_toArray])
      refine wpAnyH_ready (rs := [16]) (by kernel_rfl) (by simp) ?_
      refine AllReadyH.cons rfl (fun K hK => ?_) AllReadyH.nil
      rw [if_pos (by rfl)]
      refine wp_app_any _ (.tmp 342) (.tmp 351) rfl _ _ rfl HV11.out (some ⟨W1.heap.size, 0, none⟩) 1 [rg m r] rfl (by simp) (one_ils HX11l.out HX11.out) (by have := HLL.out; simp; omega) ?_
      intro v12 W12 h12 g12 o12
      have HQ12 := Lib.hid (HQ11.out.grown g12 (Nat.le_trans HSZ.out HZ11.out) (fun j e => by have := HO11.out j e; have := HSZ.out; omega))
      have HZ12 := Lib.hid (Nat.le_trans HZ11.out g12.size)
      have HO12 := Lib.hid (fun j (e : v12.ownBlock = some j) => show w.heap.size ≤ j ∧ j < W12.heap.size from ⟨Nat.le_trans (Nat.le_of_succ_le HSZ.out) (own_new2 o12 HO11.out HZ11.out e), IRow.lt h12 j e⟩)
      have HV12 := Lib.hid h12
      obtain ⟨B12, y12, e12⟩ := h12.form
      have HE12 := Lib.hid (e12.trans (show _ = Value.slice B12 (m.out.length + 1) y12 from by simp))
      have HD12 := Lib.hid (HD.out.same (w' := W12) (fun k hS => HQ12.out.block k (by have := H.out.lt k hS; omega)) HZ12.out)
      obtain ⟨c0, c1, c2, c3, c4, c5, c6, c7⟩ := HD12.out.cells
      rw [HVO.out] at c5
      have fo := HD12.out.frozen 5
      have fp := HD12.out.frozen 1
      have HSS := Lib.hid (show W12.cell? ⟨w.heap.size, 2, none⟩ = some (.int .i64 r) ∧ W12.cell? ⟨p.gr, r, none⟩ = some (.int .i64 (rg m r)) ∧ W12.cell? ⟨g, 2, none⟩ = some (.slice (some ⟨p.gr, 0, none⟩) 16 16) from ⟨(HQ12.out.cell (p := ⟨w.heap.size, 2, none⟩) (Nat.lt_succ_self _)).trans HBX.out, (HQ12.out.cell (p := ⟨p.gr, r, none⟩) (by simp; omega)).trans (HD.out.reg hr), (HQ12.out.cell (p := ⟨g, 2, none⟩) (by simp; omega)).trans HD.out.cells.2.2.1⟩)
      rw [e12]
      clear h12 g12 o12 e12 c0 c2 c3 c4 c6 c7
      refine hK.out _ _ (by exact HSS.out) (fun hHeld => ?_)
      clear hK K
      (try simp only [Act.put])
      refine wpAnyH_take (i := 17) (v := ?_) rfl (by kernel_rfl) (by kernel_rfl) (by kernel_rfl) (fun _ _ _ h => h) (Or.inl ⟨by rfl, ?hyp12⟩) (by assumption) ?restp12
      case hyp12 => (intro W hSw; (try dsimp only at hSw); go_simp; try (with_reducible rfl))
      (try simp only [Act.put])
      refine wpAnyH_take (i := 18) (v := ?_) rfl (by kernel_rfl) (by kernel_rfl) (by kernel_rfl) (fun _ _ _ h => h) (Or.inl ⟨by rfl, ?hyq12⟩) (by assumption) ?restq12
      case hyq12 => (intro W hSw; (try dsimp only at hSw); go_simp; try (with_reducible rfl))
      (try simp only [Act.put])
      refine wpAnyH_ready (rs := [19]) (by kernel_rfl) (by simp) ?_
      refine AllReadyH.cons rfl (fun K hK => ?_) AllReadyH.nil
      go_simp
      refine hK.out _ _ (by exact ⟨(World.cell?_setCell_far _ _ _ _ (by simp; omega)).trans HSS.out.1, (World.cell?_setCell_far _ _ _ _ (by simp; omega)).trans HSS.out.2.1, (World.cell?_setCell_other _ _ _ _ (by simp)).trans HSS.out.2.2⟩) (fun hHeld => ?_)
      clear hK K
      (try simp only [Act.put, List.setIfInBounds_toArray, List.set_cons_zero, List.set_cons_succ])
      refine wpAnyH_done (by kernel_rfl) ?_ _
      go_wp2_with fail
      go_ret
      have HF := (((HD12.out.more (S' := grow S w W12) (fun k hs => .inl hs) (grow_lt H.out.lt (by have := HZ12.out; have := HSZ.out; omega))).setOut v12 (m.out ++ [rg m r]) (by simpa using HV12.out) (fun k e => ⟨.inr (HO12.out k e), still_new H.out (HO12.out k e).1⟩)).setPc next)
      rw [HE12.out] at HF
      have HKF : Keeps S w W12 := (Keeps.of_below HB.out).trans (S' := fun k => w.heap.size + 1 ≤ k) ⟨HQ12.out.os, HQ12.out.tape, HQ12.out.output, HQ12.out.size, fun k hk hn => HQ12.out.block k (by omega)⟩ (fun k hs => .inr (by omega))
      exact does_of rfl rfl HF ((HKF.st H.out.mem _ _).st H.out.mem _ _) H.out.lt (grow_of (by simp [World.setCell]))
  · have c5 := (HQ0.out.cell (p := ⟨g, 5, none⟩) (by simp; omega)).trans HD.out.cells.2.2.2.2.2.1
    rw [HVO.out] at c5
    go_simp
    refine hK.out _ _ (by exact hHeld) (fun hHeld => ?_)
    clear hK K c5
    (try simp only [Act.put, List.setIfInBounds_toArray, List.set_cons_zero, List.set_cons_succ])
    refine wpAnyH_ready (rs := [1, 15]) (by kernel_rfl) (by simp) ?_
    refine AllReadyH.cons rfl (fun K hK => ?_) (AllReadyH.cons rfl (fun K hK => ?_) AllReadyH.nil)
    · have hnb14 := below_box W0 (.cells #[] 2)
      have HQ14 := Lib.hid (HQ0.out.trans (hnb14.mono (Nat.le_trans HSZ.out HZ0.out)))
      have HZ14 := Lib.hid (Nat.le_trans HZ0.out hnb14.size)
      have HV14 := Lib.hid (irow_new W0)
      have HN14 := Lib.hid (show W0.heap.size ≤ W0.heap.size from HZ0.out)
      go_simp
      refine hK.out _ _ (by exact ⟨(HQ14.out.cell (p := ⟨w.heap.size, 2, none⟩) (Nat.lt_succ_self _)).trans HBX.out, (HQ14.out.cell (p := ⟨p.gr, r, none⟩) (by simp; omega)).trans (HD.out.reg hr), (HQ14.out.cell (p := ⟨g, 2, none⟩) (by simp; omega)).trans HD.out.cells.2.2.1⟩) (fun hHeld => ?_)
      clear hK K hnb14
      generalize W0.alloc (.cells #[] 2) = W14 at *
      (try simp only [Act.put, List.setIfInBounds_toArray, List.set_cons_zero, List.set_cons_succ])
      refine wpAnyH_ready (rs := [6, 15]) (by kernel_rfl) (by simp) ?_
      refine AllReadyH.cons rfl (fun K hK => ?_) (AllReadyH.cons rfl (fun K hK => ?_) AllReadyH.nil)
      · rw [if_pos (by rfl)]
        have hI15 : ILs W14 A5 m.out := by
          obtain ⟨A', z', e', _, _, hL'⟩ := (HD.out.same (w' := W14) (fun k hS => HQ14.out.block k (by have := H.out.lt k hS; omega)) HZ14.out).out.ilsC
          rw [HVO.out] at e'
          cases e'
          exact hL'
        refine wp_app_any _ (.tmp 337) (.tmp 341) rfl _ [] rfl HV14.out A5 z5 m.out rfl HN5.out hI15 (by have := HLL.out; simp; omega) ?_
        intro v15 W15 h15 g15 o15
        have HQ15 := Lib.hid (HQ14.out.grown g15 (Nat.le_trans HSZ.out HZ14.out) (fun j e => by have e2 : W0.heap.size = j := Option.some.inj e; have := HN14.out; have := HSZ.out; omega))
        have HZ15 := Lib.hid (Nat.le_trans HZ14.out g15.size)
        have HO15 := Lib.hid (fun j (e : v15.ownBlock = some j) => show W0.heap.size ≤ j from own_new o15 HN14.out HZ14.out e)
        have HV15 := Lib.hid h15
        obtain ⟨B15, y15, hv15⟩ := h15.form
        subst hv15
        clear h15 g15 o15 hI15
        refine hK.out _ _ (by exact ⟨(HQ15.out.cell (p := ⟨w.heap.size, 2, none⟩) (Nat.lt_succ_self _)).trans HBX.out, (HQ15.out.cell (p := ⟨p.gr, r, none⟩) (by simp; omega)).trans (HD.out.reg hr), (HQ15.out.cell (p := ⟨g, 2, none⟩) (by simp; omega)).trans HD.out.cells.2.2.1⟩) (fun hHeld => ?_)
        clear hK K
        (try simp only [Act.put, List.setIfInBounds_toArray])
        refine wpAnyH_ready (rs := [15]) (by kernel_rfl) (by simp) ?_
        refine AllReadyH.cons rfl (fun K hK => ?_) AllReadyH.nil
        have hnb16 := below_box W15 (.cells #[.int .i64 (rg m r)] 2)
        have HQ16 := Lib.hid (HQ15.out.trans (hnb16.mono (Nat.le_trans HSZ.out HZ15.out)))
        have HZ16 := Lib.hid (Nat.le_trans HZ15.out hnb16.size)
        have HX16 := Lib.hid (show (W15.alloc (.cells #[.int .i64 (rg m r)] 2)).cell? ⟨W15.heap.size, 0, none⟩ = some (.int .i64 (rg m r)) from by have := heap_alloc_new W15 (.cells #[.int .i64 (rg m r)] 2); simp only [World.cell?, this]; rfl)
        have HX16l := Lib.hid (show W15.heap.size < (W15.alloc (.cells #[.int .i64 (rg m r)] 2)).heap.size by simp)
        have HXN16 := Lib.hid (show W0.heap.size ≤ W15.heap.size from HZ15.out)
        have HV16 := Lib.hid (HV15.out.below hnb16)
        go_simp
        refine hK.out _ _ (by exact ⟨(HQ16.out.cell (p := ⟨w.heap.size, 2, none⟩) (Nat.lt_succ_self _)).trans HBX.out, (HQ16.out.cell (p := ⟨p.gr, r, none⟩) (by simp; omega)).trans (HD.out.reg hr), (HQ16.out.cell (p := ⟨g, 2, none⟩) (by simp; omega)).trans HD.out.cells.2.2.1⟩) (fun hHeld => ?_)
        clear hK K hnb16
        generalize W15.alloc (.cells #[.int .i64 (rg m r)] 2) = W16 at *
        (try simp only [Act.put, List.setIfInBounds_toArray, List.set_cons_zero, List.set_cons_succ])
        refine wpAnyH_ready (rs := [16]) (by kernel_rfl) (by simp) ?_
        refine AllReadyH.cons rfl (fun K hK => ?_) AllReadyH.nil
        rw [if_pos (by rfl)]
        refine wp_app_any _ (.tmp 342) (.tmp 351) rfl _ _ rfl HV16.out (some ⟨W15.heap.size, 0, none⟩) 1 [rg m r] rfl (by simp) (one_ils HX16l.out HX16.out) (by have := HLL.out; simp; omega) ?_
        intro v17 W17 h17 g17 o17
        have HQ17 := Lib.hid (HQ16.out.grown g17 (Nat.le_trans HSZ.out HZ16.out) (fun j e => by have := HO15.out j e; have := HSZ.out; omega))
        have HZ17 := Lib.hid (Nat.le_trans HZ16.out g17.size)
        have HO17 := Lib.hid (fun j (e : v17.ownBlock = some j) => show w.heap.size ≤ j ∧ j < W17.heap.size from ⟨Nat.le_trans (Nat.le_of_succ_le HSZ.out) (own_new2 o17 HO15.out HZ16.out e), IRow.lt h17 j e⟩)
        have HV17 := Lib.hid h17
        obtain ⟨B17, y17, e17⟩ := h17.form
        have HE17 := Lib.hid (e17.trans (show _ = Value.slice B17 (m.out.length + 1) y17 from by simp))
        have HD17 := Lib.hid (HD.out.same (w' := W17) (fun k hS => HQ17.out.block k (by have := H.out.lt k hS; omega)) HZ17.out)
        obtain ⟨c0, c1, c2, c3, c4, c5, c6, c7⟩ := HD17.out.cells
        rw [HVO.out] at c5
        have fo := HD17.out.frozen 5
        have fp := HD17.out.frozen 1
        have HSS := Lib.hid (show W17.cell? ⟨w.heap.size, 2, none⟩ = some (.int .i64 r) ∧ W17.cell? ⟨p.gr, r, none⟩ = some (.int .i64 (rg m r)) ∧ W17.cell? ⟨g, 2, none⟩ = some (.slice (some ⟨p.gr, 0, none⟩) 16 16) from ⟨(HQ17.out.cell (p := ⟨w.heap.size, 2, none⟩) (Nat.lt_succ_self _)).trans HBX.out, (HQ17.out.cell (p := ⟨p.gr, r, none⟩) (by simp; omega)).trans (HD.out.reg hr), (HQ17.out.cell (p := ⟨g, 2, none⟩) (by simp; omega)).trans HD.out.cells.2.2.1⟩)
        rw [e17]
        clear h17 g17 o17 e17 c0 c2 c3 c4 c6 c7
        refine hK.out _ _ (by exact HSS.out) (fun hHeld => ?_)
        clear hK K
        (try simp only [Act.put, List.setIfInBounds_toArray])
        refine wpAnyH_take (i := 17) (v := ?_) rfl (by kernel_rfl) (by kernel_rfl) (by kernel_rfl) (fun _ _ _ h => h) (Or.inl ⟨by rfl, ?hyp17⟩) (by assumption) ?restp17
        case hyp17 => (intro W hSw; (try dsimp only at hSw); go_simp; try (with_reducible rfl))
        (try simp only [Act.put])
        refine wpAnyH_take (i := 18) (v := ?_) rfl (by kernel_rfl) (by kernel_rfl) (by kernel_rfl) (fun _ _ _ h => h) (Or.inl ⟨by rfl, ?hyq17⟩) (by assumption) ?restq17
        case hyq17 => (intro W hSw; (try dsimp only at hSw); go_simp; try (with_reducible rfl))
        (try simp only [Act.put])
        refine wpAnyH_ready (rs := [19]) (by kernel_rfl) (by simp) ?_
        refine AllReadyH.cons rfl (fun K hK => ?_) AllReadyH.nil
        go_simp
        refine hK.out _ _ (by exact ⟨(World.cell?_setCell_far _ _ _ _ (by simp; omega)).trans HSS.out.1, (World.cell?_setCell_far _ _ _ _ (by simp; omega)).trans HSS.out.2.1, (World.cell?_setCell_other _ _ _ _ (by simp)).trans HSS.out.2.2⟩) (fun hHeld => ?_)
        clear hK K
        (try simp only [Act.put, List.setIfInBounds_toArray, List.set_cons_zero, List.set_cons_succ])
        refine wpAnyH_done (by kernel_rfl) ?_ _
        go_wp2_with fail
        go_ret
        have HF := (((HD17.out.more (S' := grow S w W17) (fun k hs => .inl hs) (grow_lt H.out.lt (by have := HZ17.out; have := HSZ.out; omega))).setOut v17 (m.out ++ [rg m r]) (by simpa using HV17.out) (fun k e => ⟨.inr (HO17.out k e), still_new H.out (HO17.out k e).1⟩)).setPc next)
        rw [HE17.out] at HF
        have HKF : Keeps S w W17 := (Keeps.of_below HB.out).trans (S' := fun k => w.heap.size + 1 ≤ k) ⟨HQ17.out.os, HQ17.out.tape, HQ17.out.output, HQ17.out.size, fun k hk hn => HQ17.out.block k (by omega)⟩ (fun k hs => .inr (by omega))
        exact does_of rfl rfl HF ((HKF.st H.out.mem _ _).st H.out.mem _ _) H.out.lt (grow_of (by simp [World.setCell]))
      · have hnb18 := below_box W14 (.cells #[.int .i64 (rg m r)] 2)
        have HQ18 := Lib.hid (HQ14.out.trans (hnb18.mono (Nat.le_trans HSZ.out HZ14.out)))
        have HZ18 := Lib.hid (Nat.le_trans HZ14.out hnb18.size)
        have HX18 := Lib.hid (show (W14.alloc (.cells #[.int .i64 (rg m r)] 2)).cell? ⟨W14.heap.size, 0, none⟩ = some (.int .i64 (rg m r)) from by have := heap_alloc_new W14 (.cells #[.int .i64 (rg m r)] 2); simp only [World.cell?, this]; rfl)
        have HX18l := Lib.hid (show W14.heap.size < (W14.alloc (.cells #[.int .i64 (rg m r)] 2)).heap.size by simp)
        have HXN18 := Lib.hid (show W0.heap.size ≤ W14.heap.size from HZ14.out)
        have HXX18 := Lib.hid (show W14.heap.size ≠ W0.heap.size from Nat.ne_of_gt (HV14.out.lt _ rfl))
        have HV18 := Lib.hid (HV14.out.below hnb18)
        go_simp
        refine hK.out _ _ (by exact ⟨(HQ18.out.cell (p := ⟨w.heap.size, 2, none⟩) (Nat.lt_succ_self _)).trans HBX.out, (HQ18.out.cell (p := ⟨p.gr, r, none⟩) (by simp; omega)).trans (HD.out.reg hr), (HQ18.out.cell (p := ⟨g, 2, none⟩) (by simp; omega)).trans HD.out.cells.2.2.1⟩) (fun hHeld => ?_)
        clear hK K hnb18
        generalize W14.alloc (.cells #[.int .i64 (rg m r)] 2) = W18 at *
        (try simp only [Act.put, List.setIfInBounds_toArray, List.set_cons_zero, List.set_cons_succ])
        refine wpAnyH_ready (rs := [6]) (by kernel_rfl) (by simp) ?_
        refine AllReadyH.cons rfl (fun K hK => ?_) AllReadyH.nil
        rw [if_pos (by rfl)]
        have hI19 : ILs W18 A5 m.out := by
          obtain ⟨A', z', e', _, _, hL'⟩ := (HD.out.same (w' := W18) (fun k hS => HQ18.out.block k (by have := H.out.lt k hS; omega)) HZ18.out).out.ilsC
          rw [HVO.out] at e'
          cases e'
          exact hL'
        refine wp_app_any _ (.tmp 337) (.tmp 341) rfl _ [] rfl HV18.out A5 z5 m.out rfl HN5.out hI19 (by have := HLL.out; simp; omega) ?_
        intro v19 W19 h19 g19 o19
        have HQ19 := Lib.hid (HQ18.out.grown g19 (Nat.le_trans HSZ.out HZ18.out) (fun j e => by have e2 : W0.heap.size = j := Option.some.inj e; have := HN14.out; have := HSZ.out; omega))
        have HZ19 := Lib.hid (Nat.le_trans HZ18.out g19.size)
        have HX19 := Lib.hid ((cell_same (g19.block (W14.heap.size) HX18l.out (fun e => HXX18.out (Option.some.inj e))) 0).trans HX18.out)
        have HX19l := Lib.hid (Nat.lt_of_lt_of_le HX18l.out g19.size)
        have HO19 := Lib.hid (fun j (e : v19.ownBlock = some j) => show W0.heap.size ≤ j from own_new o19 HN14.out HZ18.out e)
        have HV19 := Lib.hid h19
        obtain ⟨B19, y19, hv19⟩ := h19.form
        subst hv19
        clear h19 g19 o19 hI19
        refine hK.out _ _ (by exact ⟨(HQ19.out.cell (p := ⟨w.heap.size, 2, none⟩) (Nat.lt_succ_self _)).trans HBX.out, (HQ19.out.cell (p := ⟨p.gr, r, none⟩) (by simp; omega)).trans (HD.out.reg hr), (HQ19.out.cell (p := ⟨g, 2, none⟩) (by simp; omega)).trans HD.out.cells.2.2.1⟩) (fun hHeld => ?_)
        clear hK K
        (try simp only [Act.put, List.setIfInBounds_toArray])
        refine wpAnyH_ready (rs := [16]) (by kernel_rfl) (by simp) ?_
        refine AllReadyH.cons rfl (fun K hK => ?_) AllReadyH.nil
        rw [if_pos (by rfl)]
        refine wp_app_any _ (.tmp 342) (.tmp 351) rfl _ _ rfl HV19.out (some ⟨W14.heap.size, 0, none⟩) 1 [rg m r] rfl (by simp) (one_ils HX19l.out HX19.out) (by have := HLL.out; simp; omega) ?_
        intro v20 W20 h20 g20 o20
        have HQ20 := Lib.hid (HQ19.out.grown g20 (Nat.le_trans HSZ.out HZ19.out) (fun j e => by have := HO19.out j e; have := HSZ.out; omega))
        have HZ20 := Lib.hid (Nat.le_trans HZ19.out g20.size)
        have HO20 := Lib.hid (fun j (e : v20.ownBlock = some j) => show w.heap.size ≤ j ∧ j < W20.heap.size from ⟨Nat.le_trans (Nat.le_of_succ_le HSZ.out) (own_new2 o20 HO19.out HZ19.out e), IRow.lt h20 j e⟩)
        have HV20 := Lib.hid h20
        obtain ⟨B20, y20, e20⟩ := h20.form
        have HE20 := Lib.hid (e20.trans (show _ = Value.slice B20 (m.out.length + 1) y20 from by simp))
        have HD20 := Lib.hid (HD.out.same (w' := W20) (fun k hS => HQ20.out.block k (by have := H.out.lt k hS; omega)) HZ20.out)
        obtain ⟨c0, c1, c2, c3, c4, c5, c6, c7⟩ := HD20.out.cells
        rw [HVO.out] at c5
        have fo := HD20.out.frozen 5
        have fp := HD20.out.frozen 1
        have HSS := Lib.hid (show W20.cell? ⟨w.heap.size, 2, none⟩ = some (.int .i64 r) ∧ W20.cell? ⟨p.gr, r, none⟩ = some (.int .i64 (rg m r)) ∧ W20.cell? ⟨g, 2, none⟩ = some (.slice (some ⟨p.gr, 0, none⟩) 16 16) from ⟨(HQ20.out.cell (p := ⟨w.heap.size, 2, none⟩) (Nat.lt_succ_self _)).trans HBX.out, (HQ20.out.cell (p := ⟨p.gr, r, none⟩) (by simp; omega)).trans (HD.out.reg hr), (HQ20.out.cell (p := ⟨g, 2, none⟩) (by simp; omega)).trans HD.out.cells.2.2.1⟩)
        rw [e20]
        clear h20 g20 o20 e20 c0 c2 c3 c4 c6 c7
        refine hK.out _ _ (by exact HSS.out) (fun hHeld => ?_)
        clear hK K
        (try simp only [Act.put])
        refine wpAnyH_take (i := 17) (v := ?_) rfl (by kernel_rfl) (by kernel_rfl) (by kernel_rfl) (fun _ _ _ h => h) (Or.inl ⟨by rfl, ?hyp20⟩) (by assumption) ?restp20
        case hyp20 => (intro W hSw; (try dsimp only at hSw); go_simp; try (with_reducible rfl))
        (try simp only [Act.put])
        refine wpAnyH_take (i := 18) (v := ?_) rfl (by kernel_rfl) (by kernel_rfl) (by kernel_rfl) (fun _ _ _ h => h) (Or.inl ⟨by rfl, ?hyq20⟩) (by assumption) ?restq20
        case hyq20 => (intro W hSw; (try dsimp only at hSw); go_simp; try (with_reducible rfl))
        (try simp only [Act.put])
        refine wpAnyH_ready (rs := [19]) (by kernel_rfl) (by simp) ?_
        refine AllReadyH.cons rfl (fun K hK => ?_) AllReadyH.nil
        go_simp
        refine hK.out _ _ (by exact ⟨(World.cell?_setCell_far _ _ _ _ (by simp; omega)).trans HSS.out.1, (World.cell?_setCell_far _ _ _ _ (by simp; omega)).trans HSS.out.2.1, (World.cell?_setCell_other _ _ _ _ (by simp)).trans HSS.out.2.2⟩) (fun hHeld => ?_)
        clear hK K
        (try simp only [Act.put, List.setIfInBounds_toArray, List.set_cons_zero, List.set_cons_succ])
        refine wpAnyH_done (by kernel_rfl) ?_ _
        go_wp2_with fail
        go_ret
        have HF := (((HD20.out.more (S' := grow S w W20) (fun k hs => .inl hs) (grow_lt H.out.lt (by have := HZ20.out; have := HSZ.out; omega))).setOut v20 (m.out ++ [rg m r]) (by simpa using HV20.out) (fun k e => ⟨.inr (HO20.out k e), still_new H.out (HO20.out k e).1⟩)).setPc next)
        rw [HE20.out] at HF
        have HKF : Keeps S w W20 := (Keeps.of_below HB.out).trans (S' := fun k => w.heap.size + 1 ≤ k) ⟨HQ20.out.os, HQ20.out.tape, HQ20.out.output, HQ20.out.size, fun k hk hn => HQ20.out.block k (by omega)⟩ (fun k hs => .inr (by omega))
        exact does_of rfl rfl HF ((HKF.st H.out.mem _ _).st H.out.mem _ _) H.out.lt (grow_of (by simp [World.setCell]))
    · have hnb21 := below_box W0 (.cells #[.int .i64 (rg m r)] 2)
      have HQ21 := Lib.hid (HQ0.out.trans (hnb21.mono (Nat.le_trans HSZ.out HZ0.out)))
      have HZ21 := Lib.hid (Nat.le_trans HZ0.out hnb21.size)
      have HX21 := Lib.hid (show (W0.alloc (.cells #[.int .i64 (rg m r)] 2)).cell? ⟨W0.heap.size, 0, none⟩ = some (.int .i64 (rg m r)) from by have := heap_alloc_new W0 (.cells #[.int .i64 (rg m r)] 2); simp only [World.cell?, this]; rfl)
      have HX21l := Lib.hid (show W0.heap.size < (W0.alloc (.cells #[.int .i64 (rg m r)] 2)).heap.size by simp)
      have HXN21 := Lib.hid (show W0.heap.size ≤ W0.heap.size from HZ0.out)
      go_simp
      refine hK.out _ _ (by exact ⟨(HQ21.out.cell (p := ⟨w.heap.size, 2, none⟩) (Nat.lt_succ_self _)).trans HBX.out, (HQ21.out.cell (p := ⟨p.gr, r, none⟩) (by simp; omega)).trans (HD.out.reg hr), (HQ21.out.cell (p := ⟨g, 2, none⟩) (by simp; omega)).trans HD.out.cells.2.2.1⟩) (fun hHeld => ?_)
      clear hK K hnb21
      generalize W0.alloc (.cells #[.int .i64 (rg m r)] 2) = W21 at *
      (try simp only [Act.put, List.setIfInBounds_toArray, List.set_cons_zero, List.set_cons_succ])
      refine wpAnyH_ready (rs := [1]) (by kernel_rfl) (by simp) ?_
      refine AllReadyH.cons rfl (fun K hK => ?_) AllReadyH.nil
      have hnb22 := below_box W21 (.cells #[] 2)
      have HQ22 := Lib.hid (HQ21.out.trans (hnb22.mono (Nat.le_trans HSZ.out HZ21.out)))
      have HZ22 := Lib.hid (Nat.le_trans HZ21.out hnb22.size)
      have HV22 := Lib.hid (irow_new W21)
      have HN22 := Lib.hid (show W0.heap.size ≤ W21.heap.size from HZ21.out)
      have HX22 := Lib.hid ((hnb22.cell (p := ⟨W0.heap.size, 0, none⟩) HX21l.out).trans HX21.out)
      have HXX22 := Lib.hid (show W0.heap.size ≠ W21.heap.size from Nat.ne_of_lt HX21l.out)
      have HX22l := Lib.hid (Nat.lt_of_lt_of_le HX21l.out hnb22.size)
      go_simp
      refine hK.out _ _ (by exact ⟨(HQ22.out.cell (p := ⟨w.heap.size, 2, none⟩) (Nat.lt_succ_self _)).trans HBX.out, (HQ22.out.cell (p := ⟨p.gr, r, none⟩) (by simp; omega)).trans (HD.out.reg hr), (HQ22.out.cell (p := ⟨g, 2, none⟩) (by simp; omega)).trans HD.out.cells.2.2.1⟩) (fun hHeld => ?_)
      clear hK K hnb22
      generalize W21.alloc (.cells #[] 2) = W22 at *
      (try simp only [Act.put, List.setIfInBounds_toArray, List.set_cons_zero, List.set_cons_succ])
      refine wpAnyH_ready (rs := [6]) (by kernel_rfl) (by simp) ?_
      refine AllReadyH.cons rfl (fun K hK => ?_) AllReadyH.nil
      rw [if_pos (by rfl)]
      have hI23 : ILs W22 A5 m.out := by
        obtain ⟨A', z', e', _, _, hL'⟩ := (HD.out.same (w' := W22) (fun k hS => HQ22.out.block k (by have := H.out.lt k hS; omega)) HZ22.out).out.ilsC
        rw [HVO.out] at e'
        cases e'
        exact hL'
      refine wp_app_any _ (.tmp 337) (.tmp 341) rfl _ [] rfl HV22.out A5 z5 m.out rfl HN5.out hI23 (by have := HLL.out; simp; omega) ?_
      intro v23 W23 h23 g23 o23
      have HQ23 := Lib.hid (HQ22.out.grown g23 (Nat.le_trans HSZ.out HZ22.out) (fun j e => by have e2 : W21.heap.size = j := Option.some.inj e; have := HN22.out; have := HSZ.out; omega))
      have HZ23 := Lib.hid (Nat.le_trans HZ22.out g23.size)
      have HX23 := Lib.hid ((cell_same (g23.block (W0.heap.size) HX22l.out (fun e => HXX22.out (Option.some.inj e))) 0).trans HX22.out)
      have HX23l := Lib.hid (Nat.lt_of_lt_of_le HX22l.out g23.size)
      have HO23 := Lib.hid (fun j (e : v23.ownBlock = some j) => show W0.heap.size ≤ j from own_new o23 HN22.out HZ22.out e)
      have HV23 := Lib.hid h23
      obtain ⟨B23, y23, hv23⟩ := h23.form
      subst hv23
      clear h23 g23 o23 hI23
      refine hK.out _ _ (by exact ⟨(HQ23.out.cell (p := ⟨w.heap.size, 2, none⟩) (Nat.lt_succ_self _)).trans HBX.out, (HQ23.out.cell (p := ⟨p.gr, r, none⟩) (by simp; omega)).trans (HD.out.reg hr), (HQ23.out.cell (p := ⟨g, 2, none⟩) (by simp; omega)).trans HD.out.cells.2.2.1⟩) (fun hHeld => ?_)
      clear hK K
      (try simp only [Act.put, List.setIfInBounds_toArray])
      refine wpAnyH_ready (rs := [16]) (by kernel_rfl) (by simp) ?_
      refine AllReadyH.cons rfl (fun K hK => ?_) AllReadyH.nil
      rw [if_pos (by rfl)]
      refine wp_app_any _ (.tmp 342) (.tmp 351) rfl _ _ rfl HV23.out (some ⟨W0.heap.size, 0, none⟩) 1 [rg m r] rfl (by simp) (one_ils HX23l.out HX23.out) (by have := HLL.out; simp; omega) ?_
      intro v24 W24 h24 g24 o24
      have HQ24 := Lib.hid (HQ23.out.grown g24 (Nat.le_trans HSZ.out HZ23.out) (fun j e => by have := HO23.out j e; have := HSZ.out; omega))
      have HZ24 := Lib.hid (Nat.le_trans HZ23.out g24.size)
      have HO24 := Lib.hid (fun j (e : v24.ownBlock = some j) => show w.heap.size ≤ j ∧ j < W24.heap.size from ⟨Nat.le_trans (Nat.le_of_succ_le HSZ.out) (own_new2 o24 HO23.out HZ23.out e), IRow.lt h24 j e⟩)
      have HV24 := Lib.hid h24
      obtain ⟨B24, y24, e24⟩ := h24.form
      have HE24 := Lib.hid (e24.trans (show _ = Value.slice B24 (m.out.length + 1) y24 from by simp))
      have HD24 := Lib.hid (HD.out.same (w' := W24) (fun k hS => HQ24.out.block k (by have := H.out.lt k hS; omega)) HZ24.out)
      obtain ⟨c0, c1, c2, c3, c4, c5, c6, c7⟩ := HD24.out.cells
      rw [HVO.out] at c5
      have fo := HD24.out.frozen 5
      have fp := HD24.out.frozen 1
      have HSS := Lib.hid (show W24.cell? ⟨w.heap.size, 2, none⟩ = some (.int .i64 r) ∧ W24.cell? ⟨p.gr, r, none⟩ = some (.int .i64 (rg m r)) ∧ W24.cell? ⟨g, 2, none⟩ = some (.slice (some ⟨p.gr, 0, none⟩) 16 16) from ⟨(HQ24.out.cell (p := ⟨w.heap.size, 2, none⟩) (Nat.lt_succ_self _)).trans HBX.out, (HQ24.out.cell (p := ⟨p.gr, r, none⟩) (by simp; omega)).trans (HD.out.reg hr), (HQ24.out.cell (p := ⟨g, 2, none⟩) (by simp; omega)).trans HD.out.cells.2.2.1⟩)
      rw [e24]
      clear h24 g24 o24 e24 c0 c2 c3 c4 c6 c7
      refine hK.out _ _ (by exact HSS.out) (fun hHeld => ?_)
      clear hK K
      (try simp only [Act.put])
      refine wpAnyH_take (i := 17) (v := ?_) rfl (by kernel_rfl) (by kernel_rfl) (by kernel_rfl) (fun _ _ _ h => h) (Or.inl ⟨by rfl, ?hyp24⟩) (by assumption) ?restp24
      case hyp24 => (intro W hSw; (try dsimp only at hSw); go_simp; try (with_reducible rfl))
      (try simp only [Act.put])
      refine wpAnyH_take (i := 18) (v := ?_) rfl (by kernel_rfl) (by kernel_rfl) (by kernel_rfl) (fun _ _ _ h => h) (Or.inl ⟨by rfl, ?hyq24⟩) (by assumption) ?restq24
      case hyq24 => (intro W hSw; (try dsimp only at hSw); go_simp; try (with_reducible rfl))
      (try simp only [Act.put])
      refine wpAnyH_ready (rs := [19]) (by kernel_rfl) (by simp) ?_
      refine AllReadyH.cons rfl (fun K hK => ?_) AllReadyH.nil
      go_simp
      refine hK.out _ _ (by exact ⟨(World.cell?_setCell_far _ _ _ _ (by simp; omega)).trans HSS.out.1, (World.cell?_setCell_far _ _ _ _ (by simp; omega)).trans HSS.out.2.1, (World.cell?_setCell_other _ _ _ _ (by simp)).trans HSS.out.2.2⟩) (fun hHeld => ?_)
      clear hK K
      (try simp only [Act.put, List.setIfInBounds_toArray, List.set_cons_zero, List.set_cons_succ])
      refine wpAnyH_done (by kernel_rfl) ?_ _
      go_wp2_with fail
      go_ret
      have HF := (((HD24.out.more (S' := grow S w W24) (fun k hs => .inl hs) (grow_lt H.out.lt (by have := HZ24.out; have := HSZ.out; omega))).setOut v24 (m.out ++ [rg m r]) (by simpa using HV24.out) (fun k e => ⟨.inr (HO24.out k e), still_new H.out (HO24.out k e).1⟩)).setPc next)
      rw [HE24.out] at HF
      have HKF : Keeps S w W24 := (Keeps.of_below HB.out).trans (S' := fun k => w.heap.size + 1 ≤ k) ⟨HQ24.out.os, HQ24.out.tape, HQ24.out.output, HQ24.out.size, fun k hk hn => HQ24.out.block k (by omega)⟩ (fun k hs => .inr (by omega))
      exact does_of rfl rfl HF ((HKF.st H.out.mem _ _).st H.out.mem _ _) H.out.lt (grow_of (by simp [World.setCell]))
  · have hnb25 := below_box W0 (.cells #[.int .i64 (rg m r)] 2)
    have HQ25 := Lib.hid (HQ0.out.trans (hnb25.mono (Nat.le_trans HSZ.out HZ0.out)))
    have HZ25 := Lib.hid (Nat.le_trans HZ0.out hnb25.size)
    have HX25 := Lib.hid (show (W0.alloc (.cells #[.int .i64 (rg m r)] 2)).cell? ⟨W0.heap.size, 0, none⟩ = some (.int .i64 (rg m r)) from by have := heap_alloc_new W0 (.cells #[.int .i64 (rg m r)] 2); simp only [World.cell?, this]; rfl)
    have HX25l := Lib.hid (show W0.heap.size < (W0.alloc (.cells #[.int .i64 (rg m r)] 2)).heap.size by simp)
    have HXN25 := Lib.hid (show W0.heap.size ≤ W0.heap.size from HZ0.out)
    go_simp
    refine hK.out _ _ (by exact ⟨(HQ25.out.cell (p := ⟨w.heap.size, 2, none⟩) (Nat.lt_succ_self _)).trans HBX.out, (HQ25.out.cell (p := ⟨p.gr, r, none⟩) (by simp; omega)).trans (HD.out.reg hr), (HQ25.out.cell (p := ⟨g, 2, none⟩) (by simp; omega)).trans HD.out.cells.2.2.1⟩) (fun hHeld => ?_)
    clear hK K hnb25
    generalize W0.alloc (.cells #[.int .i64 (rg m r)] 2) = W25 at *
    (try simp only [Act.put, List.setIfInBounds_toArray, List.set_cons_zero, List.set_cons_succ])
    refine wpAnyH_ready (rs := [1, 5]) (by kernel_rfl) (by simp) ?_
    refine AllReadyH.cons rfl (fun K hK => ?_) (AllReadyH.cons rfl (fun K hK => ?_) AllReadyH.nil)
    · have hnb26 := below_box W25 (.cells #[] 2)
      have HQ26 := Lib.hid (HQ25.out.trans (hnb26.mono (Nat.le_trans HSZ.out HZ25.out)))
      have HZ26 := Lib.hid (Nat.le_trans HZ25.out hnb26.size)
      have HV26 := Lib.hid (irow_new W25)
      have HN26 := Lib.hid (show W0.heap.size ≤ W25.heap.size from HZ25.out)
      have HX26 := Lib.hid ((hnb26.cell (p := ⟨W0.heap.size, 0, none⟩) HX25l.out).trans HX25.out)
      have HXX26 := Lib.hid (show W0.heap.size ≠ W25.heap.size from Nat.ne_of_lt HX25l.out)
      have HX26l := Lib.hid (Nat.lt_of_lt_of_le HX25l.out hnb26.size)
      go_simp
      refine hK.out _ _ (by exact ⟨(HQ26.out.cell (p := ⟨w.heap.size, 2, none⟩) (Nat.lt_succ_self _)).trans HBX.out, (HQ26.out.cell (p := ⟨p.gr, r, none⟩) (by simp; omega)).trans (HD.out.reg hr), (HQ26.out.cell (p := ⟨g, 2, none⟩) (by simp; omega)).trans HD.out.cells.2.2.1⟩) (fun hHeld => ?_)
      clear hK K hnb26
      generalize W25.alloc (.cells #[] 2) = W26 at *
      (try simp only [Act.put, List.setIfInBounds_toArray, List.set_cons_zero, List.set_cons_succ])
      refine wpAnyH_ready (rs := [5]) (by kernel_rfl) (by simp) ?_
      refine AllReadyH.cons rfl (fun K hK => ?_) AllReadyH.nil
      have c5 := (HQ26.out.cell (p := ⟨g, 5, none⟩) (by simp; omega)).trans HD.out.cells.2.2.2.2.2.1
      rw [HVO.out] at c5
      go_simp
      refine hK.out _ _ (by exact hHeld) (fun hHeld => ?_)
      clear hK K c5
      (try simp only [Act.put, List.setIfInBounds_toArray, List.set_cons_zero, List.set_cons_succ])
      refine wpAnyH_ready (rs := [6]) (by kernel_rfl) (by simp) ?_
      refine AllReadyH.cons rfl (fun K hK => ?_) AllReadyH.nil
      rw [if_pos (by rfl)]
      have hI28 : ILs W26 A5 m.out := by
        obtain ⟨A', z', e', _, _, hL'⟩ := (HD.out.same (w' := W26) (fun k hS => HQ26.out.block k (by have := H.out.lt k hS; omega)) HZ26.out).out.ilsC
        rw [HVO.out] at e'
        cases e'
        exact hL'
      refine wp_app_any _ (.tmp 337) (.tmp 341) rfl _ [] rfl HV26.out A5 z5 m.out rfl HN5.out hI28 (by have := HLL.out; simp; omega) ?_
      intro v28 W28 h28 g28 o28
      have HQ28 := Lib.hid (HQ26.out.grown g28 (Nat.le_trans HSZ.out HZ26.out) (fun j e => by have e2 : W25.heap.size = j := Option.some.inj e; have := HN26.out; have := HSZ.out; omega))
      have HZ28 := Lib.hid (Nat.le_trans HZ26.out g28.size)
      have HX28 := Lib.hid ((cell_same (g28.block (W0.heap.size) HX26l.out (fun e => HXX26.out (Option.some.inj e))) 0).trans HX26.out)
      have HX28l := Lib.hid (Nat.lt_of_lt_of_le HX26l.out g28.size)
      have HO28 := Lib.hid (fun j (e : v28.ownBlock = some j) => show W0.heap.size ≤ j from own_new o28 HN26.out HZ26.out e)
      have HV28 := Lib.hid h28
      obtain ⟨B28, y28, hv28⟩ := h28.form
      subst hv28
      clear h28 g28 o28 hI28
      refine hK.out _ _ (by exact ⟨(HQ28.out.cell (p := ⟨w.heap.size, 2, none⟩) (Nat.lt_succ_self _)).trans HBX.out, (HQ28.out.cell (p := ⟨p.gr, r, none⟩) (by simp; omega)).trans (HD.out.reg hr), (HQ28.out.cell (p := ⟨g, 2, none⟩) (by simp; omega)).trans HD.out.cells.2.2.1⟩) (fun hHeld => ?_)
      clear hK K
      (try simp only [Act.put, List.setIfInBounds_toArray])
      refine wpAnyH_ready (rs := [16]) (by kernel_rfl) (by simp) ?_
      refine AllReadyH.cons rfl (fun K hK => ?_) AllReadyH.nil
      rw [if_pos (by rfl)]
      refine wp_app_any _ (.tmp 342) (.tmp 351) rfl _ _ rfl HV28.out (some ⟨W0.heap.size, 0, none⟩) 1 [rg m r] rfl (by simp) (one_ils HX28l.out HX28.out) (by have := HLL.out; simp; omega) ?_
      intro v29 W29 h29 g29 o29
      have HQ29 := Lib.hid (HQ28.out.grown g29 (Nat.le_trans HSZ.out HZ28.out) (fun j e => by have := HO28.out j e; have := HSZ.out; omega))
      have HZ29 := Lib.hid (Nat.le_trans HZ28.out g29.size)
      have HO29 := Lib.hid (fun j (e : v29.ownBlock = some j) => show w.heap.size ≤ j ∧ j < W29.heap.size from ⟨Nat.le_trans (Nat.le_of_succ_le HSZ.out) (own_new2 o29 HO28.out HZ28.out e), IRow.lt h29 j e⟩)
      have HV29 := Lib.hid h29
      obtain ⟨B29, y29, e29⟩ := h29.form
      have HE29 := Lib.hid (e29.trans (show _ = Value.slice B29 (m.out.length + 1) y29 from by simp))
      have HD29 := Lib.hid (HD.out.same (w' := W29) (fun k hS => HQ29.out.block k (by have := H.out.lt k hS; omega)) HZ29.out)
      obtain ⟨c0, c1, c2, c3, c4, c5, c6, c7⟩ := HD29.out.cells
      rw [HVO.out] at c5
      have fo := HD29.out.frozen 5
      have fp := HD29.out.frozen 1
      have HSS := Lib.hid (show W29.cell? ⟨w.heap.size, 2, none⟩ = some (.int .i64 r) ∧ W29.cell? ⟨p.gr, r, none⟩ = some (.int .i64 (rg m r)) ∧ W29.cell? ⟨g, 2, none⟩ = some (.slice (some ⟨p.gr, 0, none⟩) 16 16) from ⟨(HQ29.out.cell (p := ⟨w.heap.size, 2, none⟩) (Nat.lt_succ_self _)).trans HBX.out, (HQ29.out.cell (p := ⟨p.gr, r, none⟩) (by simp; omega)).trans (HD.out.reg hr), (HQ29.out.cell (p := ⟨g, 2, none⟩) (by simp; omega)).trans HD.out.cells.2.2.1⟩)
      rw [e29]
      clear h29 g29 o29 e29 c0 c2 c3 c4 c6 c7
      refine hK.out _ _ (by exact HSS.out) (fun hHeld => ?_)
      clear hK K
      (try simp only [Act.put])
      refine wpAnyH_take (i := 17) (v := ?_) rfl (by kernel_rfl) (by kernel_rfl) (by kernel_rfl) (fun _ _ _ h => h) (Or.inl ⟨by rfl, ?hyp29⟩) (by assumption) ?restp29
      case hyp29 => (intro W hSw; (try dsimp only at hSw); go_simp; try (with_reducible rfl))
      (try simp only [Act.put])
      refine wpAnyH_take (i := 18) (v := ?_) rfl (by kernel_rfl) (by kernel_rfl) (by kernel_rfl) (fun _ _ _ h => h) (Or.inl ⟨by rfl, ?hyq29⟩) (by assumption) ?restq29
      case hyq29 => (intro W hSw; (try dsimp only at hSw); go_simp; try (with_reducible rfl))
      (try simp only [Act.put])
      refine wpAnyH_ready (rs := [19]) (by kernel_rfl) (by simp) ?_
      refine AllReadyH.cons rfl (fun K hK => ?_) AllReadyH.nil
      go_simp
      refine hK.out _ _ (by exact ⟨(World.cell?_setCell_far _ _ _ _ (by simp; omega)).trans HSS.out.1, (World.cell?_setCell_far _ _ _ _ (by simp; omega)).trans HSS.out.2.1, (World.cell?_setCell_other _ _ _ _ (by simp)).trans HSS.out.2.2⟩) (fun hHeld => ?_)
      clear hK K
      (try simp only [Act.put, List.setIfInBounds_toArray, List.set_cons_zero, List.set_cons_succ])
      refine wpAnyH_done (by kernel_rfl) ?_ _
      go_wp2_with fail
      go_ret
      have HF := (((HD29.out.more (S' := grow S w W29) (fun k hs => .inl hs) (grow_lt H.out.lt (by have := HZ29.out; have := HSZ.out; omega))).setOut v29 (m.out ++ [rg m r]) (by simpa using HV29.out) (fun k e => ⟨.inr (HO29.out k e), still_new H.out (HO29.out k e).1⟩)).setPc next)
      rw [HE29.out] at HF
      have HKF : Keeps S w W29 := (Keeps.of_below HB.out).trans (S' := fun k => w.heap.size + 1 ≤ k) ⟨HQ29.out.os, HQ29.out.tape, HQ29.out.output, HQ29.out.size, fun k hk hn => HQ29.out.block k (by omega)⟩ (fun k hs => .inr (by omega))
      exact does_of rfl rfl HF ((HKF.st H.out.mem _ _).st H.out.mem _ _) H.out.lt (grow_of (by simp [World.setCell]))
    · have c5 := (HQ25.out.cell (p := ⟨g, 5, none⟩) (by simp; omega)).trans HD.out.cells.2.2.2.2.2.1
      rw [HVO.out] at c5
      go_simp
      refine hK.out _ _ (by exact hHeld) (fun hHeld => ?_)
      clear hK K c5
      (try simp only [Act.put, List.setIfInBounds_toArray, List.set_cons_zero, List.set_cons_succ])
      refine wpAnyH_ready (rs := [1]) (by kernel_rfl) (by simp) ?_
      refine AllReadyH.cons rfl (fun K hK => ?_) AllReadyH.nil
      have hnb31 := below_box W25 (.cells #[] 2)
      have HQ31 := Lib.hid (HQ25.out.trans (hnb31.mono (Nat.le_trans HSZ.out HZ25.out)))
      have HZ31 := Lib.hid (Nat.le_trans HZ25.out hnb31.size)
      have HV31 := Lib.hid (irow_new W25)
      have HN31 := Lib.hid (show W0.heap.size ≤ W25.heap.size from HZ25.out)
      have HX31 := Lib.hid ((hnb31.cell (p := ⟨W0.heap.size, 0, none⟩) HX25l.out).trans HX25.out)
      have HXX31 := Lib.hid (show W0.heap.size ≠ W25.heap.size from Nat.ne_of_lt HX25l.out)
      have HX31l := Lib.hid (Nat.lt_of_lt_of_le HX25l.out hnb31.size)
      go_simp
      refine hK.out _ _ (by exact ⟨(HQ31.out.cell (p := ⟨w.heap.size, 2, none⟩) (Nat.lt_succ_self _)).trans HBX.out, (HQ31.out.cell (p := ⟨p.gr, r, none⟩) (by simp; omega)).trans (HD.out.reg hr), (HQ31.out.cell (p := ⟨g, 2, none⟩) (by simp; omega)).trans HD.out.cells.2.2.1⟩) (fun hHeld => ?_)
      clear hK K hnb31
      generalize W25.alloc (.cells #[] 2) = W31 at *
      (try simp only [Act.put, List.setIfInBounds_toArray, List.set_cons_zero, List.set_cons_succ])
      refine wpAnyH_ready (rs := [6]) (by kernel_rfl) (by simp) ?_
      refine AllReadyH.cons rfl (fun K hK => ?_) AllReadyH.nil
      rw [if_pos (by rfl)]
      have hI32 : ILs W31 A5 m.out := by
        obtain ⟨A', z', e', _, _, hL'⟩ := (HD.out.same (w' := W31) (fun k hS => HQ31.out.block k (by have := H.out.lt k hS; omega)) HZ31.out).out.ilsC
        rw [HVO.out] at e'
        cases e'
        exact hL'
      refine wp_app_any _ (.tmp 337) (.tmp 341) rfl _ [] rfl HV31.out A5 z5 m.out rfl HN5.out hI32 (by have := HLL.out; simp; omega) ?_
      intro v32 W32 h32 g32 o32
      have HQ32 := Lib.hid (HQ31.out.grown g32 (Nat.le_trans HSZ.out HZ31.out) (fun j e => by have e2 : W25.heap.size = j := Option.some.inj e; have := HN31.out; have := HSZ.out; omega))
      have HZ32 := Lib.hid (Nat.le_trans HZ31.out g32.size)
      have HX32 := Lib.hid ((cell_same (g32.block (W0.heap.size) HX31l.out (fun e => HXX31.out (Option.some.inj e))) 0).trans HX31.out)
      have HX32l := Lib.hid (Nat.lt_of_lt_of_le HX31l.out g32.size)
      have HO32 := Lib.hid (fun j (e : v32.ownBlock = some j) => show W0.heap.size ≤ j from own_new o32 HN31.out HZ31.out e)
      have HV32 := Lib.hid h32
      obtain ⟨B32, y32, hv32⟩ := h32.form
      subst hv32
      clear h32 g32 o32 hI32
      refine hK.out _ _ (by exact ⟨(HQ32.out.cell (p := ⟨w.heap.size, 2, none⟩) (Nat.lt_succ_self _)).trans HBX.out, (HQ32.out.cell (p := ⟨p.gr, r, none⟩) (by simp; omega)).trans (HD.out.reg hr), (HQ32.out.cell (p := ⟨g, 2, none⟩) (by simp; omega)).trans HD.out.cells.2.2.1⟩) (fun hHeld => ?_)
      clear hK K
      (try simp only [Act.put, List.setIfInBounds_toArray])
      refine wpAnyH_ready (rs := [16]) (by kernel_rfl) (by simp) ?_
      refine AllReadyH.cons rfl (fun K hK => ?_) AllReadyH.nil
      rw [if_pos (by rfl)]
      refine wp_app_any _ (.tmp 342) (.tmp 351) rfl _ _ rfl HV32.out (some ⟨W0.heap.size, 0, none⟩) 1 [rg m r] rfl (by simp) (one_ils HX32l.out HX32.out) (by have := HLL.out; simp; omega) ?_
      intro v33 W33 h33 g33 o33
      have HQ33 := Lib.hid (HQ32.out.grown g33 (Nat.le_trans HSZ.out HZ32.out) (fun j e => by have := HO32.out j e; have := HSZ.out; omega))
      have HZ33 := Lib.hid (Nat.le_trans HZ32.out g33.size)
      have HO33 := Lib.hid (fun j (e : v33.ownBlock = some j) => show w.heap.size ≤ j ∧ j < W33.heap.size from ⟨Nat.le_trans (Nat.le_of_succ_le HSZ.out) (own_new2 o33 HO32.out HZ32.out e), IRow.lt h33 j e⟩)
      have HV33 := Lib.hid h33
      obtain ⟨B33, y33, e33⟩ := h33.form
      have HE33 := Lib.hid (e33.trans (show _ = Value.slice B33 (m.out.length + 1) y33 from by simp))
      have HD33 := Lib.hid (HD.out.same (w' := W33) (fun k hS => HQ33.out.block k (by have := H.out.lt k hS; omega)) HZ33.out)
      obtain ⟨c0, c1, c2, c3, c4, c5, c6, c7⟩ := HD33.out.cells
      rw [HVO.out] at c5
      have fo := HD33.out.frozen 5
      have fp := HD33.out.frozen 1
      have HSS := Lib.hid (show W33.cell? ⟨w.heap.size, 2, none⟩ = some (.int .i64 r) ∧ W33.cell? ⟨p.gr, r, none⟩ = some (.int .i64 (rg m r)) ∧ W33.cell? ⟨g, 2, none⟩ = some (.slice (some ⟨p.gr, 0, none⟩) 16 16) from ⟨(HQ33.out.cell (p := ⟨w.heap.size, 2, none⟩) (Nat.lt_succ_self _)).trans HBX.out, (HQ33.out.cell (p := ⟨p.gr, r, none⟩) (by simp; omega)).trans (HD.out.reg hr), (HQ33.out.cell (p := ⟨g, 2, none⟩) (by simp; omega)).trans HD.out.cells.2.2.1⟩)
      rw [e33]
      clear h33 g33 o33 e33 c0 c2 c3 c4 c6 c7
      refine hK.out _ _ (by exact HSS.out) (fun hHeld => ?_)
      clear hK K
      (try simp only [Act.put])
      refine wpAnyH_take (i := 17) (v := ?_) rfl (by kernel_rfl) (by kernel_rfl) (by kernel_rfl) (fun _ _ _ h => h) (Or.inl ⟨by rfl, ?hyp33⟩) (by assumption) ?restp33
      case hyp33 => (intro W hSw; (try dsimp only at hSw); go_simp; try (with_reducible rfl))
      (try simp only [Act.put])
      refine wpAnyH_take (i := 18) (v := ?_) rfl (by kernel_rfl) (by kernel_rfl) (by kernel_rfl) (fun _ _ _ h => h) (Or.inl ⟨by rfl, ?hyq33⟩) (by assumption) ?restq33
      case hyq33 => (intro W hSw; (try dsimp only at hSw); go_simp; try (with_reducible rfl))
      (try simp only [Act.put])
      refine wpAnyH_ready (rs := [19]) (by kernel_rfl) (by simp) ?_
      refine AllReadyH.cons rfl (fun K hK => ?_) AllReadyH.nil
      go_simp
      refine hK.out _ _ (by exact ⟨(World.cell?_setCell_far _ _ _ _ (by simp; omega)).trans HSS.out.1, (World.cell?_setCell_far _ _ _ _ (by simp; omega)).trans HSS.out.2.1, (World.cell?_setCell_other _ _ _ _ (by simp)).trans HSS.out.2.2⟩) (fun hHeld => ?_)
      clear hK K
      (try simp only [Act.put, List.setIfInBounds_toArray, List.set_cons_zero, List.set_cons_succ])
      refine wpAnyH_done (by kernel_rfl) ?_ _
      go_wp2_with fail
      go_ret
      have HF := (((HD33.out.more (S' := grow S w W33) (fun k hs => .inl hs) (grow_lt H.out.lt (by have := HZ33.out; have := HSZ.out; omega))).setOut v33 (m.out ++ [rg m r]) (by simpa using HV33.out) (fun k e => ⟨.inr (HO33.out k e), still_new H.out (HO33.out k e).1⟩)).setPc next)
      rw [HE33.out] at HF
      have HKF : Keeps S w W33 := (Keeps.of_below HB.out).trans (S' := fun k => w.heap.size + 1 ≤ k) ⟨HQ33.out.os, HQ33.out.tape, HQ33.out.output, HQ33.out.size, fun k hk hn => HQ33.out.block k (by omega)⟩ (fun k hs => .inr (by omega))
      exact does_of rfl rfl HF ((HKF.st H.out.mem _ _).st H.out.mem _ _) H.out.lt (grow_of (by simp [World.setCell]))
end
end Go.Proofs.YtdnpoeegefkoiaaGreat
