/-
  Merged for a claim: C4G6.
-/
import Derived.Test.YtdnpoeegefkoiaaGreatFJ4
import Derived.StillTailTactics
import Derived.RegionTactic
import Derived.Deep.RegionHeld3
namespace Go.Proofs.YtdnpoeegefkoiaaGreat
open Go Go.RowKit

section
variable {w : World} {S : Nat → Prop} {g : Nat} {m : Mc} {p : Mp}
set_option maxRecDepth 100000 in
set_option maxHeartbeats 1000000 in
theorem done_out (h : MIn w S g m p) (o s t n mm next : Int) (r : Nat) (hr : r < 16) (hl : m.out.length ≤ 1099511627776) :
    Calls Tryz.prog 39 #[.pointer (some ⟨g, 0, none⟩), iv ⟨16, o, r, s, t, n, mm⟩, .int .i64 next] w (DoneT m S g ⟨16, o, r, s, t, n, mm⟩ next w) := by
  have H := Lib.hid h
  have hlt := h.lt g h.mem
  have r0 : (0 : Int) ≤ (r : Int) := by omega
  have r1 : (r : Int) < 16 := by omega
  have cr := h.reg hr
  have co := h.cells.2.2.2.2.2.1
  have hb2 := (below_box2 w (.cells #[.int .u8 16, .int .u8 o, .int .i64 r, .int .i64 s, .int .i64 t, .int .i64 n, .int .i64 mm] 53) (.cells #[.int .i64 (rg m r)] 2)).drew
  have HB := Lib.hid hb2
  have HM := Lib.hid (h.below hb2)
  have HLEN := Lib.hid hl
  have HBX := Lib.hid (show w.heap.size < ((w.alloc (.cells #[.int .u8 16, .int .u8 o, .int .i64 r, .int .i64 s, .int .i64 t, .int .i64 n, .int .i64 mm] 53)).alloc (.cells #[.int .i64 (rg m r)] 2)).drew.heap.size ∧ ((w.alloc (.cells #[.int .u8 16, .int .u8 o, .int .i64 r, .int .i64 s, .int .i64 t, .int .i64 n, .int .i64 mm] 53)).alloc (.cells #[.int .i64 (rg m r)] 2)).drew.cell? ⟨w.heap.size, 2, none⟩ = some (.int .i64 r) from ⟨by simp; omega, old_cell w (.cells #[.int .u8 16, .int .u8 o, .int .i64 r, .int .i64 s, .int .i64 t, .int .i64 n, .int .i64 mm] 53) (.cells #[.int .i64 (rg m r)] 2) rfl 2 rfl⟩)
  have HY := Lib.hid (show ((w.alloc (.cells #[.int .u8 16, .int .u8 o, .int .i64 r, .int .i64 s, .int .i64 t, .int .i64 n, .int .i64 mm] 53)).alloc (.cells #[.int .i64 (rg m r)] 2)).drew.cell? ⟨w.heap.size + 1, 0, none⟩ = some (.int .i64 (rg m r)) from new_cell (w.alloc (.cells #[.int .u8 16, .int .u8 o, .int .i64 r, .int .i64 s, .int .i64 t, .int .i64 n, .int .i64 mm] 53)) #[.int .i64 (rg m r)] 2 0 (by simp) rfl)
  clear hb2 hl
  clear h
  unfold iv ic
  go_enter Tryz.func39, Tryz.ntmps39
  go_wp2_with fail
  refine wp_region_held_drew (S := fun W => W.cell? ⟨w.heap.size, 2, none⟩ = some (.int .i64 r) ∧ W.cell? ⟨g, 2 + r, none⟩ = some (.int .i64 (rg m r))) (by kernel_rfl) (by (try dsimp only); go_keep) (fun hHeld => ?_)
  refine wpAnyH_take (i := 0) (v := ?_) rfl (by kernel_rfl) (by kernel_rfl) (by kernel_rfl) (fun _ _ _ h => h) (Or.inl ⟨by rfl, ?hyq0⟩) (by assumption) ?restq0
  case hyq0 => (intro W hSw; (try dsimp only at hSw); go_simp; try (with_reducible rfl))
  (try simp only [Act.put, List.setIfInBounds_toArray])
  refine wpAnyH_take (i := 1) (v := ?_) rfl (by kernel_rfl) (by kernel_rfl) (by kernel_rfl) (fun _ _ _ h => h) (Or.inl ⟨by rfl, ?hyq1⟩) (by assumption) ?restq1
  case hyq1 => (intro W hSw; (try dsimp only at hSw); go_simp; try (with_reducible rfl))
  (try simp only [Act.put])
  refine wpAnyH_take (i := 2) (v := ?_) rfl (by kernel_rfl) (by kernel_rfl) (by kernel_rfl) (fun _ _ _ h => h) (Or.inl ⟨by rfl, ?hyq2⟩) (by assumption) ?restq2
  case hyq2 => (intro W hSw; (try dsimp only at hSw); go_simp; try (with_reducible rfl))
  (try simp only [Act.put])
  refine wpAnyH_take (i := 3) (v := ?_) rfl (by kernel_rfl) (by kernel_rfl) (by kernel_rfl) (fun _ _ _ h => h) (Or.inl ⟨by rfl, ?hyq3⟩) (by assumption) ?restq3
  case hyq3 => (intro W hSw; (try dsimp only at hSw); go_simp; try (with_reducible rfl))
  (try simp only [Act.put])
  refine wpAnyH_take (i := 5) (v := ?_) rfl (by kernel_rfl) (by kernel_rfl) (by kernel_rfl) (fun _ _ _ h => h) (Or.inl ⟨by rfl, ?hyq4⟩) (by assumption) ?restq4
  case hyq4 => (intro W hSw; (try dsimp only at hSw); go_simp; try (with_reducible rfl))
  (try simp only [Act.put])
  refine wpAnyH_take (i := 6) (v := ?_) rfl (by kernel_rfl) (by kernel_rfl) (by kernel_rfl) (fun _ _ _ h => h) (Or.inl ⟨by rfl, ?hyq5⟩) (by assumption) ?restq5
  case hyq5 => (intro W hSw; (try dsimp only at hSw); go_simp; try (with_reducible rfl))
  (try simp only [Act.put])
  refine wpAnyH_take (i := 7) (v := ?_) rfl (by kernel_rfl) (by kernel_rfl) (by kernel_rfl) (fun _ _ _ h => h) (Or.inl ⟨by rfl, ?hyq6⟩) (by assumption) ?restq6
  case hyq6 => (intro W hSw; (try dsimp only at hSw); go_simp; try (with_reducible rfl))
  (try simp only [Act.put])
  refine wpAnyH_take (i := 8) (v := ?_) rfl (by kernel_rfl) (by kernel_rfl) (by kernel_rfl) (fun _ _ _ h => h) (Or.inl ⟨by rfl, ?hyq7⟩) (by assumption) ?restq7
  case hyq7 => (intro W hSw; (try dsimp only at hSw); go_simp; try (with_reducible rfl))
  (try simp only [Act.put])
  refine wpAnyH_take (i := 9) (v := ?_) rfl (by kernel_rfl) (by kernel_rfl) (by kernel_rfl) (fun _ _ _ h => h) (Or.inl ⟨by rfl, ?hyq8⟩) (by assumption) ?restq8
  case hyq8 => (intro W hSw; (try dsimp only at hSw); go_simp; try (with_reducible rfl))
  (try simp only [Act.put])
  refine wpAnyH_take (i := 10) (v := ?_) rfl (by kernel_rfl) (by kernel_rfl) (by kernel_rfl) (fun _ _ _ h => h) (Or.inl ⟨by rfl, ?hyq9⟩) (by assumption) ?restq9
  case hyq9 => (intro W hSw; (try dsimp only at hSw); go_simp; try (with_reducible rfl))
  (try simp only [Act.put])
  refine wpAnyH_take (i := 11) (v := ?_) rfl (by kernel_rfl) (by kernel_rfl) (by kernel_rfl) (fun _ _ _ h => h) (Or.inl ⟨by rfl, ?hyq10⟩) (by assumption) ?restq10
  case hyq10 => (intro W hSw; (try dsimp only at hSw); go_simp; try (with_reducible rfl))
  (try simp only [Act.put])
  refine wpAnyH_ready (rs := [4, 12]) (by kernel_rfl) (by simp) ?_
  refine AllReadyH.cons rfl (fun K hK => ?_) (AllReadyH.cons rfl (fun K hK => ?_) AllReadyH.nil)
  · go_simp
    refine hK.out _ _ (by exact hHeld) (fun hHeld => ?_)
    clear hK K
    (try simp only [Act.put, List.setIfInBounds_toArray, List.set_cons_zero, List.set_cons_succ])
    refine wpAnyH_ready (rs := [12]) (by kernel_rfl) (by simp) ?_
    refine AllReadyH.cons rfl (fun K hK => ?_) AllReadyH.nil
    go_simp
    refine hK.out _ _ (by (try dsimp only); go_keep) (fun hHeld => ?_)
    clear hK K
    (try simp only [Act.put, List.setIfInBounds_toArray, List.set_cons_zero, List.set_cons_succ])
    refine wpAnyH_ready (rs := [13]) (by kernel_rfl) (by simp) ?_
    refine AllReadyH.cons rfl (fun K hK => ?_) AllReadyH.nil
    rw [if_pos (by rfl)]
    refine wp_app_int _ (.tmp 196) (.tmp 204) rfl p.ov m.out rfl HM.out.out (w.heap.size + 1) 1 (rg m r) rfl HY.out HLEN.out ?_
    intro v1 w1 h1 h2 h3
    have hblk := h2.block g (Nat.lt_of_lt_of_le hlt HB.out.size) (fun e => (H.out.ovS g e.symm).2.1 rfl)
    have hbox := h2.block w.heap.size HBX.out.1 (fun e => by have := H.out.lt _ (H.out.ovS _ e.symm).1; omega)
    have c20 := (cell_same hblk 20).trans HM.out.cells.2.2.2.2.2.1
    have f20 := self_frozen (hblk.trans HM.out.self) 20
    have cb := (cell_same hbox 2).trans HBX.out.2
    have cr1 := (cell_same hblk (2 + r)).trans (HM.out.reg hr)
    have hgb : w.heap.size ≠ g := by omega
    obtain ⟨A1, c1, rfl⟩ := h1.form
    have H1 := Lib.hid h1
    have H2 := Lib.hid h2
    have H3 := Lib.hid h3
    clear hblk hbox h1 h2 h3
    refine hK.out _ _ (by exact ⟨cb, cr1⟩) (fun hHeld => ?_)
    clear hK K
    (try simp only [Act.put, List.setIfInBounds_toArray])
    refine wpAnyH_take (i := 14) (v := ?_) rfl (by kernel_rfl) (by kernel_rfl) (by kernel_rfl) (fun _ _ _ h => h) (Or.inl ⟨by rfl, ?hyxa⟩) (by assumption) ?restxa
    case hyxa => (intro W hSw; (try dsimp only at hSw); go_simp; try (with_reducible rfl))
    (try simp only [Act.put])
    refine wpAnyH_take (i := 15) (v := ?_) rfl (by kernel_rfl) (by kernel_rfl) (by kernel_rfl) (fun _ _ _ h => h) (Or.inl ⟨by rfl, ?hyxb⟩) (by assumption) ?restxb
    case hyxb => (intro W hSw; (try dsimp only at hSw); go_simp; try (with_reducible rfl))
    (try simp only [Act.put])
    refine wpAnyH_ready (rs := [16]) (by kernel_rfl) (by simp) ?_
    refine AllReadyH.cons rfl (fun K hK => ?_) AllReadyH.nil
    go_simp
    refine hK.out _ _ (by exact ⟨(World.cell?_setCell_far _ _ _ _ (Ne.symm hgb)).trans cb, (World.cell?_setCell_other _ _ _ _ (by simp <;> omega)).trans cr1⟩) (fun hHeld => ?_)
    clear hK K
    (try simp only [Act.put, List.setIfInBounds_toArray, List.set_cons_zero, List.set_cons_succ])
    refine wpAnyH_done (by kernel_rfl) ?_ _
    go_wp2_with fail
    go_ret
    rw [show m.out.length + 1 = (m.out ++ [rg m r]).length by simp]
    exact doneO rfl rfl HB.out (HM.out.setOut H2.out H3.out H1.out (IRow.lt H1.out)) (by simp [World.setCell]) (((Keeps.of_below HB.out).trans (Keeps.grown H2.out fun k e => (H.out.ovS k e).1) fun _ hs => .inl hs).trans (Keeps.set g 20 _ H.out.mem _) fun _ hs => .inl hs) H.out.lt
  · go_simp
    refine hK.out _ _ (by (try dsimp only); go_keep) (fun hHeld => ?_)
    clear hK K
    (try simp only [Act.put, List.setIfInBounds_toArray, List.set_cons_zero, List.set_cons_succ])
    refine wpAnyH_ready (rs := [4]) (by kernel_rfl) (by simp) ?_
    refine AllReadyH.cons rfl (fun K hK => ?_) AllReadyH.nil
    go_simp
    refine hK.out _ _ (by exact hHeld) (fun hHeld => ?_)
    clear hK K
    (try simp only [Act.put, List.setIfInBounds_toArray, List.set_cons_zero, List.set_cons_succ])
    refine wpAnyH_ready (rs := [13]) (by kernel_rfl) (by simp) ?_
    refine AllReadyH.cons rfl (fun K hK => ?_) AllReadyH.nil
    rw [if_pos (by rfl)]
    refine wp_app_int _ (.tmp 196) (.tmp 204) rfl p.ov m.out rfl HM.out.out (w.heap.size + 1) 1 (rg m r) rfl HY.out HLEN.out ?_
    intro v1 w1 h1 h2 h3
    have hblk := h2.block g (Nat.lt_of_lt_of_le hlt HB.out.size) (fun e => (H.out.ovS g e.symm).2.1 rfl)
    have hbox := h2.block w.heap.size HBX.out.1 (fun e => by have := H.out.lt _ (H.out.ovS _ e.symm).1; omega)
    have c20 := (cell_same hblk 20).trans HM.out.cells.2.2.2.2.2.1
    have f20 := self_frozen (hblk.trans HM.out.self) 20
    have cb := (cell_same hbox 2).trans HBX.out.2
    have cr1 := (cell_same hblk (2 + r)).trans (HM.out.reg hr)
    have hgb : w.heap.size ≠ g := by omega
    obtain ⟨A1, c1, rfl⟩ := h1.form
    have H1 := Lib.hid h1
    have H2 := Lib.hid h2
    have H3 := Lib.hid h3
    clear hblk hbox h1 h2 h3
    refine hK.out _ _ (by exact ⟨cb, cr1⟩) (fun hHeld => ?_)
    clear hK K
    (try simp only [Act.put, List.setIfInBounds_toArray])
    refine wpAnyH_take (i := 14) (v := ?_) rfl (by kernel_rfl) (by kernel_rfl) (by kernel_rfl) (fun _ _ _ h => h) (Or.inl ⟨by rfl, ?hyya⟩) (by assumption) ?restya
    case hyya => (intro W hSw; (try dsimp only at hSw); go_simp; try (with_reducible rfl))
    (try simp only [Act.put])
    refine wpAnyH_take (i := 15) (v := ?_) rfl (by kernel_rfl) (by kernel_rfl) (by kernel_rfl) (fun _ _ _ h => h) (Or.inl ⟨by rfl, ?hyyb⟩) (by assumption) ?restyb
    case hyyb => (intro W hSw; (try dsimp only at hSw); go_simp; try (with_reducible rfl))
    (try simp only [Act.put])
    refine wpAnyH_ready (rs := [16]) (by kernel_rfl) (by simp) ?_
    refine AllReadyH.cons rfl (fun K hK => ?_) AllReadyH.nil
    go_simp
    refine hK.out _ _ (by exact ⟨(World.cell?_setCell_far _ _ _ _ (Ne.symm hgb)).trans cb, (World.cell?_setCell_other _ _ _ _ (by simp <;> omega)).trans cr1⟩) (fun hHeld => ?_)
    clear hK K
    (try simp only [Act.put, List.setIfInBounds_toArray, List.set_cons_zero, List.set_cons_succ])
    refine wpAnyH_done (by kernel_rfl) ?_ _
    go_wp2_with fail
    go_ret
    rw [show m.out.length + 1 = (m.out ++ [rg m r]).length by simp]
    exact doneO rfl rfl HB.out (HM.out.setOut H2.out H3.out H1.out (IRow.lt H1.out)) (by simp [World.setCell]) (((Keeps.of_below HB.out).trans (Keeps.grown H2.out fun k e => (H.out.ovS k e).1) fun _ hs => .inl hs).trans (Keeps.set g 20 _ H.out.mem _) fun _ hs => .inl hs) H.out.lt
set_option maxRecDepth 100000 in
set_option maxHeartbeats 1000000 in
theorem done_in (h : MIn w S g m p) (o s t n mm next : Int) (r : Nat) (hr : r < 16) (x : Int) (l : List Int) (hin : m.input = x :: l) :
    Calls Tryz.prog 39 #[.pointer (some ⟨g, 0, none⟩), iv ⟨15, o, r, s, t, n, mm⟩, .int .i64 next] w (DoneT m S g ⟨15, o, r, s, t, n, mm⟩ next w) := by
  have H := Lib.hid h
  have hlt := h.lt g h.mem
  have r0 : (0 : Int) ≤ (r : Int) := by omega
  have r1 : (r : Int) < 16 := by omega
  have cr := h.reg hr
  have fr := h.frozen (2 + r)
  have HB := Lib.hid (below_box w (.cells #[.int .u8 15, .int .u8 o, .int .i64 r, .int .i64 s, .int .i64 t, .int .i64 n, .int .i64 mm] 53)).drew
  have HF := Lib.hid (show turnOf m ⟨15, o, r, s, t, n, mm⟩ next = setR { m with input := l } r x by simp [turnOf, hin, setR])
  obtain ⟨b, q, hA, hSb, hcalm, hall⟩ := h.input (by rw [hin]; simp)
  have hx := hall 0 (by rw [hin]; simp)
  have hic := h.icap
  have hnew : ∀ A : Addr, (0 < l.length → A = ⟨b, q + 1, none⟩) → ISt w S (calm g p) (some A) l := fun A hA2 hl => by
    refine ⟨b, q + 1, by rw [hA2 hl], hSb, hcalm, fun j hj => ?_⟩
    have := hall (j + 1) (by rw [hin]; simp; omega)
    rw [hin] at this
    rw [show q + 1 + j = q + (j + 1) by omega, this]
    simp
  have HN := Lib.hid hnew
  have HP := Lib.hid (fun (W : World) (hb : Below w.heap.size w W) => read_yes g W b q p.ci l.length x (by have := (h.below hb).cells.2.2.2.2.1; rwa [hA, hin] at this) (by rw [hin] at hic; simpa using hic) ((hb.cell (p := ⟨b, q, none⟩) (h.lt b hSb)).trans (by rw [hin] at hx; simpa using hx)) ((h.below hb).frozen 19))
  have HC := Lib.hid (show l.length ≤ p.ci - 1 by rw [hin] at hic; simp at hic; omega)
  clear hA hall hx hic hnew hin
  clear h
  unfold iv ic
  go_enter Tryz.func39, Tryz.ntmps39
  go_wp2_with fail
  refine wp_region_held_drew (S := fun W => W.cell? ⟨w.heap.size, 2, none⟩ = some (.int .i64 r)) (by kernel_rfl) (by (try dsimp only); go_keep) (fun hHeld => ?_)
  refine wpAnyH_take (i := 0) (v := ?_) rfl (by kernel_rfl) (by kernel_rfl) (by kernel_rfl) (fun _ _ _ h => h) (Or.inl ⟨by rfl, ?hyq0⟩) (by assumption) ?restq0
  case hyq0 => (intro W hSw; (try dsimp only at hSw); go_simp; try (with_reducible rfl))
  (try simp only [Act.put, List.setIfInBounds_toArray])
  refine wpAnyH_take (i := 1) (v := ?_) rfl (by kernel_rfl) (by kernel_rfl) (by kernel_rfl) (fun _ _ _ h => h) (Or.inl ⟨by rfl, ?hyq1⟩) (by assumption) ?restq1
  case hyq1 => (intro W hSw; (try dsimp only at hSw); go_simp; try (with_reducible rfl))
  (try simp only [Act.put])
  refine wpAnyH_take (i := 2) (v := ?_) rfl (by kernel_rfl) (by kernel_rfl) (by kernel_rfl) (fun _ _ _ h => h) (Or.inl ⟨by rfl, ?hyq2⟩) (by assumption) ?restq2
  case hyq2 => (intro W hSw; (try dsimp only at hSw); go_simp; try (with_reducible rfl))
  (try simp only [Act.put])
  refine wpAnyH_take (i := 3) (v := ?_) rfl (by kernel_rfl) (by kernel_rfl) (by kernel_rfl) (fun _ _ _ h => h) (Or.inl ⟨by rfl, ?hyq3⟩) (by assumption) ?restq3
  case hyq3 => (intro W hSw; (try dsimp only at hSw); go_simp; try (with_reducible rfl))
  (try simp only [Act.put])
  refine wpAnyH_take (i := 5) (v := ?_) rfl (by kernel_rfl) (by kernel_rfl) (by kernel_rfl) (fun _ _ _ h => h) (Or.inl ⟨by rfl, ?hyq4⟩) (by assumption) ?restq4
  case hyq4 => (intro W hSw; (try dsimp only at hSw); go_simp; try (with_reducible rfl))
  (try simp only [Act.put])
  refine wpAnyH_take (i := 6) (v := ?_) rfl (by kernel_rfl) (by kernel_rfl) (by kernel_rfl) (fun _ _ _ h => h) (Or.inl ⟨by rfl, ?hyq5⟩) (by assumption) ?restq5
  case hyq5 => (intro W hSw; (try dsimp only at hSw); go_simp; try (with_reducible rfl))
  (try simp only [Act.put])
  refine wpAnyH_ready (rs := [4]) (by kernel_rfl) (by simp) ?_
  refine AllReadyH.cons rfl (fun K hK => ?_) AllReadyH.nil
  go_simp
  go_at_call 62
  refine (HP.out _ HB.out).mono ?_
  rintro e w' ⟨rfl, A, rfl, hA2⟩
  have HS := Lib.hid (((H.out.setIn (some A) (p.ci - 1) l (HN.out A hA2) HC.out).setReg hr x))
  have HK := Lib.hid ((Keeps.set (S := S) g 19 (.slice (some A) l.length (p.ci - 1)) H.out.mem w).trans (Keeps.set (S := S) g (2 + r) (.int .i64 x) H.out.mem _) fun _ hs => .inl hs)
  clear hA2
  go_wp2_with fail
  refine hK.out _ _ (by (try dsimp only); exact box_cell _ _ _ _ _ _ rfl) (fun hHeld => ?_)
  clear hK K
  (try simp only [Act.put, List.setIfInBounds_toArray, List.set_cons_zero, List.set_cons_succ])
  refine wpAnyH_take (i := 7) (v := ?_) rfl (by kernel_rfl) (by kernel_rfl) (by kernel_rfl) (fun _ _ _ h => h) (Or.inl ⟨by rfl, ?hyz⟩) (by assumption) ?restz
  case hyz => (intro W hSw; (try dsimp only at hSw); go_simp; try (with_reducible rfl))
  (try simp only [Act.put, List.setIfInBounds_toArray])
  refine wpAnyH_ready (rs := [8]) (by kernel_rfl) (by simp) ?_
  refine AllReadyH.cons rfl (fun K hK => ?_) AllReadyH.nil
  go_simp
  refine hK.out _ _ (by (try dsimp only); first | exact box_cell2D _ _ _ _ _ _ _ _ rfl | exact (World.cell?_setCell_far _ _ _ _ (Nat.ne_of_lt hlt)).trans (box_cell _ _ _ _ _ _ rfl)) (fun hHeld => ?_)
  clear hK K
  (try simp only [Act.put, List.setIfInBounds_toArray, List.set_cons_zero, List.set_cons_succ])
  refine wpAnyH_done (by kernel_rfl) ?_ _
  go_wp2_with fail
  go_ret
  exact doneT rfl HF.out.symm (HS.out.box _) (HK.out.box _) H.out.lt
end

end Go.Proofs.YtdnpoeegefkoiaaGreat
