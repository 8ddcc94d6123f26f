/-
  Merged for a claim: C4J2.
-/
import Derived.Test.YtdnpoeegefkoiaaGreatFC4J1
import Derived.Test.YtdnpoeegefkoiaaGreatFJ3
import Derived.Test.YtdnpoeegefkoiaaGreatFI3M
import Derived.Deep.RegionHeld3
namespace Go.Proofs.YtdnpoeegefkoiaaGreat
open Go Go.RowKit

/-- it goes on -/
theorem left_ {S S' : Nat → Prop} {g q : Nat} {m m' : Mc} {p' : Mp} {w W : World} {t : Array Value} (hM : MIn W S' g m' p') (hd : m' = doM m) (hS' : ∀ k, S' k → S k ∨ (w.heap.size ≤ k ∧ k < W.heap.size)) (hk : Keeps S w W) (hS : ∀ k, S k → k < w.heap.size) :
    bodyPostD Tryz.prog Tryz.f27 (DoR m S g w) Exit.normal { tmps := t, defers := [{ target := Target.fn (Fn.func 37) #[.pointer (some ⟨q, 0, none⟩)], args := #[] }] } W := by
  refine leaves_cons (f := 37) (args := #[.pointer (some ⟨q, 0, none⟩)]) (by simp) (by simp [go_sem]) ?_
  refine (catch_idle q W).mono ?_
  rintro e u' w'' ⟨rfl, rfl, rfl⟩
  have hk2 := hk.box0 (.cells #[.int .u8 0, .int .i64 0] 57)
  refine ⟨.tuple #[], by simp [results, Tryz.results27, go_sem], rfl, p', ?_, hk2⟩
  rw [← hd]
  refine (hM.box0 _).more (fun k hs => ?_) (grow_lt hS hk2.size)
  rcases hS' k hs with h | h
  · exact .inl h
  · exact .inr ⟨h.1, by simp; omega⟩

section
variable {w : World} {S : Nat → Prop} {g : Nat} {m : Mc} {p : Mp}
set_option maxRecDepth 100000 in
set_option maxHeartbeats 2000000 in
theorem do_good (h : MIn w S g m p) (hc : m.code.length ≤ 1099511627776) (hw : m.words.length ≤ 65536) (ho : m.out.length ≤ 1099511627776) (he : gE m.code m.pc = 0) :
    Calls Tryz.prog 27 #[.pointer (some ⟨g, 0, none⟩)] w (DoR m S g w) := by
  have hmf : ∀ (fn : Fn) (first cap : Array Value) (w : World), (Instr.makeFunc fn first cap).run Tryz.prog w = .ok (.func fn first cap) w := fun _ _ _ _ => rfl
  have HM := Lib.hid (fun (W : World) (hb : Below w.heap.size w W) => h.below hb)
  have H := Lib.hid h
  have hlt := h.lt g h.mem
  obtain ⟨c0, c1, -⟩ := h.cells
  have HG := Lib.hid (fun (W : World) (hb : Below w.heap.size w W) => isaGet_any p.Ac p.cc m.code m.pc W h.ccap hc ((h.below hb).code.lies (h.below hb).lt))
  have HN := Lib.hid (show ∀ W : World, Below w.heap.size w W → W.cell? ⟨g, 0, none⟩ = some (.slice p.Ac m.code.length p.cc) ∧ W.cell? ⟨g, 1, none⟩ = some (.int .i64 m.pc) from fun W hb => ⟨(h.below hb).cells.1, (h.below hb).cells.2.1⟩)
  unfold GetR iv ic at HG
  have HE := Lib.hid (show ∀ a b, endOf m (gI m.code m.pc) = some (a, b) → doM m = { m with how := a, num := b } from fun a b hh => by unfold doM; rw [if_pos he, hh])
  have HT := Lib.hid (show endOf m (gI m.code m.pc) = none → doM m = { turnOf m (gI m.code m.pc) (gN m.code m.pc) with pc := goOf m (gI m.code m.pc) (gN m.code m.pc) } from fun hh => by unfold doM; rw [if_pos he, hh])
  have hright : rightB (gI m.code m.pc) = true := by obtain ⟨_, _, _, _, hr, _⟩ := get_got he; exact hr
  have HDN := Lib.hid (fun (W : World) (hb : Below w.heap.size w W) => done_any (next := gN m.code m.pc) (h.below hb) hright hw ho)
  rw [he] at HG
  clear h he hc hright hw ho
  unfold DoneR DoneE DoneT iv ic at HDN
  generalize gI m.code m.pc = i at *
  generalize gN m.code m.pc = nx at *
  go_enter_defers Tryz.func27, Tryz.ntmps27
  go_wp2_with fail
  have hq : w.heap.size ≠ g := by omega
  refine wp_region_noPanic ?_
  refine wp_region_held_drew (S := fun W => W.cell? ⟨w.heap.size, 0, none⟩ = some (.pointer (some ⟨g, 0, none⟩)) ∧ W.cell? ⟨g, 0, none⟩ = some (.slice p.Ac m.code.length p.cc) ∧ W.cell? ⟨g, 1, none⟩ = some (.int .i64 m.pc)) (by kernel_rfl) (by (try dsimp only); go_keep) (fun hHeld => ?_)
  refine wpAnyH_take (i := 0) (v := ?_) rfl (by kernel_rfl) (by kernel_rfl) (by kernel_rfl) (fun _ _ _ h => h) (Or.inl ⟨by rfl, ?hyq0⟩) (by assumption) ?restq0
  case hyq0 => (intro W hSw; (try dsimp only at hSw); go_simp; try (with_reducible rfl))
  (try simp only [Act.put, List.setIfInBounds_toArray])
  refine wpAnyH_take (i := 1) (v := ?_) rfl (by kernel_rfl) (by kernel_rfl) (by kernel_rfl) (fun _ _ _ h => h) (Or.inl ⟨by rfl, ?hyq1⟩) (by assumption) ?restq1
  case hyq1 => (intro W hSw; (try dsimp only at hSw); go_simp; try (with_reducible rfl))
  (try simp only [Act.put])
  refine wpAnyH_take (i := 2) (v := ?_) rfl (by kernel_rfl) (by kernel_rfl) (by kernel_rfl) (fun _ _ _ h => h) (Or.inl ⟨by rfl, ?hyq2⟩) (by assumption) ?restq2
  case hyq2 => (intro W hSw; (try dsimp only at hSw); go_simp; try (with_reducible rfl))
  (try simp only [Act.put])
  refine wpAnyH_take (i := 3) (v := ?_) rfl (by kernel_rfl) (by kernel_rfl) (by kernel_rfl) (fun _ _ _ h => h) (Or.inl ⟨by rfl, ?hyq3⟩) (by assumption) ?restq3
  case hyq3 => (intro W hSw; (try dsimp only at hSw); go_simp; try (with_reducible rfl))
  (try simp only [Act.put])
  refine wpAnyH_take (i := 4) (v := ?_) rfl (by kernel_rfl) (by kernel_rfl) (by kernel_rfl) (fun _ _ _ h => h) (Or.inl ⟨by rfl, ?hyq4⟩) (by assumption) ?restq4
  case hyq4 => (intro W hSw; (try dsimp only at hSw); go_simp; try (with_reducible rfl))
  (try simp only [Act.put])
  refine wpAnyH_take (i := 5) (v := ?_) rfl (by kernel_rfl) (by kernel_rfl) (by kernel_rfl) (fun _ _ _ h => h) (Or.inl ⟨by rfl, ?hyq5⟩) (by assumption) ?restq5
  case hyq5 => (intro W hSw; (try dsimp only at hSw); go_simp; try (with_reducible rfl))
  (try simp only [Act.put])
  refine wpAnyH_take (i := 6) (v := ?_) rfl (by kernel_rfl) (by kernel_rfl) (by kernel_rfl) (fun _ _ _ h => h) (Or.inl ⟨by rfl, ?hyq6⟩) (by assumption) ?restq6
  case hyq6 => (intro W hSw; (try dsimp only at hSw); go_simp; try (with_reducible rfl))
  (try simp only [Act.put])
  refine wpAnyH_take (i := 7) (v := ?_) rfl (by kernel_rfl) (by kernel_rfl) (by kernel_rfl) (fun _ _ _ h => h) (Or.inl ⟨by rfl, ?hyq7⟩) (by assumption) ?restq7
  case hyq7 => (intro W hSw; (try dsimp only at hSw); go_simp; try (with_reducible rfl))
  (try simp only [Act.put])
  refine wpAnyH_ready (rs := [8, 13]) (by kernel_rfl) (by simp) ?_
  refine AllReadyH.cons rfl (fun K hK => ?_) (AllReadyH.cons rfl (fun K hK => ?_) AllReadyH.nil)
  · go_simp
    have hbA := (below_box w (.cells #[.pointer (some ⟨g, 0, none⟩)] 31)).drew
    go_at_call 38
    refine (HG.out _ hbA).mono ?_
    rintro e w9 ⟨rfl, hb9⟩
    have hB9 := hbA.trans (hb9.mono hbA.size)
    have hz9 : w.heap.size + 1 ≤ w9.heap.size := by have := hb9.size; simpa using this
    have hq9 : w9.cell? ⟨w.heap.size, 0, none⟩ = some (.pointer (some ⟨g, 0, none⟩)) := (hb9.cell (p := ⟨w.heap.size, 0, none⟩) (by simp)).trans (new_cell w _ _ 0 rfl rfl)
    go_wp2_with fail
    refine hK.out _ _ (by exact ⟨hq9, HN.out _ hB9⟩) (fun hHeld => ?_)
    clear hK K
    (try simp only [Act.put, List.setIfInBounds_toArray, List.set_cons_zero, List.set_cons_succ])
    refine wpAnyH_take (i := 9) (v := ?_) rfl (by kernel_rfl) (by kernel_rfl) (by kernel_rfl) (fun _ _ _ h => h) (Or.inl ⟨by rfl, ?hyB9⟩) (by assumption) ?restB9
    case hyB9 => (intro W hSw; (try dsimp only at hSw); go_simp; try (with_reducible rfl))
    (try simp only [Act.put, List.setIfInBounds_toArray])
    refine wpAnyH_take (i := 10) (v := ?_) rfl (by kernel_rfl) (by kernel_rfl) (by kernel_rfl) (fun _ _ _ h => h) (Or.inl ⟨by rfl, ?hyB10⟩) (by assumption) ?restB10
    case hyB10 => (intro W hSw; (try dsimp only at hSw); go_simp; try (with_reducible rfl))
    (try simp only [Act.put])
    refine wpAnyH_take (i := 11) (v := ?_) rfl (by kernel_rfl) (by kernel_rfl) (by kernel_rfl) (fun _ _ _ h => h) (Or.inl ⟨by rfl, ?hyB11⟩) (by assumption) ?restB11
    case hyB11 => (intro W hSw; (try dsimp only at hSw); go_simp; try (with_reducible rfl))
    (try simp only [Act.put])
    refine wpAnyH_take (i := 12) (v := ?_) rfl (by kernel_rfl) (by kernel_rfl) (by kernel_rfl) (fun _ _ _ h => h) (Or.inl ⟨by rfl, ?hyB12⟩) (by assumption) ?restB12
    case hyB12 => (intro W hSw; (try dsimp only at hSw); go_simp; try (with_reducible rfl))
    (try simp only [Act.put])
    have HW := Lib.hid (show Below w.heap.size w (w9.alloc (.cells #[.int .u8 i.k, .int .u8 i.o, .int .i64 i.r, .int .i64 i.s, .int .i64 i.t, .int .i64 i.n, .int .i64 i.m] 53)) from hB9.alloc hB9.size _)
    have HW0 := Lib.hid (show Below w.heap.size w (w9.alloc (.cells #[.int .u8 0, .int .u8 0, .int .i64 0, .int .i64 0, .int .i64 0, .int .i64 0, .int .i64 0] 53)) from hB9.alloc hB9.size _)
    have HQ := Lib.hid (show (w9.alloc (.cells #[.int .u8 i.k, .int .u8 i.o, .int .i64 i.r, .int .i64 i.s, .int .i64 i.t, .int .i64 i.n, .int .i64 i.m] 53)).cell? ⟨w.heap.size, 0, none⟩ = some (.pointer (some ⟨g, 0, none⟩)) from (World.cell?_alloc_lt w9 _ ⟨w.heap.size, 0, none⟩ (by simp only; omega)).trans hq9)
    have HQ0 := Lib.hid (show (w9.alloc (.cells #[.int .u8 0, .int .u8 0, .int .i64 0, .int .i64 0, .int .i64 0, .int .i64 0, .int .i64 0] 53)).cell? ⟨w.heap.size, 0, none⟩ = some (.pointer (some ⟨g, 0, none⟩)) from (World.cell?_alloc_lt w9 _ ⟨w.heap.size, 0, none⟩ (by simp only; omega)).trans hq9)
    have HI := Lib.hid (show InsAt (w9.alloc (.cells #[.int .u8 i.k, .int .u8 i.o, .int .i64 i.r, .int .i64 i.s, .int .i64 i.t, .int .i64 i.n, .int .i64 i.m] 53)) w9.heap.size i from heap_alloc_new _ _)
    clear hB9 hb9
    refine wpAnyH_ready (rs := [13]) (by kernel_rfl) (by simp) ?_
    refine AllReadyH.cons rfl (fun K hK => ?_) AllReadyH.nil
    go_simp
    refine hK.out _ _ (by exact ⟨HQ0.out, HN.out _ HW0.out⟩) (fun hHeld => ?_)
    clear hK K
    (try simp only [Act.put, List.setIfInBounds_toArray, List.set_cons_zero, List.set_cons_succ])
    refine wpAnyH_ready (rs := [14]) (by kernel_rfl) (by simp) ?_
    refine AllReadyH.cons rfl (fun K hK => ?_) AllReadyH.nil
    go_simp
    refine hK.out _ _ (by exact ⟨HQ.out, HN.out _ HW.out⟩) (fun hHeld => ?_)
    clear hK K
    (try simp only [Act.put, List.setIfInBounds_toArray, List.set_cons_zero, List.set_cons_succ])
    refine wpAnyH_take (i := 15) (v := ?_) rfl (by kernel_rfl) (by kernel_rfl) (by kernel_rfl) (fun _ _ _ h => h) (Or.inl ⟨by rfl, ?hyB15⟩) (by assumption) ?restB15
    case hyB15 => (intro W hSw; (try dsimp only at hSw); go_simp; try (with_reducible rfl))
    (try simp only [Act.put, List.setIfInBounds_toArray])
    refine wpAnyH_take (i := 16) (v := ?_) rfl (by kernel_rfl) (by kernel_rfl) (by kernel_rfl) (fun _ _ _ h => h) (Or.inl ⟨by rfl, ?hyB16⟩) (by assumption) ?restB16
    case hyB16 => (intro W hSw; (try dsimp only at hSw); go_simp; try (with_reducible rfl))
    (try simp only [Act.put])
    refine wpAnyH_done (by kernel_rfl) ?_ _
    refine NoPanic.normal ?_
    go_wp2_with fail
    have HW' := HW.out
    have HQ' := HQ.out
    have HI' := HI.out
    have hbi : w.heap.size < w9.heap.size := by omega
    clear HW HQ HI HW0 HQ0 hz9
    clear hq9 hbA hHeld
    generalize (w9.alloc (.cells #[.int .u8 i.k, .int .u8 i.o, .int .i64 i.r, .int .i64 i.s, .int .i64 i.t, .int .i64 i.n, .int .i64 i.m] 53)) = W2 at HW' HQ' HI' ⊢
    generalize w9.heap.size = bi at HI' hbi ⊢
    obtain ⟨⟨e0, e1, e2, e3, e4, e5, e6⟩, -⟩ := ins_cells HI'
    have HIT := Lib.hid HI'
    have HWT := Lib.hid HW'
    have HQT := Lib.hid HQ'
    have hw2 : w.heap.size ≤ W2.heap.size := HW'.size
    have hbl := HI'.lt
    clear HW' HI'
    refine wp_region_held_drew (S := fun W => W.cell? ⟨w.heap.size, 0, none⟩ = some (.pointer (some ⟨g, 0, none⟩)) ∧ W.cell? ⟨bi, 0, none⟩ = some (.int .u8 i.k) ∧ W.cell? ⟨bi, 1, none⟩ = some (.int .u8 i.o) ∧ W.cell? ⟨bi, 2, none⟩ = some (.int .i64 i.r) ∧ W.cell? ⟨bi, 3, none⟩ = some (.int .i64 i.s) ∧ W.cell? ⟨bi, 4, none⟩ = some (.int .i64 i.t) ∧ W.cell? ⟨bi, 5, none⟩ = some (.int .i64 i.n) ∧ W.cell? ⟨bi, 6, none⟩ = some (.int .i64 i.m)) (by kernel_rfl) (by (try dsimp only); go_keep) (fun hHeld => ?_)
    refine wpAnyH_take (i := 0) (v := ?_) rfl (by kernel_rfl) (by kernel_rfl) (by kernel_rfl) (fun _ _ _ h => leaves_tmps (by rfl) _ _ _ _ _ h) (Or.inl ⟨by rfl, ?hygb0⟩) (by assumption) ?restgb0
    case hygb0 => (intro W hSw; (try dsimp only at hSw); go_simp; try (with_reducible rfl))
    (try simp only [Act.put, List.setIfInBounds_toArray])
    refine wpAnyH_take (i := 1) (v := ?_) rfl (by kernel_rfl) (by kernel_rfl) (by kernel_rfl) (fun _ _ _ h => leaves_tmps (by rfl) _ _ _ _ _ h) (Or.inl ⟨by rfl, ?hygb1⟩) (by assumption) ?restgb1
    case hygb1 => (intro W hSw; (try dsimp only at hSw); go_simp; try (with_reducible rfl))
    (try simp only [Act.put])
    refine wpAnyH_take (i := 2) (v := ?_) rfl (by kernel_rfl) (by kernel_rfl) (by kernel_rfl) (fun _ _ _ h => leaves_tmps (by rfl) _ _ _ _ _ h) (Or.inl ⟨by rfl, ?hygb2⟩) (by assumption) ?restgb2
    case hygb2 => (intro W hSw; (try dsimp only at hSw); go_simp; try (with_reducible rfl))
    (try simp only [Act.put])
    refine wpAnyH_take (i := 3) (v := ?_) rfl (by kernel_rfl) (by kernel_rfl) (by kernel_rfl) (fun _ _ _ h => leaves_tmps (by rfl) _ _ _ _ _ h) (Or.inl ⟨by rfl, ?hygb3⟩) (by assumption) ?restgb3
    case hygb3 => (intro W hSw; (try dsimp only at hSw); go_simp; try (with_reducible rfl))
    (try simp only [Act.put])
    refine wpAnyH_ready (rs := [4]) (by kernel_rfl) (by simp) ?_
    refine AllReadyH.cons rfl (fun K hK => ?_) AllReadyH.nil
    go_simp
    go_at_call 39
    refine (HDN.out _ HWT.out.drew).mono ?_
    rintro e w3 (⟨hh, nn, he, rfl, hb3⟩ | ⟨he, rfl, p', hM3, hk3⟩)
    · have hB3 := HWT.out.drew.trans (hb3.mono hw2)
      exact caught (HM.out _ hB3) ((hb3.cell (p := ⟨w.heap.size, 0, none⟩) (show w.heap.size < W2.heap.size by omega)).trans HQT.out) (Keeps.of_below hB3) H.out.lt (HE.out _ _ he)
    · have hnS : ∀ k, w.heap.size ≤ k → ¬ S k := fun k hk hs => by have := H.out.lt k hs; omega
      have hq3 : w3.cell? ⟨w.heap.size, 0, none⟩ = some (.pointer (some ⟨g, 0, none⟩)) := (cell_same (hk3.block w.heap.size (by simp; omega) (hnS _ (Nat.le_refl _))) 0).trans HQT.out
      have hi3 : InsAt w3 bi i := (hk3.block bi (by simp; omega) (hnS _ (by omega))).trans HIT.out
      have hS3 := Lib.hid (And.intro hq3 (ins_cells hi3).1)
      have c31 := hM3.cells.2.1
      have f31 := hM3.frozen 1
      have HM3 := Lib.hid hM3
      have HK3 := Lib.hid hk3
      have HX := Lib.hid (HT.out he)
      clear hM3 hk3 hi3 hnS e0 e1 e2 e3 e4 e5 e6 he
      go_wp2_with fail
      refine hK.out _ _ (by exact hS3.out) (fun hHeld => ?_)
      clear hK K
      (try simp only [Act.put, List.setIfInBounds_toArray, List.set_cons_zero, List.set_cons_succ])
      refine wpAnyH_take (i := 5) (v := ?_) rfl (by kernel_rfl) (by kernel_rfl) (by kernel_rfl) (fun _ _ _ h => leaves_tmps (by rfl) _ _ _ _ _ h) (Or.inl ⟨by rfl, ?hyg5b⟩) (by assumption) ?restg5b
      case hyg5b => (intro W hSw; (try dsimp only at hSw); go_simp; try (with_reducible rfl))
      (try simp only [Act.put, List.setIfInBounds_toArray])
      refine wpAnyH_take (i := 6) (v := ?_) rfl (by kernel_rfl) (by kernel_rfl) (by kernel_rfl) (fun _ _ _ h => leaves_tmps (by rfl) _ _ _ _ _ h) (Or.inl ⟨by rfl, ?hyg6b⟩) (by assumption) ?restg6b
      case hyg6b => (intro W hSw; (try dsimp only at hSw); go_simp; try (with_reducible rfl))
      (try simp only [Act.put])
      refine wpAnyH_ready (rs := [7]) (by kernel_rfl) (by simp) ?_
      refine AllReadyH.cons rfl (fun K hK => ?_) AllReadyH.nil
      go_simp
      refine hK.out _ _ (by exact ⟨(World.cell?_setCell_far _ _ _ _ (Nat.ne_of_lt hlt)).trans hS3.out.1, Cell7.far hS3.out.2 _ _ (by simp only; omega)⟩) (fun hHeld => ?_)
      clear hK K
      (try simp only [Act.put, List.setIfInBounds_toArray, List.set_cons_zero, List.set_cons_succ])
      refine wpAnyH_done (by kernel_rfl) ?_ _
      go_wp2_with fail
      exact left_ (HM3.out.setPc _) HX.out.symm (fun k hk => by rcases hk with h | h; exact .inl h; exact .inr ⟨by have := h.1; simp at this; omega, by have := h.2; simpa [World.setCell] using this⟩) (((Keeps.of_below HWT.out.drew).trans HK3.out fun _ hs => .inl hs).trans (Keeps.set g 1 _ H.out.mem _) fun _ hs => .inl hs) H.out.lt
  · go_simp
    have hbA := (below_box2 w (.cells #[.pointer (some ⟨g, 0, none⟩)] 31) (.cells #[.int .u8 0, .int .u8 0, .int .i64 0, .int .i64 0, .int .i64 0, .int .i64 0, .int .i64 0] 53)).drew
    refine hK.out _ _ (by exact ⟨old_cell w _ _ rfl 0 rfl, HN.out _ hbA⟩) (fun hHeld => ?_)
    clear hK K
    (try simp only [Act.put, List.setIfInBounds_toArray, List.set_cons_zero, List.set_cons_succ])
    refine wpAnyH_ready (rs := [8]) (by kernel_rfl) (by simp) ?_
    refine AllReadyH.cons rfl (fun K hK => ?_) AllReadyH.nil
    go_simp
    go_at_call 38
    refine (HG.out _ hbA).mono ?_
    rintro e w9 ⟨rfl, hb9⟩
    have hB9 := hbA.trans (hb9.mono hbA.size)
    have hq9 : w9.cell? ⟨w.heap.size, 0, none⟩ = some (.pointer (some ⟨g, 0, none⟩)) := (hb9.cell (p := ⟨w.heap.size, 0, none⟩) (by simp; omega)).trans (old_cell w _ _ rfl 0 rfl)
    have hi9 : InsAt w9 (w.heap.size + 1) (insOf 0) := (hb9.block (w.heap.size + 1) (by simp)).trans (show (((w.alloc (.cells #[.pointer (some ⟨g, 0, none⟩)] 31)).alloc (.cells #[.int .u8 0, .int .u8 0, .int .i64 0, .int .i64 0, .int .i64 0, .int .i64 0, .int .i64 0] 53)).drew).heap[w.heap.size + 1]? = _ from new_obj (w.alloc (.cells #[.pointer (some ⟨g, 0, none⟩)] 31)) _ (by simp))
    obtain ⟨⟨d0, d1, d2, d3, d4, d5, d6⟩, df⟩ := ins_cells hi9
    have HI9 := Lib.hid hi9
    have hne9 : w.heap.size ≠ w.heap.size + 1 := by omega
    have hlt9 := hi9.lt
    go_wp2_with fail
    refine hK.out _ _ (by exact ⟨hq9, HN.out _ hB9⟩) (fun hHeld => ?_)
    clear hK K
    (try simp only [Act.put, List.setIfInBounds_toArray, List.set_cons_zero, List.set_cons_succ])
    refine wpAnyH_take (i := 9) (v := ?_) rfl (by kernel_rfl) (by kernel_rfl) (by kernel_rfl) (fun _ _ _ h => h) (Or.inl ⟨by rfl, ?hyA9⟩) (by assumption) ?restA9
    case hyA9 => (intro W hSw; (try dsimp only at hSw); go_simp; try (with_reducible rfl))
    (try simp only [Act.put, List.setIfInBounds_toArray])
    refine wpAnyH_take (i := 10) (v := ?_) rfl (by kernel_rfl) (by kernel_rfl) (by kernel_rfl) (fun _ _ _ h => h) (Or.inl ⟨by rfl, ?hyA10⟩) (by assumption) ?restA10
    case hyA10 => (intro W hSw; (try dsimp only at hSw); go_simp; try (with_reducible rfl))
    (try simp only [Act.put])
    refine wpAnyH_take (i := 11) (v := ?_) rfl (by kernel_rfl) (by kernel_rfl) (by kernel_rfl) (fun _ _ _ h => h) (Or.inl ⟨by rfl, ?hyA11⟩) (by assumption) ?restA11
    case hyA11 => (intro W hSw; (try dsimp only at hSw); go_simp; try (with_reducible rfl))
    (try simp only [Act.put])
    refine wpAnyH_take (i := 12) (v := ?_) rfl (by kernel_rfl) (by kernel_rfl) (by kernel_rfl) (fun _ _ _ h => h) (Or.inl ⟨by rfl, ?hyA12⟩) (by assumption) ?restA12
    case hyA12 => (intro W hSw; (try dsimp only at hSw); go_simp; try (with_reducible rfl))
    (try simp only [Act.put])
    have HW := Lib.hid (show Below w.heap.size w (put7 w9 (w.heap.size + 1) i) from below_ins hB9 (by omega) _ _ _ _ _ _ _)
    have HQ := Lib.hid (show (put7 w9 (w.heap.size + 1) i).cell? ⟨w.heap.size, 0, none⟩ = some (.pointer (some ⟨g, 0, none⟩)) from (cell_same ((put7_grown w9 (w.heap.size + 1) i).block w.heap.size (by omega) (by simp)) 0).trans hq9)
    have HI := Lib.hid (put7_at hi9 i)
    unfold put7 at HW HQ HI
    clear hB9 hb9
    refine wpAnyH_ready (rs := [14]) (by kernel_rfl) (by simp) ?_
    refine AllReadyH.cons rfl (fun K hK => ?_) AllReadyH.nil
    go_simp
    refine hK.out _ _ (by exact ⟨HQ.out, HN.out _ HW.out⟩) (fun hHeld => ?_)
    clear hK K
    (try simp only [Act.put, List.setIfInBounds_toArray, List.set_cons_zero, List.set_cons_succ])
    refine wpAnyH_take (i := 15) (v := ?_) rfl (by kernel_rfl) (by kernel_rfl) (by kernel_rfl) (fun _ _ _ h => h) (Or.inl ⟨by rfl, ?hyA15⟩) (by assumption) ?restA15
    case hyA15 => (intro W hSw; (try dsimp only at hSw); go_simp; try (with_reducible rfl))
    (try simp only [Act.put, List.setIfInBounds_toArray])
    refine wpAnyH_take (i := 16) (v := ?_) rfl (by kernel_rfl) (by kernel_rfl) (by kernel_rfl) (fun _ _ _ h => h) (Or.inl ⟨by rfl, ?hyA16⟩) (by assumption) ?restA16
    case hyA16 => (intro W hSw; (try dsimp only at hSw); go_simp; try (with_reducible rfl))
    (try simp only [Act.put])
    refine wpAnyH_done (by kernel_rfl) ?_ _
    refine NoPanic.normal ?_
    go_wp2_with fail
    have HW' := HW.out
    have HQ' := HQ.out
    have HI' := HI.out
    have hbi : w.heap.size < (w.heap.size + 1) := by omega
    clear HW HQ HI HI9 hne9 hlt9 df d0 d1 d2 d3 d4 d5 d6
    clear hq9 hbA hHeld
    generalize (((((((w9.setCell ⟨w.heap.size + 1, 0, none⟩ (.int .u8 i.k)).setCell ⟨w.heap.size + 1, 1, none⟩ (.int .u8 i.o)).setCell ⟨w.heap.size + 1, 2, none⟩ (.int .i64 i.r)).setCell ⟨w.heap.size + 1, 3, none⟩ (.int .i64 i.s)).setCell ⟨w.heap.size + 1, 4, none⟩ (.int .i64 i.t)).setCell ⟨w.heap.size + 1, 5, none⟩ (.int .i64 i.n)).setCell ⟨w.heap.size + 1, 6, none⟩ (.int .i64 i.m)) = W2 at HW' HQ' HI' ⊢
    generalize (w.heap.size + 1) = bi at HI' hbi ⊢
    obtain ⟨⟨e0, e1, e2, e3, e4, e5, e6⟩, -⟩ := ins_cells HI'
    have HIT := Lib.hid HI'
    have HWT := Lib.hid HW'
    have HQT := Lib.hid HQ'
    have hw2 : w.heap.size ≤ W2.heap.size := HW'.size
    have hbl := HI'.lt
    clear HW' HI'
    refine wp_region_held_drew (S := fun W => W.cell? ⟨w.heap.size, 0, none⟩ = some (.pointer (some ⟨g, 0, none⟩)) ∧ W.cell? ⟨bi, 0, none⟩ = some (.int .u8 i.k) ∧ W.cell? ⟨bi, 1, none⟩ = some (.int .u8 i.o) ∧ W.cell? ⟨bi, 2, none⟩ = some (.int .i64 i.r) ∧ W.cell? ⟨bi, 3, none⟩ = some (.int .i64 i.s) ∧ W.cell? ⟨bi, 4, none⟩ = some (.int .i64 i.t) ∧ W.cell? ⟨bi, 5, none⟩ = some (.int .i64 i.n) ∧ W.cell? ⟨bi, 6, none⟩ = some (.int .i64 i.m)) (by kernel_rfl) (by (try dsimp only); go_keep) (fun hHeld => ?_)
    refine wpAnyH_take (i := 0) (v := ?_) rfl (by kernel_rfl) (by kernel_rfl) (by kernel_rfl) (fun _ _ _ h => leaves_tmps (by rfl) _ _ _ _ _ h) (Or.inl ⟨by rfl, ?hyga0⟩) (by assumption) ?restga0
    case hyga0 => (intro W hSw; (try dsimp only at hSw); go_simp; try (with_reducible rfl))
    (try simp only [Act.put, List.setIfInBounds_toArray])
    refine wpAnyH_take (i := 1) (v := ?_) rfl (by kernel_rfl) (by kernel_rfl) (by kernel_rfl) (fun _ _ _ h => leaves_tmps (by rfl) _ _ _ _ _ h) (Or.inl ⟨by rfl, ?hyga1⟩) (by assumption) ?restga1
    case hyga1 => (intro W hSw; (try dsimp only at hSw); go_simp; try (with_reducible rfl))
    (try simp only [Act.put])
    refine wpAnyH_take (i := 2) (v := ?_) rfl (by kernel_rfl) (by kernel_rfl) (by kernel_rfl) (fun _ _ _ h => leaves_tmps (by rfl) _ _ _ _ _ h) (Or.inl ⟨by rfl, ?hyga2⟩) (by assumption) ?restga2
    case hyga2 => (intro W hSw; (try dsimp only at hSw); go_simp; try (with_reducible rfl))
    (try simp only [Act.put])
    refine wpAnyH_take (i := 3) (v := ?_) rfl (by kernel_rfl) (by kernel_rfl) (by kernel_rfl) (fun _ _ _ h => leaves_tmps (by rfl) _ _ _ _ _ h) (Or.inl ⟨by rfl, ?hyga3⟩) (by assumption) ?restga3
    case hyga3 => (intro W hSw; (try dsimp only at hSw); go_simp; try (with_reducible rfl))
    (try simp only [Act.put])
    refine wpAnyH_ready (rs := [4]) (by kernel_rfl) (by simp) ?_
    refine AllReadyH.cons rfl (fun K hK => ?_) AllReadyH.nil
    go_simp
    go_at_call 39
    refine (HDN.out _ HWT.out.drew).mono ?_
    rintro e w3 (⟨hh, nn, he, rfl, hb3⟩ | ⟨he, rfl, p', hM3, hk3⟩)
    · have hB3 := HWT.out.drew.trans (hb3.mono hw2)
      exact caught (HM.out _ hB3) ((hb3.cell (p := ⟨w.heap.size, 0, none⟩) (show w.heap.size < W2.heap.size by omega)).trans HQT.out) (Keeps.of_below hB3) H.out.lt (HE.out _ _ he)
    · have hnS : ∀ k, w.heap.size ≤ k → ¬ S k := fun k hk hs => by have := H.out.lt k hs; omega
      have hq3 : w3.cell? ⟨w.heap.size, 0, none⟩ = some (.pointer (some ⟨g, 0, none⟩)) := (cell_same (hk3.block w.heap.size (by simp; omega) (hnS _ (Nat.le_refl _))) 0).trans HQT.out
      have hi3 : InsAt w3 bi i := (hk3.block bi (by simp; omega) (hnS _ (by omega))).trans HIT.out
      have hS3 := Lib.hid (And.intro hq3 (ins_cells hi3).1)
      have c31 := hM3.cells.2.1
      have f31 := hM3.frozen 1
      have HM3 := Lib.hid hM3
      have HK3 := Lib.hid hk3
      have HX := Lib.hid (HT.out he)
      clear hM3 hk3 hi3 hnS e0 e1 e2 e3 e4 e5 e6 he
      go_wp2_with fail
      refine hK.out _ _ (by exact hS3.out) (fun hHeld => ?_)
      clear hK K
      (try simp only [Act.put, List.setIfInBounds_toArray, List.set_cons_zero, List.set_cons_succ])
      refine wpAnyH_take (i := 5) (v := ?_) rfl (by kernel_rfl) (by kernel_rfl) (by kernel_rfl) (fun _ _ _ h => leaves_tmps (by rfl) _ _ _ _ _ h) (Or.inl ⟨by rfl, ?hyg5a⟩) (by assumption) ?restg5a
      case hyg5a => (intro W hSw; (try dsimp only at hSw); go_simp; try (with_reducible rfl))
      (try simp only [Act.put, List.setIfInBounds_toArray])
      refine wpAnyH_take (i := 6) (v := ?_) rfl (by kernel_rfl) (by kernel_rfl) (by kernel_rfl) (fun _ _ _ h => leaves_tmps (by rfl) _ _ _ _ _ h) (Or.inl ⟨by rfl, ?hyg6a⟩) (by assumption) ?restg6a
      case hyg6a => (intro W hSw; (try dsimp only at hSw); go_simp; try (with_reducible rfl))
      (try simp only [Act.put])
      refine wpAnyH_ready (rs := [7]) (by kernel_rfl) (by simp) ?_
      refine AllReadyH.cons rfl (fun K hK => ?_) AllReadyH.nil
      go_simp
      refine hK.out _ _ (by exact ⟨(World.cell?_setCell_far _ _ _ _ (Nat.ne_of_lt hlt)).trans hS3.out.1, Cell7.far hS3.out.2 _ _ (by simp only; omega)⟩) (fun hHeld => ?_)
      clear hK K
      (try simp only [Act.put, List.setIfInBounds_toArray, List.set_cons_zero, List.set_cons_succ])
      refine wpAnyH_done (by kernel_rfl) ?_ _
      go_wp2_with fail
      exact left_ (HM3.out.setPc _) HX.out.symm (fun k hk => by rcases hk with h | h; exact .inl h; exact .inr ⟨by have := h.1; simp at this; omega, by have := h.2; simpa [World.setCell] using this⟩) (((Keeps.of_below HWT.out.drew).trans HK3.out fun _ hs => .inl hs).trans (Keeps.set g 1 _ H.out.mem _) fun _ hs => .inl hs) H.out.lt
end

end Go.Proofs.YtdnpoeegefkoiaaGreat
