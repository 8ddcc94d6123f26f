/-
  Merged for a claim: C4J1.
-/
import Derived.Test.YtdnpoeegefkoiaaGreatFC4I
import Derived.Test.YtdnpoeegefkoiaaGreatFI3M
import Derived.Deep.RegionHeld3
namespace Go.Proofs.YtdnpoeegefkoiaaGreat
open Go Go.RowKit

def DoR (m : Mc) (S : Nat → Prop) (g : Nat) (w : World) (e : Ending) (w' : World) : Prop := e = .returned (.tuple #[]) ∧ ∃ p', MIn w' (grow S w w') g (doM m) p' ∧ Keeps S w w'
theorem new_obj (w : World) (o : Obj) {n : Nat} (hn : w.heap.size = n) : (w.alloc o).drew.heap[n]? = some o := by
  subst hn
  exact heap_alloc_new w o
theorem leaves_tmps {P : Program} {fn : Func} {R : Ending → World → Prop} (h0 : fn.results = #[]) (t t' : Array Value) : ∀ (ds : List Deferred) (u : FrameMode) (w : World), Leaves P fn t R ds u w → Leaves P fn t' R ds u w
  | [], .returning, w, h => by
    obtain ⟨v, hv, hr⟩ := h
    refine ⟨v, ?_, hr⟩
    simp [results, h0] at hv ⊢
    exact hv
  | [], .panicking _, _, h => h
  | [], .run, _, h => h
  | d :: ds, u, w, h => by
    obtain ⟨h1, fv, cap, f, args, h2, h3, h4⟩ := h
    refine ⟨h1, fv, cap, f, args, h2, h3, h4.mono fun e u' w' hh => ?_⟩
    cases e with
    | returned v => exact leaves_tmps h0 t t' ds _ _ hh
    | panicked c => exact leaves_tmps h0 t t' ds _ _ hh
    | outgrown => exact hh
/-- what was thrown is caught: the machine stands so -/
theorem caught {S : Nat → Prop} {g q : Nat} {m : Mc} {p : Mp} {w W : World} {h n : Int} {t : Array Value} (hM : MIn W S g m p) (hq : W.cell? ⟨q, 0, none⟩ = some (.pointer (some ⟨g, 0, none⟩))) (hk : Keeps S w W) (hS : ∀ k, S k → k < w.heap.size) (hd : doM m = { m with how := h, num := n }) :
    bodyPostD Tryz.prog Tryz.f27 (DoR m S g w) (Exit.panic (endC h n)) { tmps := t, defers := [{ target := Target.fn (Fn.func 37) #[.pointer (some ⟨q, 0, none⟩)], args := #[] }] } W := by
  refine leaves_cons (f := 37) (args := #[.pointer (some ⟨q, 0, none⟩)]) (by simp) (by simp [go_sem]) ?_
  have hcs := hM.cells.2.2.2.2.2.2
  refine (catch_thrown q g h n _ _ W hq hcs.1 hcs.2 (hM.frozen 21) (hM.frozen 22)).mono ?_
  rintro e u' w'' ⟨rfl, rfl, rfl⟩
  have h2 := (hM.setEnd h n).box0 (.cells #[.int .u8 h, .int .i64 n] 57)
  have hk2 := (((hk.trans (Keeps.set g 21 (.int .u8 h) hM.mem W) fun _ hs => .inl hs).trans (Keeps.set g 22 (.int .i64 n) hM.mem _) fun _ hs => .inl hs)).box0 (.cells #[.int .u8 h, .int .i64 n] 57)
  refine ⟨.tuple #[], by simp [results, Tryz.results27, go_sem], rfl, p, ?_, hk2⟩
  rw [hd]
  exact h2.more (fun k hs => .inl hs) (grow_lt hS hk2.size)

section
variable {w : World} {S : Nat → Prop} {g : Nat} {m : Mc} {p : Mp}
set_option maxRecDepth 100000 in
set_option maxHeartbeats 2000000 in
theorem do_bad (h : MIn w S g m p) (hc : m.code.length ≤ 1099511627776) (he : ¬ gE m.code m.pc = 0) :
    Calls Tryz.prog 27 #[.pointer (some ⟨g, 0, none⟩)] w (DoR m S g w) := by
  have hmf : ∀ (fn : Fn) (first cap : Array Value) (w : World), (Instr.makeFunc fn first cap).run Tryz.prog w = .ok (.func fn first cap) w := fun _ _ _ _ => rfl
  have HM := Lib.hid (fun (W : World) (hb : Below w.heap.size w W) => h.below hb)
  have H := Lib.hid h
  have hlt := h.lt g h.mem
  obtain ⟨c0, c1, -⟩ := h.cells
  have HG := Lib.hid (fun (W : World) (hb : Below w.heap.size w W) => isaGet_any p.Ac p.cc m.code m.pc W h.ccap hc ((h.below hb).code.lies (h.below hb).lt))
  have HN := Lib.hid (show ∀ W : World, Below w.heap.size w W → W.cell? ⟨g, 0, none⟩ = some (.slice p.Ac m.code.length p.cc) ∧ W.cell? ⟨g, 1, none⟩ = some (.int .i64 m.pc) from fun W hb => ⟨(h.below hb).cells.1, (h.below hb).cells.2.1⟩)
  unfold GetR iv ic at HG
  have HD := Lib.hid (show doM m = { m with how := 5, num := 0 } by unfold doM; rw [if_neg he])
  have b0 : (gE m.code m.pc != 0) = true := by simpa using he
  clear h he hc
  generalize gI m.code m.pc = i at *
  generalize gN m.code m.pc = nx at *
  generalize gE m.code m.pc = er at *
  go_enter_defers Tryz.func27, Tryz.ntmps27
  go_wp2_with fail
  have hq : w.heap.size ≠ g := by omega
  refine wp_region_noPanic ?_
  refine wp_region_held_drew (S := fun W => W.cell? ⟨w.heap.size, 0, none⟩ = some (.pointer (some ⟨g, 0, none⟩)) ∧ W.cell? ⟨g, 0, none⟩ = some (.slice p.Ac m.code.length p.cc) ∧ W.cell? ⟨g, 1, none⟩ = some (.int .i64 m.pc)) (by kernel_rfl) (by (try dsimp only); go_keep) (fun hHeld => ?_)
  refine wpAnyH_take (i := 0) (v := ?_) rfl (by kernel_rfl) (by kernel_rfl) (by kernel_rfl) (fun _ _ _ h => h) (Or.inl ⟨by rfl, ?hyq0⟩) (by assumption) ?restq0
  case hyq0 => (intro W hSw; (try dsimp only at hSw); go_simp; try (with_reducible rfl))
  (try simp only [Act.put, List.setIfInBounds_toArray])
  refine wpAnyH_take (i := 1) (v := ?_) rfl (by kernel_rfl) (by kernel_rfl) (by kernel_rfl) (fun _ _ _ h => h) (Or.inl ⟨by rfl, ?hyq1⟩) (by assumption) ?restq1
  case hyq1 => (intro W hSw; (try dsimp only at hSw); go_simp; try (with_reducible rfl))
  (try simp only [Act.put])
  refine wpAnyH_take (i := 2) (v := ?_) rfl (by kernel_rfl) (by kernel_rfl) (by kernel_rfl) (fun _ _ _ h => h) (Or.inl ⟨by rfl, ?hyq2⟩) (by assumption) ?restq2
  case hyq2 => (intro W hSw; (try dsimp only at hSw); go_simp; try (with_reducible rfl))
  (try simp only [Act.put])
  refine wpAnyH_take (i := 3) (v := ?_) rfl (by kernel_rfl) (by kernel_rfl) (by kernel_rfl) (fun _ _ _ h => h) (Or.inl ⟨by rfl, ?hyq3⟩) (by assumption) ?restq3
  case hyq3 => (intro W hSw; (try dsimp only at hSw); go_simp; try (with_reducible rfl))
  (try simp only [Act.put])
  refine wpAnyH_take (i := 4) (v := ?_) rfl (by kernel_rfl) (by kernel_rfl) (by kernel_rfl) (fun _ _ _ h => h) (Or.inl ⟨by rfl, ?hyq4⟩) (by assumption) ?restq4
  case hyq4 => (intro W hSw; (try dsimp only at hSw); go_simp; try (with_reducible rfl))
  (try simp only [Act.put])
  refine wpAnyH_take (i := 5) (v := ?_) rfl (by kernel_rfl) (by kernel_rfl) (by kernel_rfl) (fun _ _ _ h => h) (Or.inl ⟨by rfl, ?hyq5⟩) (by assumption) ?restq5
  case hyq5 => (intro W hSw; (try dsimp only at hSw); go_simp; try (with_reducible rfl))
  (try simp only [Act.put])
  refine wpAnyH_take (i := 6) (v := ?_) rfl (by kernel_rfl) (by kernel_rfl) (by kernel_rfl) (fun _ _ _ h => h) (Or.inl ⟨by rfl, ?hyq6⟩) (by assumption) ?restq6
  case hyq6 => (intro W hSw; (try dsimp only at hSw); go_simp; try (with_reducible rfl))
  (try simp only [Act.put])
  refine wpAnyH_take (i := 7) (v := ?_) rfl (by kernel_rfl) (by kernel_rfl) (by kernel_rfl) (fun _ _ _ h => h) (Or.inl ⟨by rfl, ?hyq7⟩) (by assumption) ?restq7
  case hyq7 => (intro W hSw; (try dsimp only at hSw); go_simp; try (with_reducible rfl))
  (try simp only [Act.put])
  refine wpAnyH_ready (rs := [8, 13]) (by kernel_rfl) (by simp) ?_
  refine AllReadyH.cons rfl (fun K hK => ?_) (AllReadyH.cons rfl (fun K hK => ?_) AllReadyH.nil)
  · go_simp
    have hbA := (below_box w (.cells #[.pointer (some ⟨g, 0, none⟩)] 31)).drew
    go_at_call 38
    refine (HG.out _ hbA).mono ?_
    rintro e w9 ⟨rfl, hb9⟩
    have hB9 := hbA.trans (hb9.mono hbA.size)
    have hz9 : w.heap.size + 1 ≤ w9.heap.size := by have := hb9.size; simpa using this
    have hq9 : w9.cell? ⟨w.heap.size, 0, none⟩ = some (.pointer (some ⟨g, 0, none⟩)) := (hb9.cell (p := ⟨w.heap.size, 0, none⟩) (by simp)).trans (new_cell w _ _ 0 rfl rfl)
    go_wp2_with fail
    refine hK.out _ _ (by exact ⟨hq9, HN.out _ hB9⟩) (fun hHeld => ?_)
    clear hK K
    (try simp only [Act.put, List.setIfInBounds_toArray, List.set_cons_zero, List.set_cons_succ])
    refine wpAnyH_take (i := 9) (v := ?_) rfl (by kernel_rfl) (by kernel_rfl) (by kernel_rfl) (fun _ _ _ h => h) (Or.inl ⟨by rfl, ?hyB9⟩) (by assumption) ?restB9
    case hyB9 => (intro W hSw; (try dsimp only at hSw); go_simp; try (with_reducible rfl))
    (try simp only [Act.put, List.setIfInBounds_toArray])
    refine wpAnyH_take (i := 10) (v := ?_) rfl (by kernel_rfl) (by kernel_rfl) (by kernel_rfl) (fun _ _ _ h => h) (Or.inl ⟨by rfl, ?hyB10⟩) (by assumption) ?restB10
    case hyB10 => (intro W hSw; (try dsimp only at hSw); go_simp; try (with_reducible rfl))
    (try simp only [Act.put])
    refine wpAnyH_take (i := 11) (v := ?_) rfl (by kernel_rfl) (by kernel_rfl) (by kernel_rfl) (fun _ _ _ h => h) (Or.inl ⟨by rfl, ?hyB11⟩) (by assumption) ?restB11
    case hyB11 => (intro W hSw; (try dsimp only at hSw); go_simp; try (with_reducible rfl))
    (try simp only [Act.put])
    refine wpAnyH_take (i := 12) (v := ?_) rfl (by kernel_rfl) (by kernel_rfl) (by kernel_rfl) (fun _ _ _ h => h) (Or.inl ⟨by rfl, ?hyB12⟩) (by assumption) ?restB12
    case hyB12 => (intro W hSw; (try dsimp only at hSw); go_simp; try (with_reducible rfl))
    (try simp only [Act.put])
    have HW := Lib.hid (show Below w.heap.size w (w9.alloc (.cells #[.int .u8 i.k, .int .u8 i.o, .int .i64 i.r, .int .i64 i.s, .int .i64 i.t, .int .i64 i.n, .int .i64 i.m] 53)) from hB9.alloc hB9.size _)
    have HW0 := Lib.hid (show Below w.heap.size w (w9.alloc (.cells #[.int .u8 0, .int .u8 0, .int .i64 0, .int .i64 0, .int .i64 0, .int .i64 0, .int .i64 0] 53)) from hB9.alloc hB9.size _)
    have HQ := Lib.hid (show (w9.alloc (.cells #[.int .u8 i.k, .int .u8 i.o, .int .i64 i.r, .int .i64 i.s, .int .i64 i.t, .int .i64 i.n, .int .i64 i.m] 53)).cell? ⟨w.heap.size, 0, none⟩ = some (.pointer (some ⟨g, 0, none⟩)) from (World.cell?_alloc_lt w9 _ ⟨w.heap.size, 0, none⟩ (by simp only; omega)).trans hq9)
    have HQ0 := Lib.hid (show (w9.alloc (.cells #[.int .u8 0, .int .u8 0, .int .i64 0, .int .i64 0, .int .i64 0, .int .i64 0, .int .i64 0] 53)).cell? ⟨w.heap.size, 0, none⟩ = some (.pointer (some ⟨g, 0, none⟩)) from (World.cell?_alloc_lt w9 _ ⟨w.heap.size, 0, none⟩ (by simp only; omega)).trans hq9)
    have HI := Lib.hid (show InsAt (w9.alloc (.cells #[.int .u8 i.k, .int .u8 i.o, .int .i64 i.r, .int .i64 i.s, .int .i64 i.t, .int .i64 i.n, .int .i64 i.m] 53)) w9.heap.size i from heap_alloc_new _ _)
    clear hB9 hb9
    refine wpAnyH_ready (rs := [13]) (by kernel_rfl) (by simp) ?_
    refine AllReadyH.cons rfl (fun K hK => ?_) AllReadyH.nil
    go_simp
    refine hK.out _ _ (by exact ⟨HQ0.out, HN.out _ HW0.out⟩) (fun hHeld => ?_)
    clear hK K
    (try simp only [Act.put, List.setIfInBounds_toArray, List.set_cons_zero, List.set_cons_succ])
    refine wpAnyH_ready (rs := [14]) (by kernel_rfl) (by simp) ?_
    refine AllReadyH.cons rfl (fun K hK => ?_) AllReadyH.nil
    go_simp
    refine hK.out _ _ (by exact ⟨HQ.out, HN.out _ HW.out⟩) (fun hHeld => ?_)
    clear hK K
    (try simp only [Act.put, List.setIfInBounds_toArray, List.set_cons_zero, List.set_cons_succ])
    refine wpAnyH_take (i := 15) (v := ?_) rfl (by kernel_rfl) (by kernel_rfl) (by kernel_rfl) (fun _ _ _ h => h) (Or.inl ⟨by rfl, ?hyB15⟩) (by assumption) ?restB15
    case hyB15 => (intro W hSw; (try dsimp only at hSw); go_simp; try (with_reducible rfl))
    (try simp only [Act.put, List.setIfInBounds_toArray])
    refine wpAnyH_take (i := 16) (v := ?_) rfl (by kernel_rfl) (by kernel_rfl) (by kernel_rfl) (fun _ _ _ h => h) (Or.inl ⟨by rfl, ?hyB16⟩) (by assumption) ?restB16
    case hyB16 => (intro W hSw; (try dsimp only at hSw); go_simp; try (with_reducible rfl))
    (try simp only [Act.put])
    refine wpAnyH_done (by kernel_rfl) ?_ _
    refine NoPanic.normal ?_
    go_wp2_with fail
    exact caught (HM.out _ HW.out) HQ.out (Keeps.of_below HW.out) H.out.lt HD.out
  · go_simp
    have hbA := (below_box2 w (.cells #[.pointer (some ⟨g, 0, none⟩)] 31) (.cells #[.int .u8 0, .int .u8 0, .int .i64 0, .int .i64 0, .int .i64 0, .int .i64 0, .int .i64 0] 53)).drew
    refine hK.out _ _ (by exact ⟨old_cell w _ _ rfl 0 rfl, HN.out _ hbA⟩) (fun hHeld => ?_)
    clear hK K
    (try simp only [Act.put, List.setIfInBounds_toArray, List.set_cons_zero, List.set_cons_succ])
    refine wpAnyH_ready (rs := [8]) (by kernel_rfl) (by simp) ?_
    refine AllReadyH.cons rfl (fun K hK => ?_) AllReadyH.nil
    go_simp
    go_at_call 38
    refine (HG.out _ hbA).mono ?_
    rintro e w9 ⟨rfl, hb9⟩
    have hB9 := hbA.trans (hb9.mono hbA.size)
    have hq9 : w9.cell? ⟨w.heap.size, 0, none⟩ = some (.pointer (some ⟨g, 0, none⟩)) := (hb9.cell (p := ⟨w.heap.size, 0, none⟩) (by simp; omega)).trans (old_cell w _ _ rfl 0 rfl)
    have hi9 : InsAt w9 (w.heap.size + 1) (insOf 0) := (hb9.block (w.heap.size + 1) (by simp)).trans (show (((w.alloc (.cells #[.pointer (some ⟨g, 0, none⟩)] 31)).alloc (.cells #[.int .u8 0, .int .u8 0, .int .i64 0, .int .i64 0, .int .i64 0, .int .i64 0, .int .i64 0] 53)).drew).heap[w.heap.size + 1]? = _ from new_obj (w.alloc (.cells #[.pointer (some ⟨g, 0, none⟩)] 31)) _ (by simp))
    obtain ⟨⟨d0, d1, d2, d3, d4, d5, d6⟩, df⟩ := ins_cells hi9
    have HI9 := Lib.hid hi9
    have hne9 : w.heap.size ≠ w.heap.size + 1 := by omega
    have hlt9 := hi9.lt
    go_wp2_with fail
    refine hK.out _ _ (by exact ⟨hq9, HN.out _ hB9⟩) (fun hHeld => ?_)
    clear hK K
    (try simp only [Act.put, List.setIfInBounds_toArray, List.set_cons_zero, List.set_cons_succ])
    refine wpAnyH_take (i := 9) (v := ?_) rfl (by kernel_rfl) (by kernel_rfl) (by kernel_rfl) (fun _ _ _ h => h) (Or.inl ⟨by rfl, ?hyA9⟩) (by assumption) ?restA9
    case hyA9 => (intro W hSw; (try dsimp only at hSw); go_simp; try (with_reducible rfl))
    (try simp only [Act.put, List.setIfInBounds_toArray])
    refine wpAnyH_take (i := 10) (v := ?_) rfl (by kernel_rfl) (by kernel_rfl) (by kernel_rfl) (fun _ _ _ h => h) (Or.inl ⟨by rfl, ?hyA10⟩) (by assumption) ?restA10
    case hyA10 => (intro W hSw; (try dsimp only at hSw); go_simp; try (with_reducible rfl))
    (try simp only [Act.put])
    refine wpAnyH_take (i := 11) (v := ?_) rfl (by kernel_rfl) (by kernel_rfl) (by kernel_rfl) (fun _ _ _ h => h) (Or.inl ⟨by rfl, ?hyA11⟩) (by assumption) ?restA11
    case hyA11 => (intro W hSw; (try dsimp only at hSw); go_simp; try (with_reducible rfl))
    (try simp only [Act.put])
    refine wpAnyH_take (i := 12) (v := ?_) rfl (by kernel_rfl) (by kernel_rfl) (by kernel_rfl) (fun _ _ _ h => h) (Or.inl ⟨by rfl, ?hyA12⟩) (by assumption) ?restA12
    case hyA12 => (intro W hSw; (try dsimp only at hSw); go_simp; try (with_reducible rfl))
    (try simp only [Act.put])
    have HW := Lib.hid (show Below w.heap.size w (put7 w9 (w.heap.size + 1) i) from below_ins hB9 (by omega) _ _ _ _ _ _ _)
    have HQ := Lib.hid (show (put7 w9 (w.heap.size + 1) i).cell? ⟨w.heap.size, 0, none⟩ = some (.pointer (some ⟨g, 0, none⟩)) from (cell_same ((put7_grown w9 (w.heap.size + 1) i).block w.heap.size (by omega) (by simp)) 0).trans hq9)
    have HI := Lib.hid (put7_at hi9 i)
    unfold put7 at HW HQ HI
    clear hB9 hb9
    refine wpAnyH_ready (rs := [14]) (by kernel_rfl) (by simp) ?_
    refine AllReadyH.cons rfl (fun K hK => ?_) AllReadyH.nil
    go_simp
    refine hK.out _ _ (by exact ⟨HQ.out, HN.out _ HW.out⟩) (fun hHeld => ?_)
    clear hK K
    (try simp only [Act.put, List.setIfInBounds_toArray, List.set_cons_zero, List.set_cons_succ])
    refine wpAnyH_take (i := 15) (v := ?_) rfl (by kernel_rfl) (by kernel_rfl) (by kernel_rfl) (fun _ _ _ h => h) (Or.inl ⟨by rfl, ?hyA15⟩) (by assumption) ?restA15
    case hyA15 => (intro W hSw; (try dsimp only at hSw); go_simp; try (with_reducible rfl))
    (try simp only [Act.put, List.setIfInBounds_toArray])
    refine wpAnyH_take (i := 16) (v := ?_) rfl (by kernel_rfl) (by kernel_rfl) (by kernel_rfl) (fun _ _ _ h => h) (Or.inl ⟨by rfl, ?hyA16⟩) (by assumption) ?restA16
    case hyA16 => (intro W hSw; (try dsimp only at hSw); go_simp; try (with_reducible rfl))
    (try simp only [Act.put])
    refine wpAnyH_done (by kernel_rfl) ?_ _
    refine NoPanic.normal ?_
    go_wp2_with fail
    exact caught (HM.out _ HW.out) HQ.out (Keeps.of_below HW.out) H.out.lt HD.out
end

end Go.Proofs.YtdnpoeegefkoiaaGreat
