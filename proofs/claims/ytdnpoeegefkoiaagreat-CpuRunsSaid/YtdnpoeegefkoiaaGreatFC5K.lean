/-
  Merged for a claim: C5K.
-/
import Derived.Test.YtdnpoeegefkoiaaGreatFC5J
import Derived.Test.YtdnpoeegefkoiaaGreatFC4J2
import Derived.Test.YtdnpoeegefkoiaaGreatFR3V
import Derived.RegionTactic
import Derived.Deep.RegionHeld3
namespace Go.Proofs.YtdnpoeegefkoiaaGreat
open Go Go.RowKit

theorem mc_eq {m : Mc} {a b : Int} (h1 : m.how = a) (h2 : m.num = b) : { m with how := a, num := b } = m := by
  subst h1 h2
  rfl
theorem mc_how {m : Mc} {a : Int} (h1 : m.how = a) : { m with how := a } = m := by
  subst h1
  rfl
/-- how it stands, behind does -/
theorem doM_then {m : Mc} (h0 : m.how = 0) (he : gE m.code m.pc = 0) : doM m = { (thenM m (gI m.code m.pc) (gN m.code m.pc)).1 with how := (thenM m (gI m.code m.pc) (gN m.code m.pc)).2 } := by
  unfold doM thenM
  rw [if_pos he]
  cases hh : endOf m (gI m.code m.pc) with
  | some q => rfl
  | none =>
    have ht : (turnOf m (gI m.code m.pc) (gN m.code m.pc)).how = 0 := (turn_same m _ _).2.1.trans h0
    exact (mc_how (m := { turnOf m (gI m.code m.pc) (gN m.code m.pc) with pc := goOf m (gI m.code m.pc) (gN m.code m.pc) }) ht).symm
theorem doM_off {m : Mc} (hn : m.num = 0) (he : ¬ gE m.code m.pc = 0) : doM m = { m with how := 5 } := by
  unfold doM
  rw [if_neg he]
  subst_vars
  rw [show ({ m with how := 5, num := 0 } : Mc) = { m with how := 5, num := m.num } by rw [hn]]
section
variable {w : World} {S : Nat → Prop} {g : Nat} {m : Mc} {p : Rp}
set_option maxRecDepth 100000 in
set_option maxHeartbeats 2000000 in
theorem step_good (h : DIn w S g m p) (h0 : m.how = 0) (hn : m.num = 0) (hc : m.code.length ≤ 1099511627776) (hw : m.words.length ≤ 65536) (ho : m.out.length ≤ 1099511627776) (hin : m.input.length ≤ 1099511627776) (he : gE m.code m.pc = 0) :
    Calls Tryz.prog 13 #[.pointer (some ⟨g, 0, none⟩)] w (DoesR (doM m) (doM m).how S g w) := by
  have H := Lib.hid h
  have hlt := h.lt g h.mem
  have c6 := h.cells.2.2.2.2.2.2.1
  rw [h0] at c6
  have HD := Lib.hid (fun (W : World) (hb : Below w.heap.size w W) => h.below hb)
  have HB0 := Lib.hid (Below.refl w.heap.size w).drew
  have HG := Lib.hid (fun (W : World) (hb : Below w.heap.size w W) => refGet_any p.Ac p.cc m.code m.pc W h.ccap hc ((h.below hb).code.lies (h.below hb).lt))
  have HN := Lib.hid (show ∀ W : World, Below w.heap.size w W → W.cell? ⟨g, 0, none⟩ = some (.slice p.Ac m.code.length p.cc) ∧ W.cell? ⟨g, 1, none⟩ = some (.int .i64 m.pc) from fun W hb => ⟨(h.below hb).cells.1, (h.below hb).cells.2.1⟩)
  unfold GetR iv ic at HG
  have HX := Lib.hid (doM_then h0 he)
  have hright : rightB (gI m.code m.pc) = true := by obtain ⟨_, _, _, _, hr, _⟩ := get_got he; exact hr
  have HDN := Lib.hid (fun (W : World) (hb : Below w.heap.size w W) => does_any (next := gN m.code m.pc) (h.below hb) hn hright hw ho hin)
  rw [he] at HG
  clear h he hc hright hw ho hin hn h0
  unfold DoesR iv ic at HDN
  generalize gI m.code m.pc = i at *
  generalize gN m.code m.pc = nx at *
  go_enter Tryz.func13, Tryz.ntmps13
  go_wp2_with fail
  refine wp_region_held_drew (S := fun W => W.cell? ⟨g, 0, none⟩ = some (.slice p.Ac m.code.length p.cc) ∧ W.cell? ⟨g, 1, none⟩ = some (.int .i64 m.pc)) (by kernel_rfl) (by exact HN.out _ HB0.out) (fun hHeld => ?_)
  clear c6
  refine wpAnyH_take (i := 0) (v := ?_) rfl (by kernel_rfl) (by kernel_rfl) (by kernel_rfl) (fun _ _ _ h => h) (Or.inl ⟨by rfl, ?hyq0⟩) (by assumption) ?restq0
  case hyq0 => (intro W hSw; (try dsimp only at hSw); go_simp; try (with_reducible rfl))
  (try simp only [Act.put, List.setIfInBounds_toArray])
  refine wpAnyH_take (i := 1) (v := ?_) rfl (by kernel_rfl) (by kernel_rfl) (by kernel_rfl) (fun _ _ _ h => h) (Or.inl ⟨by rfl, ?hyq1⟩) (by assumption) ?restq1
  case hyq1 => (intro W hSw; (try dsimp only at hSw); go_simp; try (with_reducible rfl))
  (try simp only [Act.put])
  refine wpAnyH_take (i := 2) (v := ?_) rfl (by kernel_rfl) (by kernel_rfl) (by kernel_rfl) (fun _ _ _ h => h) (Or.inl ⟨by rfl, ?hyq2⟩) (by assumption) ?restq2
  case hyq2 => (intro W hSw; (try dsimp only at hSw); go_simp; try (with_reducible rfl))
  (try simp only [Act.put])
  refine wpAnyH_take (i := 3) (v := ?_) rfl (by kernel_rfl) (by kernel_rfl) (by kernel_rfl) (fun _ _ _ h => h) (Or.inl ⟨by rfl, ?hyq3⟩) (by assumption) ?restq3
  case hyq3 => (intro W hSw; (try dsimp only at hSw); go_simp; try (with_reducible rfl))
  (try simp only [Act.put])
  refine wpAnyH_take (i := 4) (v := ?_) rfl (by kernel_rfl) (by kernel_rfl) (by kernel_rfl) (fun _ _ _ h => h) (Or.inl ⟨by rfl, ?hyq4⟩) (by assumption) ?restq4
  case hyq4 => (intro W hSw; (try dsimp only at hSw); go_simp; try (with_reducible rfl))
  (try simp only [Act.put])
  refine wpAnyH_take (i := 5) (v := ?_) rfl (by kernel_rfl) (by kernel_rfl) (by kernel_rfl) (fun _ _ _ h => h) (Or.inl ⟨by rfl, ?hyq5⟩) (by assumption) ?restq5
  case hyq5 => (intro W hSw; (try dsimp only at hSw); go_simp; try (with_reducible rfl))
  (try simp only [Act.put])
  refine wpAnyH_take (i := 6) (v := ?_) rfl (by kernel_rfl) (by kernel_rfl) (by kernel_rfl) (fun _ _ _ h => h) (Or.inl ⟨by rfl, ?hyq6⟩) (by assumption) ?restq6
  case hyq6 => (intro W hSw; (try dsimp only at hSw); go_simp; try (with_reducible rfl))
  (try simp only [Act.put])
  refine wpAnyH_take (i := 7) (v := ?_) rfl (by kernel_rfl) (by kernel_rfl) (by kernel_rfl) (fun _ _ _ h => h) (Or.inl ⟨by rfl, ?hyq7⟩) (by assumption) ?restq7
  case hyq7 => (intro W hSw; (try dsimp only at hSw); go_simp; try (with_reducible rfl))
  (try simp only [Act.put])
  refine wpAnyH_ready (rs := [8, 13]) (by kernel_rfl) (by simp) ?_
  refine AllReadyH.cons rfl (fun K hK => ?_) (AllReadyH.cons rfl (fun K hK => ?_) AllReadyH.nil)
  · go_simp
    go_at_call 28
    refine (HG.out _ HB0.out).mono ?_
    rintro e w9 ⟨rfl, hb9⟩
    have hB9 := HB0.out.trans (hb9.mono HB0.out.size)
    go_wp2_with fail
    refine hK.out _ _ (by exact HN.out _ hB9) (fun hHeld => ?_)
    clear hK K
    (try simp only [Act.put, List.setIfInBounds_toArray, List.set_cons_zero, List.set_cons_succ])
    refine wpAnyH_take (i := 9) (v := ?_) rfl (by kernel_rfl) (by kernel_rfl) (by kernel_rfl) (fun _ _ _ h => h) (Or.inl ⟨by rfl, ?hyB9⟩) (by assumption) ?restB9
    case hyB9 => (intro W hSw; (try dsimp only at hSw); go_simp; try (with_reducible rfl))
    (try simp only [Act.put, List.setIfInBounds_toArray])
    refine wpAnyH_take (i := 10) (v := ?_) rfl (by kernel_rfl) (by kernel_rfl) (by kernel_rfl) (fun _ _ _ h => h) (Or.inl ⟨by rfl, ?hyB10⟩) (by assumption) ?restB10
    case hyB10 => (intro W hSw; (try dsimp only at hSw); go_simp; try (with_reducible rfl))
    (try simp only [Act.put])
    refine wpAnyH_take (i := 11) (v := ?_) rfl (by kernel_rfl) (by kernel_rfl) (by kernel_rfl) (fun _ _ _ h => h) (Or.inl ⟨by rfl, ?hyB11⟩) (by assumption) ?restB11
    case hyB11 => (intro W hSw; (try dsimp only at hSw); go_simp; try (with_reducible rfl))
    (try simp only [Act.put])
    refine wpAnyH_take (i := 12) (v := ?_) rfl (by kernel_rfl) (by kernel_rfl) (by kernel_rfl) (fun _ _ _ h => h) (Or.inl ⟨by rfl, ?hyB12⟩) (by assumption) ?restB12
    case hyB12 => (intro W hSw; (try dsimp only at hSw); go_simp; try (with_reducible rfl))
    (try simp only [Act.put])
    have HW := Lib.hid (show Below w.heap.size w (w9.alloc (.cells #[.int .u8 i.k, .int .u8 i.o, .int .i64 i.r, .int .i64 i.s, .int .i64 i.t, .int .i64 i.n, .int .i64 i.m] 53)) from hB9.alloc hB9.size _)
    have HW0 := Lib.hid (show Below w.heap.size w (w9.alloc (.cells #[.int .u8 0, .int .u8 0, .int .i64 0, .int .i64 0, .int .i64 0, .int .i64 0, .int .i64 0] 53)) from hB9.alloc hB9.size _)
    have HI := Lib.hid (show InsAt (w9.alloc (.cells #[.int .u8 i.k, .int .u8 i.o, .int .i64 i.r, .int .i64 i.s, .int .i64 i.t, .int .i64 i.n, .int .i64 i.m] 53)) w9.heap.size i from heap_alloc_new _ _)
    have hb9z := hB9.size
    clear hB9 hb9
    refine wpAnyH_ready (rs := [13]) (by kernel_rfl) (by simp) ?_
    refine AllReadyH.cons rfl (fun K hK => ?_) AllReadyH.nil
    go_simp
    refine hK.out _ _ (by exact HN.out _ HW0.out) (fun hHeld => ?_)
    clear hK K
    (try simp only [Act.put, List.setIfInBounds_toArray, List.set_cons_zero, List.set_cons_succ])
    refine wpAnyH_ready (rs := [14]) (by kernel_rfl) (by simp) ?_
    refine AllReadyH.cons rfl (fun K hK => ?_) AllReadyH.nil
    go_simp
    refine hK.out _ _ (by exact HN.out _ HW.out) (fun hHeld => ?_)
    clear hK K
    (try simp only [Act.put, List.setIfInBounds_toArray, List.set_cons_zero, List.set_cons_succ])
    refine wpAnyH_take (i := 15) (v := ?_) rfl (by kernel_rfl) (by kernel_rfl) (by kernel_rfl) (fun _ _ _ h => h) (Or.inl ⟨by rfl, ?hyB15⟩) (by assumption) ?restB15
    case hyB15 => (intro W hSw; (try dsimp only at hSw); go_simp; try (with_reducible rfl))
    (try simp only [Act.put, List.setIfInBounds_toArray])
    refine wpAnyH_take (i := 16) (v := ?_) rfl (by kernel_rfl) (by kernel_rfl) (by kernel_rfl) (fun _ _ _ h => h) (Or.inl ⟨by rfl, ?hyB16⟩) (by assumption) ?restB16
    case hyB16 => (intro W hSw; (try dsimp only at hSw); go_simp; try (with_reducible rfl))
    (try simp only [Act.put])
    refine wpAnyH_done (by kernel_rfl) ?_ _
    go_simp
    have HW' := HW.out
    have HI' := HI.out
    clear HW HI HW0 hHeld
    generalize (w9.alloc (.cells #[.int .u8 i.k, .int .u8 i.o, .int .i64 i.r, .int .i64 i.s, .int .i64 i.t, .int .i64 i.n, .int .i64 i.m] 53)) = W2 at HW' HI' ⊢
    generalize w9.heap.size = bi at HI' hb9z ⊢
    obtain ⟨⟨e0, e1, e2, e3, e4, e5, e6⟩, -⟩ := ins_cells HI'
    have HWT := Lib.hid HW'
    have hw2 : w.heap.size ≤ W2.heap.size := HW'.size
    have hbl := HI'.lt
    have HD2 := Lib.hid (HD.out _ HW')
    clear HW' HI'
    go_wp2_with fail
    go_at_call 29
    refine (HDN.out _ (by first | exact HWT.out | exact HWT.out.drew)).mono ?_
    rintro e w3 ⟨rfl, p', hd3, hk3⟩
    have f6 := hd3.frozen 6
    have c6 := hd3.cells.2.2.2.2.2.2.1
    have hl3 := hd3.lt g hd3.mem
    have HD3 := Lib.hid hd3
    have HK3 := Lib.hid hk3
    clear hd3 hk3 e0 e1 e2 e3 e4 e5 e6
    go_wp2_with fail
    go_ret
    exact does_of (by rw [HX.out]) HX.out.symm (HD3.out.setHow _) (((Keeps.of_below HWT.out).trans HK3.out fun _ hs => .inl hs).st H.out.mem _ _) H.out.lt (fun k hs => by rcases hs with q | q; exact .inl q; exact .inr ⟨by have := q.1; (try simp at this); omega, by have := q.2; simpa [World.setCell] using this⟩)
  · go_simp
    have hbA := (below_box w (.cells #[.int .u8 0, .int .u8 0, .int .i64 0, .int .i64 0, .int .i64 0, .int .i64 0, .int .i64 0] 53)).drew
    refine hK.out _ _ (by exact HN.out _ hbA) (fun hHeld => ?_)
    clear hK K
    (try simp only [Act.put, List.setIfInBounds_toArray, List.set_cons_zero, List.set_cons_succ])
    refine wpAnyH_ready (rs := [8]) (by kernel_rfl) (by simp) ?_
    refine AllReadyH.cons rfl (fun K hK => ?_) AllReadyH.nil
    go_simp
    go_at_call 28
    refine (HG.out _ hbA).mono ?_
    rintro e w9 ⟨rfl, hb9⟩
    have hB9 := hbA.trans (hb9.mono hbA.size)
    have hi9 : InsAt w9 w.heap.size (insOf 0) := (hb9.block w.heap.size (by simp)).trans (heap_alloc_new w _)
    obtain ⟨⟨d0, d1, d2, d3, d4, d5, d6⟩, df⟩ := ins_cells hi9
    have HI9 := Lib.hid hi9
    have hlt9 := hi9.lt
    go_wp2_with fail
    refine hK.out _ _ (by exact HN.out _ hB9) (fun hHeld => ?_)
    clear hK K
    (try simp only [Act.put, List.setIfInBounds_toArray, List.set_cons_zero, List.set_cons_succ])
    refine wpAnyH_take (i := 9) (v := ?_) rfl (by kernel_rfl) (by kernel_rfl) (by kernel_rfl) (fun _ _ _ h => h) (Or.inl ⟨by rfl, ?hyA9⟩) (by assumption) ?restA9
    case hyA9 => (intro W hSw; (try dsimp only at hSw); go_simp; try (with_reducible rfl))
    (try simp only [Act.put, List.setIfInBounds_toArray])
    refine wpAnyH_take (i := 10) (v := ?_) rfl (by kernel_rfl) (by kernel_rfl) (by kernel_rfl) (fun _ _ _ h => h) (Or.inl ⟨by rfl, ?hyA10⟩) (by assumption) ?restA10
    case hyA10 => (intro W hSw; (try dsimp only at hSw); go_simp; try (with_reducible rfl))
    (try simp only [Act.put])
    refine wpAnyH_take (i := 11) (v := ?_) rfl (by kernel_rfl) (by kernel_rfl) (by kernel_rfl) (fun _ _ _ h => h) (Or.inl ⟨by rfl, ?hyA11⟩) (by assumption) ?restA11
    case hyA11 => (intro W hSw; (try dsimp only at hSw); go_simp; try (with_reducible rfl))
    (try simp only [Act.put])
    refine wpAnyH_take (i := 12) (v := ?_) rfl (by kernel_rfl) (by kernel_rfl) (by kernel_rfl) (fun _ _ _ h => h) (Or.inl ⟨by rfl, ?hyA12⟩) (by assumption) ?restA12
    case hyA12 => (intro W hSw; (try dsimp only at hSw); go_simp; try (with_reducible rfl))
    (try simp only [Act.put])
    have HW := Lib.hid (show Below w.heap.size w (put7 w9 w.heap.size i) from below_ins hB9 (Nat.le_refl _) _ _ _ _ _ _ _)
    have HI := Lib.hid (put7_at hi9 i)
    unfold put7 at HW HI
    clear hB9 hb9
    refine wpAnyH_ready (rs := [14]) (by kernel_rfl) (by simp) ?_
    refine AllReadyH.cons rfl (fun K hK => ?_) AllReadyH.nil
    go_simp
    refine hK.out _ _ (by exact HN.out _ HW.out) (fun hHeld => ?_)
    clear hK K
    (try simp only [Act.put, List.setIfInBounds_toArray, List.set_cons_zero, List.set_cons_succ])
    refine wpAnyH_take (i := 15) (v := ?_) rfl (by kernel_rfl) (by kernel_rfl) (by kernel_rfl) (fun _ _ _ h => h) (Or.inl ⟨by rfl, ?hyA15⟩) (by assumption) ?restA15
    case hyA15 => (intro W hSw; (try dsimp only at hSw); go_simp; try (with_reducible rfl))
    (try simp only [Act.put, List.setIfInBounds_toArray])
    refine wpAnyH_take (i := 16) (v := ?_) rfl (by kernel_rfl) (by kernel_rfl) (by kernel_rfl) (fun _ _ _ h => h) (Or.inl ⟨by rfl, ?hyA16⟩) (by assumption) ?restA16
    case hyA16 => (intro W hSw; (try dsimp only at hSw); go_simp; try (with_reducible rfl))
    (try simp only [Act.put])
    refine wpAnyH_done (by kernel_rfl) ?_ _
    go_simp
    have HW' := HW.out
    have HI' := HI.out
    have hb9z := Nat.le_refl w.heap.size
    clear HW HI HI9 hlt9 df d0 d1 d2 d3 d4 d5 d6 hbA hHeld
    generalize (((((((w9.setCell ⟨w.heap.size, 0, none⟩ (.int .u8 i.k)).setCell ⟨w.heap.size, 1, none⟩ (.int .u8 i.o)).setCell ⟨w.heap.size, 2, none⟩ (.int .i64 i.r)).setCell ⟨w.heap.size, 3, none⟩ (.int .i64 i.s)).setCell ⟨w.heap.size, 4, none⟩ (.int .i64 i.t)).setCell ⟨w.heap.size, 5, none⟩ (.int .i64 i.n)).setCell ⟨w.heap.size, 6, none⟩ (.int .i64 i.m)) = W2 at HW' HI' ⊢
    skip
    obtain ⟨⟨e0, e1, e2, e3, e4, e5, e6⟩, -⟩ := ins_cells HI'
    have HWT := Lib.hid HW'
    have hw2 : w.heap.size ≤ W2.heap.size := HW'.size
    have hbl := HI'.lt
    have HD2 := Lib.hid (HD.out _ HW')
    clear HW' HI'
    go_wp2_with fail
    go_at_call 29
    refine (HDN.out _ (by first | exact HWT.out | exact HWT.out.drew)).mono ?_
    rintro e w3 ⟨rfl, p', hd3, hk3⟩
    have f6 := hd3.frozen 6
    have c6 := hd3.cells.2.2.2.2.2.2.1
    have hl3 := hd3.lt g hd3.mem
    have HD3 := Lib.hid hd3
    have HK3 := Lib.hid hk3
    clear hd3 hk3 e0 e1 e2 e3 e4 e5 e6
    go_wp2_with fail
    go_ret
    exact does_of (by rw [HX.out]) HX.out.symm (HD3.out.setHow _) (((Keeps.of_below HWT.out).trans HK3.out fun _ hs => .inl hs).st H.out.mem _ _) H.out.lt (fun k hs => by rcases hs with q | q; exact .inl q; exact .inr ⟨by have := q.1; (try simp at this); omega, by have := q.2; simpa [World.setCell] using this⟩)
set_option maxRecDepth 100000 in
set_option maxHeartbeats 2000000 in
theorem step_off (h : DIn w S g m p) (h0 : m.how = 0) (hn : m.num = 0) (hc : m.code.length ≤ 1099511627776) (he : ¬ gE m.code m.pc = 0) :
    Calls Tryz.prog 13 #[.pointer (some ⟨g, 0, none⟩)] w (DoesR (doM m) (doM m).how S g w) := by
  have H := Lib.hid h
  have hlt := h.lt g h.mem
  have c6 := h.cells.2.2.2.2.2.2.1
  rw [h0] at c6
  have HD := Lib.hid (fun (W : World) (hb : Below w.heap.size w W) => h.below hb)
  have HB0 := Lib.hid (Below.refl w.heap.size w).drew
  have HG := Lib.hid (fun (W : World) (hb : Below w.heap.size w W) => refGet_any p.Ac p.cc m.code m.pc W h.ccap hc ((h.below hb).code.lies (h.below hb).lt))
  have HN := Lib.hid (show ∀ W : World, Below w.heap.size w W → W.cell? ⟨g, 0, none⟩ = some (.slice p.Ac m.code.length p.cc) ∧ W.cell? ⟨g, 1, none⟩ = some (.int .i64 m.pc) from fun W hb => ⟨(h.below hb).cells.1, (h.below hb).cells.2.1⟩)
  unfold GetR iv ic at HG
  have HX := Lib.hid (doM_off hn he)
  have hne : (gE m.code m.pc != 0) = true := by simpa using he
  clear h he hc hn h0
  generalize gE m.code m.pc = er at *
  generalize gI m.code m.pc = i at *
  generalize gN m.code m.pc = nx at *
  go_enter Tryz.func13, Tryz.ntmps13
  go_wp2_with fail
  refine wp_region_held_drew (S := fun W => W.cell? ⟨g, 0, none⟩ = some (.slice p.Ac m.code.length p.cc) ∧ W.cell? ⟨g, 1, none⟩ = some (.int .i64 m.pc)) (by kernel_rfl) (by exact HN.out _ HB0.out) (fun hHeld => ?_)
  clear c6
  refine wpAnyH_take (i := 0) (v := ?_) rfl (by kernel_rfl) (by kernel_rfl) (by kernel_rfl) (fun _ _ _ h => h) (Or.inl ⟨by rfl, ?hyq0⟩) (by assumption) ?restq0
  case hyq0 => (intro W hSw; (try dsimp only at hSw); go_simp; try (with_reducible rfl))
  (try simp only [Act.put, List.setIfInBounds_toArray])
  refine wpAnyH_take (i := 1) (v := ?_) rfl (by kernel_rfl) (by kernel_rfl) (by kernel_rfl) (fun _ _ _ h => h) (Or.inl ⟨by rfl, ?hyq1⟩) (by assumption) ?restq1
  case hyq1 => (intro W hSw; (try dsimp only at hSw); go_simp; try (with_reducible rfl))
  (try simp only [Act.put])
  refine wpAnyH_take (i := 2) (v := ?_) rfl (by kernel_rfl) (by kernel_rfl) (by kernel_rfl) (fun _ _ _ h => h) (Or.inl ⟨by rfl, ?hyq2⟩) (by assumption) ?restq2
  case hyq2 => (intro W hSw; (try dsimp only at hSw); go_simp; try (with_reducible rfl))
  (try simp only [Act.put])
  refine wpAnyH_take (i := 3) (v := ?_) rfl (by kernel_rfl) (by kernel_rfl) (by kernel_rfl) (fun _ _ _ h => h) (Or.inl ⟨by rfl, ?hyq3⟩) (by assumption) ?restq3
  case hyq3 => (intro W hSw; (try dsimp only at hSw); go_simp; try (with_reducible rfl))
  (try simp only [Act.put])
  refine wpAnyH_take (i := 4) (v := ?_) rfl (by kernel_rfl) (by kernel_rfl) (by kernel_rfl) (fun _ _ _ h => h) (Or.inl ⟨by rfl, ?hyq4⟩) (by assumption) ?restq4
  case hyq4 => (intro W hSw; (try dsimp only at hSw); go_simp; try (with_reducible rfl))
  (try simp only [Act.put])
  refine wpAnyH_take (i := 5) (v := ?_) rfl (by kernel_rfl) (by kernel_rfl) (by kernel_rfl) (fun _ _ _ h => h) (Or.inl ⟨by rfl, ?hyq5⟩) (by assumption) ?restq5
  case hyq5 => (intro W hSw; (try dsimp only at hSw); go_simp; try (with_reducible rfl))
  (try simp only [Act.put])
  refine wpAnyH_take (i := 6) (v := ?_) rfl (by kernel_rfl) (by kernel_rfl) (by kernel_rfl) (fun _ _ _ h => h) (Or.inl ⟨by rfl, ?hyq6⟩) (by assumption) ?restq6
  case hyq6 => (intro W hSw; (try dsimp only at hSw); go_simp; try (with_reducible rfl))
  (try simp only [Act.put])
  refine wpAnyH_take (i := 7) (v := ?_) rfl (by kernel_rfl) (by kernel_rfl) (by kernel_rfl) (fun _ _ _ h => h) (Or.inl ⟨by rfl, ?hyq7⟩) (by assumption) ?restq7
  case hyq7 => (intro W hSw; (try dsimp only at hSw); go_simp; try (with_reducible rfl))
  (try simp only [Act.put])
  refine wpAnyH_ready (rs := [8, 13]) (by kernel_rfl) (by simp) ?_
  refine AllReadyH.cons rfl (fun K hK => ?_) (AllReadyH.cons rfl (fun K hK => ?_) AllReadyH.nil)
  · go_simp
    go_at_call 28
    refine (HG.out _ HB0.out).mono ?_
    rintro e w9 ⟨rfl, hb9⟩
    have hB9 := HB0.out.trans (hb9.mono HB0.out.size)
    go_wp2_with fail
    refine hK.out _ _ (by exact HN.out _ hB9) (fun hHeld => ?_)
    clear hK K
    (try simp only [Act.put, List.setIfInBounds_toArray, List.set_cons_zero, List.set_cons_succ])
    refine wpAnyH_take (i := 9) (v := ?_) rfl (by kernel_rfl) (by kernel_rfl) (by kernel_rfl) (fun _ _ _ h => h) (Or.inl ⟨by rfl, ?hyB9⟩) (by assumption) ?restB9
    case hyB9 => (intro W hSw; (try dsimp only at hSw); go_simp; try (with_reducible rfl))
    (try simp only [Act.put, List.setIfInBounds_toArray])
    refine wpAnyH_take (i := 10) (v := ?_) rfl (by kernel_rfl) (by kernel_rfl) (by kernel_rfl) (fun _ _ _ h => h) (Or.inl ⟨by rfl, ?hyB10⟩) (by assumption) ?restB10
    case hyB10 => (intro W hSw; (try dsimp only at hSw); go_simp; try (with_reducible rfl))
    (try simp only [Act.put])
    refine wpAnyH_take (i := 11) (v := ?_) rfl (by kernel_rfl) (by kernel_rfl) (by kernel_rfl) (fun _ _ _ h => h) (Or.inl ⟨by rfl, ?hyB11⟩) (by assumption) ?restB11
    case hyB11 => (intro W hSw; (try dsimp only at hSw); go_simp; try (with_reducible rfl))
    (try simp only [Act.put])
    refine wpAnyH_take (i := 12) (v := ?_) rfl (by kernel_rfl) (by kernel_rfl) (by kernel_rfl) (fun _ _ _ h => h) (Or.inl ⟨by rfl, ?hyB12⟩) (by assumption) ?restB12
    case hyB12 => (intro W hSw; (try dsimp only at hSw); go_simp; try (with_reducible rfl))
    (try simp only [Act.put])
    have HW := Lib.hid (show Below w.heap.size w (w9.alloc (.cells #[.int .u8 i.k, .int .u8 i.o, .int .i64 i.r, .int .i64 i.s, .int .i64 i.t, .int .i64 i.n, .int .i64 i.m] 53)) from hB9.alloc hB9.size _)
    have HW0 := Lib.hid (show Below w.heap.size w (w9.alloc (.cells #[.int .u8 0, .int .u8 0, .int .i64 0, .int .i64 0, .int .i64 0, .int .i64 0, .int .i64 0] 53)) from hB9.alloc hB9.size _)
    have HI := Lib.hid (show InsAt (w9.alloc (.cells #[.int .u8 i.k, .int .u8 i.o, .int .i64 i.r, .int .i64 i.s, .int .i64 i.t, .int .i64 i.n, .int .i64 i.m] 53)) w9.heap.size i from heap_alloc_new _ _)
    have hb9z := hB9.size
    clear hB9 hb9
    refine wpAnyH_ready (rs := [13]) (by kernel_rfl) (by simp) ?_
    refine AllReadyH.cons rfl (fun K hK => ?_) AllReadyH.nil
    go_simp
    refine hK.out _ _ (by exact HN.out _ HW0.out) (fun hHeld => ?_)
    clear hK K
    (try simp only [Act.put, List.setIfInBounds_toArray, List.set_cons_zero, List.set_cons_succ])
    refine wpAnyH_ready (rs := [14]) (by kernel_rfl) (by simp) ?_
    refine AllReadyH.cons rfl (fun K hK => ?_) AllReadyH.nil
    go_simp
    refine hK.out _ _ (by exact HN.out _ HW.out) (fun hHeld => ?_)
    clear hK K
    (try simp only [Act.put, List.setIfInBounds_toArray, List.set_cons_zero, List.set_cons_succ])
    refine wpAnyH_take (i := 15) (v := ?_) rfl (by kernel_rfl) (by kernel_rfl) (by kernel_rfl) (fun _ _ _ h => h) (Or.inl ⟨by rfl, ?hyB15⟩) (by assumption) ?restB15
    case hyB15 => (intro W hSw; (try dsimp only at hSw); go_simp; try (with_reducible rfl))
    (try simp only [Act.put, List.setIfInBounds_toArray])
    refine wpAnyH_take (i := 16) (v := ?_) rfl (by kernel_rfl) (by kernel_rfl) (by kernel_rfl) (fun _ _ _ h => h) (Or.inl ⟨by rfl, ?hyB16⟩) (by assumption) ?restB16
    case hyB16 => (intro W hSw; (try dsimp only at hSw); go_simp; try (with_reducible rfl))
    (try simp only [Act.put])
    refine wpAnyH_done (by kernel_rfl) ?_ _
    go_simp
    have HW' := HW.out
    have HI' := HI.out
    clear HW HI HW0 hHeld
    generalize (w9.alloc (.cells #[.int .u8 i.k, .int .u8 i.o, .int .i64 i.r, .int .i64 i.s, .int .i64 i.t, .int .i64 i.n, .int .i64 i.m] 53)) = W2 at HW' HI' ⊢
    generalize w9.heap.size = bi at HI' hb9z ⊢
    obtain ⟨⟨e0, e1, e2, e3, e4, e5, e6⟩, -⟩ := ins_cells HI'
    have HWT := Lib.hid HW'
    have hw2 : w.heap.size ≤ W2.heap.size := HW'.size
    have hbl := HI'.lt
    have HD2 := Lib.hid (HD.out _ HW')
    have f6 := HD2.out.frozen 6
    have c6 := HD2.out.cells.2.2.2.2.2.2.1
    have hl2 := HD2.out.lt g HD2.out.mem
    clear HW' HI' e0 e1 e2 e3 e4 e5 e6
    go_wp2_with fail
    go_ret
    exact does_same (by rw [HX.out]) HX.out.symm (HD2.out.setHow 5) ((Keeps.of_below HWT.out).st H.out.mem _ _) H.out.lt
  · go_simp
    have hbA := (below_box w (.cells #[.int .u8 0, .int .u8 0, .int .i64 0, .int .i64 0, .int .i64 0, .int .i64 0, .int .i64 0] 53)).drew
    refine hK.out _ _ (by exact HN.out _ hbA) (fun hHeld => ?_)
    clear hK K
    (try simp only [Act.put, List.setIfInBounds_toArray, List.set_cons_zero, List.set_cons_succ])
    refine wpAnyH_ready (rs := [8]) (by kernel_rfl) (by simp) ?_
    refine AllReadyH.cons rfl (fun K hK => ?_) AllReadyH.nil
    go_simp
    go_at_call 28
    refine (HG.out _ hbA).mono ?_
    rintro e w9 ⟨rfl, hb9⟩
    have hB9 := hbA.trans (hb9.mono hbA.size)
    have hi9 : InsAt w9 w.heap.size (insOf 0) := (hb9.block w.heap.size (by simp)).trans (heap_alloc_new w _)
    obtain ⟨⟨d0, d1, d2, d3, d4, d5, d6⟩, df⟩ := ins_cells hi9
    have HI9 := Lib.hid hi9
    have hlt9 := hi9.lt
    go_wp2_with fail
    refine hK.out _ _ (by exact HN.out _ hB9) (fun hHeld => ?_)
    clear hK K
    (try simp only [Act.put, List.setIfInBounds_toArray, List.set_cons_zero, List.set_cons_succ])
    refine wpAnyH_take (i := 9) (v := ?_) rfl (by kernel_rfl) (by kernel_rfl) (by kernel_rfl) (fun _ _ _ h => h) (Or.inl ⟨by rfl, ?hyA9⟩) (by assumption) ?restA9
    case hyA9 => (intro W hSw; (try dsimp only at hSw); go_simp; try (with_reducible rfl))
    (try simp only [Act.put, List.setIfInBounds_toArray])
    refine wpAnyH_take (i := 10) (v := ?_) rfl (by kernel_rfl) (by kernel_rfl) (by kernel_rfl) (fun _ _ _ h => h) (Or.inl ⟨by rfl, ?hyA10⟩) (by assumption) ?restA10
    case hyA10 => (intro W hSw; (try dsimp only at hSw); go_simp; try (with_reducible rfl))
    (try simp only [Act.put])
    refine wpAnyH_take (i := 11) (v := ?_) rfl (by kernel_rfl) (by kernel_rfl) (by kernel_rfl) (fun _ _ _ h => h) (Or.inl ⟨by rfl, ?hyA11⟩) (by assumption) ?restA11
    case hyA11 => (intro W hSw; (try dsimp only at hSw); go_simp; try (with_reducible rfl))
    (try simp only [Act.put])
    refine wpAnyH_take (i := 12) (v := ?_) rfl (by kernel_rfl) (by kernel_rfl) (by kernel_rfl) (fun _ _ _ h => h) (Or.inl ⟨by rfl, ?hyA12⟩) (by assumption) ?restA12
    case hyA12 => (intro W hSw; (try dsimp only at hSw); go_simp; try (with_reducible rfl))
    (try simp only [Act.put])
    have HW := Lib.hid (show Below w.heap.size w (put7 w9 w.heap.size i) from below_ins hB9 (Nat.le_refl _) _ _ _ _ _ _ _)
    have HI := Lib.hid (put7_at hi9 i)
    unfold put7 at HW HI
    clear hB9 hb9
    refine wpAnyH_ready (rs := [14]) (by kernel_rfl) (by simp) ?_
    refine AllReadyH.cons rfl (fun K hK => ?_) AllReadyH.nil
    go_simp
    refine hK.out _ _ (by exact HN.out _ HW.out) (fun hHeld => ?_)
    clear hK K
    (try simp only [Act.put, List.setIfInBounds_toArray, List.set_cons_zero, List.set_cons_succ])
    refine wpAnyH_take (i := 15) (v := ?_) rfl (by kernel_rfl) (by kernel_rfl) (by kernel_rfl) (fun _ _ _ h => h) (Or.inl ⟨by rfl, ?hyA15⟩) (by assumption) ?restA15
    case hyA15 => (intro W hSw; (try dsimp only at hSw); go_simp; try (with_reducible rfl))
    (try simp only [Act.put, List.setIfInBounds_toArray])
    refine wpAnyH_take (i := 16) (v := ?_) rfl (by kernel_rfl) (by kernel_rfl) (by kernel_rfl) (fun _ _ _ h => h) (Or.inl ⟨by rfl, ?hyA16⟩) (by assumption) ?restA16
    case hyA16 => (intro W hSw; (try dsimp only at hSw); go_simp; try (with_reducible rfl))
    (try simp only [Act.put])
    refine wpAnyH_done (by kernel_rfl) ?_ _
    go_simp
    have HW' := HW.out
    have HI' := HI.out
    have hb9z := Nat.le_refl w.heap.size
    clear HW HI HI9 hlt9 df d0 d1 d2 d3 d4 d5 d6 hbA hHeld
    generalize (((((((w9.setCell ⟨w.heap.size, 0, none⟩ (.int .u8 i.k)).setCell ⟨w.heap.size, 1, none⟩ (.int .u8 i.o)).setCell ⟨w.heap.size, 2, none⟩ (.int .i64 i.r)).setCell ⟨w.heap.size, 3, none⟩ (.int .i64 i.s)).setCell ⟨w.heap.size, 4, none⟩ (.int .i64 i.t)).setCell ⟨w.heap.size, 5, none⟩ (.int .i64 i.n)).setCell ⟨w.heap.size, 6, none⟩ (.int .i64 i.m)) = W2 at HW' HI' ⊢
    skip
    obtain ⟨⟨e0, e1, e2, e3, e4, e5, e6⟩, -⟩ := ins_cells HI'
    have HWT := Lib.hid HW'
    have hw2 : w.heap.size ≤ W2.heap.size := HW'.size
    have hbl := HI'.lt
    have HD2 := Lib.hid (HD.out _ HW')
    have f6 := HD2.out.frozen 6
    have c6 := HD2.out.cells.2.2.2.2.2.2.1
    have hl2 := HD2.out.lt g HD2.out.mem
    clear HW' HI' e0 e1 e2 e3 e4 e5 e6
    go_wp2_with fail
    go_ret
    exact does_same (by rw [HX.out]) HX.out.symm (HD2.out.setHow 5) ((Keeps.of_below HWT.out).st H.out.mem _ _) H.out.lt
set_option maxRecDepth 100000 in
theorem step_still (h : DIn w S g m p) (h0 : ¬ m.how = 0) :
    Calls Tryz.prog 13 #[.pointer (some ⟨g, 0, none⟩)] w (DoesR m m.how S g w) := by
  have H := Lib.hid h
  have c6 := h.cells.2.2.2.2.2.2.1
  have h1 : (m.how != 0) = true := by simpa using h0
  clear h
  go_enter Tryz.func13, Tryz.ntmps13
  go_wp2_with fail
  go_ret
  exact does_same rfl rfl H.out (Keeps.refl S w) H.out.lt
/-- the document's Step is a step of the machine -/
theorem dstep_any (h : DIn w S g m p) (hn : m.how = 0 → m.num = 0) (hc : m.code.length ≤ 1099511627776) (hw : m.words.length ≤ 65536) (ho : m.out.length ≤ 1099511627776) (hin : m.input.length ≤ 1099511627776) :
    Calls Tryz.prog 13 #[.pointer (some ⟨g, 0, none⟩)] w (DoesR (stepM m) (stepM m).how S g w) := by
  unfold stepM
  split
  · rename_i h0
    by_cases he : gE m.code m.pc = 0
    · exact step_good h h0 (hn h0) hc hw ho hin he
    · exact step_off h h0 (hn h0) hc he
  · rename_i h0
    exact step_still h h0
end
end Go.Proofs.YtdnpoeegefkoiaaGreat
