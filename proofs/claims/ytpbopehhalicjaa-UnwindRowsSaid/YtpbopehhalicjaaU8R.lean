/-
  Contracts of unwind.kept (of sixteen), word, Find, frame.
-/
import Derived.Test.YtpbopehhalicjaaU8Q
import Derived.Deep.RegionHeld
namespace Go.Proofs.Ytpbopehhalicjaa
open Go Go.RowKit

def keptL {α : Type} (z : α) (l : List α) : List α := List.replicate 6 z ++ ((l.drop 6).take 6 ++ List.replicate 4 z)
theorem keptL_len {α : Type} (z : α) (l : List α) (h : l.length = 16) : (keptL z l).length = 16 := by simp [keptL, h]
theorem keptL_map {α β : Type} (f : α → β) (z : α) (l : List α) : keptL (f z) (l.map f) = (keptL z l).map f := by simp [keptL, List.map_take, List.map_drop]
theorem splice_kept {α : Type} (z : α) (l : List α) (h : l.length = 16) (m : List α) (hm : m = List.replicate 16 z) : splice m 6 ((l.drop 6).take 6) = keptL z l := by
  subst hm
  have h2 : ((l.drop 6).take 6).length = 6 := by simp [h]
  unfold splice keptL
  rw [h2]
  rfl

set_option maxRecDepth 100000 in
set_option maxHeartbeats 2000000 in
theorem kept_B (g o c : Nat) (l : List Bool) (w : World) (hl : l.length = 16) (hc : 16 ≤ c) (h : CLies w w.heap.size (some ⟨g, o, none⟩) (l.map bV)) :
    Calls Try.prog 24 #[.slice (some ⟨g, o, none⟩) 16 c] w (OwnR w 4 16 (keptL (Value.bool false) (l.map bV))) := by
  have HL := Lib.hid h
  have hci : (16 : Int) ≤ c := by omega
  have hc6 : ¬ c = 6 := by omega
  clear h
  go_enter Try.func24, Try.ntmps24
  go_wp2_with (first
    | (at_make
       refine make_row _ rfl 32 4 (.const (.int .i64 16)) (.const (.int .i64 16)) rfl _ 1 1 Try.underlying32 bool_info 16 _ _ rfl rfl rfl rfl (by omega) (by omega) ?_
       intro w1 hk1 hb1 hs1
       have HK1 := Lib.hid hk1
       have HB1 := Lib.hid hb1
       clear hk1 hb1)
    | fail)
  refine wp_region_held_drew (S := fun W9 => True) (by kernel_rfl) (trivial) (fun hHeld => ?_)
  refine heldTake (i := 0) (d := some 8) (v := ?_) rfl rfl (by kernel_rfl) (by kernel_rfl) (by kernel_rfl) (fun _ _ _ h => h) (by kernel_rfl) ?hyq_1 (by assumption) ?restq_1
  case hyq_1 => (intro W9 hSw; (try dsimp only at hSw); go_simp; try (with_reducible rfl))
  (try simp only [Act.put, List.setIfInBounds_toArray, List.set_cons_zero, List.set_cons_succ])
  refine heldTake (i := 1) (d := some 9) (v := ?_) rfl rfl (by kernel_rfl) (by kernel_rfl) (by kernel_rfl) (fun _ _ _ h => h) (by kernel_rfl) ?hyq_2 (by assumption) ?restq_2
  case hyq_2 => (intro W9 hSw; (try dsimp only at hSw); go_simp; try (with_reducible rfl))
  (try simp only [Act.put, List.setIfInBounds_toArray, List.set_cons_zero, List.set_cons_succ])
  refine heldTake (i := 2) (d := some 10) (v := ?_) rfl rfl (by kernel_rfl) (by kernel_rfl) (by kernel_rfl) (fun _ _ _ h => h) (by kernel_rfl) ?hyq_3 (by assumption) ?restq_3
  case hyq_3 => (intro W9 hSw; (try dsimp only at hSw); go_simp; try (with_reducible rfl))
  (try simp only [Act.put, List.setIfInBounds_toArray, List.set_cons_zero, List.set_cons_succ])
  refine heldTake (i := 3) (d := some 11) (v := ?_) rfl rfl (by kernel_rfl) (by kernel_rfl) (by kernel_rfl) (fun _ _ _ h => h) (by kernel_rfl) ?hyq_4 (by assumption) ?restq_4
  case hyq_4 => (intro W9 hSw; (try dsimp only at hSw); go_simp; try (with_reducible rfl))
  (try simp only [Act.put, List.setIfInBounds_toArray, List.set_cons_zero, List.set_cons_succ])
  refine wpAnyH_ready (rs := [4]) (by kernel_rfl) (by simp) ?_
  refine AllReadyH.cons rfl (fun K hK => ?_) AllReadyH.nil
  refine step_copy_splice rfl (.tmp 9) (.tmp 11) 32 32 rfl 4 Try.underlying32 bool_size _ _ 6 10 10 _ rfl rfl w.heap.size 6 _ 4 HK1.out ((l.map bV).drop 6 |>.take 6) (by simp [hl]) (fun _ => ⟨rfl, _, rfl, fun j v hj => ?cpsrc⟩) (by rw [made_len]; simp [hl]) (fun v hv => bV_one l v (List.mem_of_mem_drop (List.mem_of_mem_take hv))) w.heap.size w HB1.out.drew (Nat.le_refl _) ?_
  case cpsrc =>
    obtain ⟨hj6, hv⟩ := List.getElem?_eq_some_iff.1 hj
    have hj7 : j < 6 := by simp [hl] at hj6; omega
    have := (HL.out.below HB1.out).at_ (j := 6 + j) (by simp [hl]; omega)
    obtain ⟨g', o', e', _, hc'⟩ := this
    simp only [Option.some.injEq, Addr.mk.injEq] at e'
    obtain ⟨rfl, rfl, _⟩ := e'
    rw [add_zero_off, Nat.add_assoc, show w1.drew.cell? _ = w1.cell? _ from rfl, hc', ← hv]
    simp
  intro w2 HG2 hB2
  have HB2 := Lib.hid hB2
  refine hK.out _ _ trivial (fun hHeld => ?_)
  clear hK K
  (try simp only [Act.put, List.setIfInBounds_toArray])
  refine wpAnyH_done (by kernel_rfl) ?_ _
  go_wp2_with fail
  go_ret
  refine ⟨rfl, ?_, HB2.out⟩
  have q := HG2.out
  unfold CAt
  rw [show keptL (Value.bool false) (l.map bV) = splice (madeCells (Value.bool false).cells (16 * 1)).toList 6 ((l.map bV).drop 6 |>.take 6) from (splice_kept _ _ (by simp [hl]) _ (by kernel_rfl)).symm]
  exact q

set_option maxRecDepth 100000 in
set_option maxHeartbeats 2000000 in
theorem kept_N (g o c : Nat) (l : List Int) (w : World) (hl : l.length = 16) (hc : 16 ≤ c) (h : CLies w w.heap.size (some ⟨g, o, none⟩) (l.map n7)) :
    Calls Try.prog 25 #[.slice (some ⟨g, o, none⟩) 16 c] w (OwnR w 2 16 (keptL (Value.int .i64 0) (l.map n7))) := by
  have HL := Lib.hid h
  have hci : (16 : Int) ≤ c := by omega
  have hc6 : ¬ c = 6 := by omega
  clear h
  go_enter Try.func25, Try.ntmps25
  go_wp2_with (first
    | (at_make
       refine make_row _ rfl 23 2 (.const (.int .i64 16)) (.const (.int .i64 16)) rfl _ 1 8 Try.underlying23 i64_info 16 _ _ rfl rfl rfl rfl (by omega) (by omega) ?_
       intro w1 hk1 hb1 hs1
       have HK1 := Lib.hid hk1
       have HB1 := Lib.hid hb1
       clear hk1 hb1)
    | fail)
  refine wp_region_held_drew (S := fun W9 => True) (by kernel_rfl) (trivial) (fun hHeld => ?_)
  refine heldTake (i := 0) (d := some 8) (v := ?_) rfl rfl (by kernel_rfl) (by kernel_rfl) (by kernel_rfl) (fun _ _ _ h => h) (by kernel_rfl) ?hyq_1 (by assumption) ?restq_1
  case hyq_1 => (intro W9 hSw; (try dsimp only at hSw); go_simp; try (with_reducible rfl))
  (try simp only [Act.put, List.setIfInBounds_toArray, List.set_cons_zero, List.set_cons_succ])
  refine heldTake (i := 1) (d := some 9) (v := ?_) rfl rfl (by kernel_rfl) (by kernel_rfl) (by kernel_rfl) (fun _ _ _ h => h) (by kernel_rfl) ?hyq_2 (by assumption) ?restq_2
  case hyq_2 => (intro W9 hSw; (try dsimp only at hSw); go_simp; try (with_reducible rfl))
  (try simp only [Act.put, List.setIfInBounds_toArray, List.set_cons_zero, List.set_cons_succ])
  refine heldTake (i := 2) (d := some 10) (v := ?_) rfl rfl (by kernel_rfl) (by kernel_rfl) (by kernel_rfl) (fun _ _ _ h => h) (by kernel_rfl) ?hyq_3 (by assumption) ?restq_3
  case hyq_3 => (intro W9 hSw; (try dsimp only at hSw); go_simp; try (with_reducible rfl))
  (try simp only [Act.put, List.setIfInBounds_toArray, List.set_cons_zero, List.set_cons_succ])
  refine heldTake (i := 3) (d := some 11) (v := ?_) rfl rfl (by kernel_rfl) (by kernel_rfl) (by kernel_rfl) (fun _ _ _ h => h) (by kernel_rfl) ?hyq_4 (by assumption) ?restq_4
  case hyq_4 => (intro W9 hSw; (try dsimp only at hSw); go_simp; try (with_reducible rfl))
  (try simp only [Act.put, List.setIfInBounds_toArray, List.set_cons_zero, List.set_cons_succ])
  refine wpAnyH_ready (rs := [4]) (by kernel_rfl) (by simp) ?_
  refine AllReadyH.cons rfl (fun K hK => ?_) AllReadyH.nil
  refine step_copy_splice rfl (.tmp 9) (.tmp 11) 23 23 rfl 2 Try.underlying23 i64_size _ _ 6 10 10 _ rfl rfl w.heap.size 6 _ 2 HK1.out ((l.map n7).drop 6 |>.take 6) (by simp [hl]) (fun _ => ⟨rfl, _, rfl, fun j v hj => ?cpsrc⟩) (by rw [made_len]; simp [hl]) (fun v hv => n7_one l v (List.mem_of_mem_drop (List.mem_of_mem_take hv))) w.heap.size w HB1.out.drew (Nat.le_refl _) ?_
  case cpsrc =>
    obtain ⟨hj6, hv⟩ := List.getElem?_eq_some_iff.1 hj
    have hj7 : j < 6 := by simp [hl] at hj6; omega
    have := (HL.out.below HB1.out).at_ (j := 6 + j) (by simp [hl]; omega)
    obtain ⟨g', o', e', _, hc'⟩ := this
    simp only [Option.some.injEq, Addr.mk.injEq] at e'
    obtain ⟨rfl, rfl, _⟩ := e'
    rw [add_zero_off, Nat.add_assoc, show w1.drew.cell? _ = w1.cell? _ from rfl, hc', ← hv]
    simp
  intro w2 HG2 hB2
  have HB2 := Lib.hid hB2
  refine hK.out _ _ trivial (fun hHeld => ?_)
  clear hK K
  (try simp only [Act.put, List.setIfInBounds_toArray])
  refine wpAnyH_done (by kernel_rfl) ?_ _
  go_wp2_with fail
  go_ret
  refine ⟨rfl, ?_, HB2.out⟩
  have q := HG2.out
  unfold CAt
  rw [show keptL (Value.int .i64 0) (l.map n7) = splice (madeCells (Value.int .i64 0).cells (16 * 1)).toList 6 ((l.map n7).drop 6 |>.take 6) from (splice_kept _ _ (by simp [hl]) _ (by kernel_rfl)).symm]
  exact q
/-- a word that is there -/
theorem word_in (A : Option Addr) (c : Nat) (l : List Int) (k : Nat) (i : Int) (w : World) (hi : i = k) (hk : k < l.length) (_hn : l.length ≤ 1000000000) (h : CLies w w.heap.size A (l.map n7)) :
    Calls Try.prog 15 #[.slice A l.length c, .int .i64 i] w fun e w' => e = .returned (.tuple #[.int .i64 l[k], .bool true]) ∧ w = w' := by
  subst hi
  obtain ⟨g, o, rfl, hg, c0⟩ := h.at_ (j := k) (by simpa using hk)
  simp only [List.getElem_map, n7] at c0
  have hki : (k : Int) < l.length := by omega
  generalize l[k] = x at *
  clear h
  go_enter Try.func15, Try.ntmps15
  go_wp2_with fail
  go_ret2
  exact ⟨rfl, rfl⟩

def hasP (pc : Int) (p : Ps) : Prop := p.f ≤ pc ∧ pc < p.t
def FoundR (p : Ps) (w : World) (e : Ending) (w' : World) : Prop :=
  ∃ A c, e = .returned (.tuple #[.agg #[.int .i64 p.f, .int .i64 p.t, .int .i64 p.u, .slice A p.a.length c], .bool true]) ∧ LOwn w' w.heap.size (.slice A p.a.length c) p.a ∧ Below w.heap.size w w'
theorem SpAt.other8 {w : World} {g : Nat} {r : Ps} (h : SpAt w g r) {p : Addr} (hp : g ≠ p.block) (u : Value) : SpAt (w.setCell p u) g r := (Below.heap_setCell w p u g hp).trans h
theorem spAt_res2 {fn : Func} {p v : Tmp} (h : fn.results = #[.cell p 29, .tmp v]) (tmps : Array Value) (w : World) (g : Nat) (r : Ps) (hp : tmps.getD p undef = .pointer (some ⟨g, 0, none⟩)) (hs : SpAt w g r) :
    (results fn tmps).run Try.prog w = .ok (.tuple #[.agg (pK r), tmps.getD v undef]) w := res_row_tmp h tmps w g 29 (pK r) (0, 0) _ hp hs Try.underlying29 rfl (by kernel_rfl)

set_option maxRecDepth 100000 in
set_option maxHeartbeats 2000000 in
theorem find8_any (A : Option Addr) (c : Nat) (ps : List Ps) (pc : Int) (n : Nat) (w : World) (hn : n < ps.length) (hls : ps.length ≤ 1000000) (hal : ps[n].a.length ≤ 1000000) (hyes : hasP pc ps[n]) (hno : ∀ j (hj : j < n), ¬ hasP pc ps[j]) (h : SLies w w.heap.size A ps) :
    Calls Try.prog 22 #[.slice A ps.length c, .int .i64 pc] w (FoundR ps[n] w) := by
  have hb0 := below_lnew w (.cells (pK ⟨0, 0, 0, [], none, 0⟩) 29)
  have HX := Lib.hid (spAt_new w ⟨0, 0, 0, [], none, 0⟩)
  have HB0 := Lib.hid hb0
  have hz0 : w.heap.size + 1 = (w.alloc (.cells (pK ⟨0, 0, 0, [], none, 0⟩) 29)).heap.size := by simp
  have HNO := Lib.hid hno
  unfold pK at HX HB0 hz0
  simp only [List.length_nil] at HX HB0 hz0
  clear hb0 hno
  go_enter Try.func22, Try.ntmps22
  go_wp2_with fail
  generalize w.alloc (.cells #[.int .i64 0, .int .i64 0, .int .i64 0, .slice none 0 0] 29) = W at *
  go_loopw [10] (fun i wr => ∃ k : Nat, k ≤ n ∧ i = .int .i64 k ∧ Hid (Below W.heap.size W wr)) (fun i _ => n + 1 - (intOf i).toNat)
  case atStart => exact ⟨0, by omega, rfl, Below.refl _ _⟩
  case round =>
    obtain ⟨k, hk, rfl, hB⟩ := hrel
    have hwr := hB.out.size
    have hlt : k < ps.length := by omega
    have hki : (k : Int) < ps.length := by omega
    have HBW := Lib.hid (HB0.out.trans (hB.out.mono (by omega)))
    obtain ⟨g, o, rfl, hg, c1, c2, c3, c4⟩ := (h.below HBW.out).1.at_ hlt
    have hX1 := HX.out.below (hB.out) (by omega)
    by_cases hkn : k = n
    · subst hkn
      have hm1 := (h.2 _ (List.getElem_mem hlt)).below HBW.out
      generalize hpe : ps[k] = p at *
      obtain ⟨pf, pt, pu, pa, pA, pc'⟩ := p
      have HPE := Lib.hid hpe
      clear hpe
      obtain ⟨y1, y2⟩ := hyes
      dsimp only at y1 y2 c1 c2 c3 c4 hal
      have hb1 := below_lnew wr (.cells (pK ⟨pf, pt, pu, pa, pA, pc'⟩) 29)
      have HS1 := Lib.hid (spAt_new wr ⟨pf, pt, pu, pa, pA, pc'⟩)
      have HX1 := Lib.hid (hX1.below hb1 (by omega))
      have HB1 := Lib.hid (HBW.out.trans (hb1.mono HBW.out.size))
      have HOL := Lib.hid (ownL_any pA pc' pa _ (fun e => by have := hm1.2.1 e; have := hm1.1; dsimp only at *; omega) (by omega) ((hm1.2.2.below (hb1.mono HBW.out.size)).more (by simp; omega)))
      have hz1 : wr.heap.size + 1 = (wr.alloc (.cells (pK ⟨pf, pt, pu, pa, pA, pc'⟩) 29)).heap.size := by simp
      unfold pK at HS1 HX1 HB1 HOL hz1
      dsimp only at HS1 HX1 HB1 HOL hz1
      unfold OwnR at HOL
      simp only [World.size_alloc] at HOL
      clear hb1 hX1 hm1
      go_wp2_with fail
      refine HOL.out.mono ?_
      rintro e w3 ⟨rfl, hk3, hb3⟩
      have hs3 := HS1.out.below hb3 (by simp)
      have f0 := hs3.frozen
      have f1 := hs3.fr
      have f2 := hs3.to
      have f3 := hs3.up
      have f4 := hs3.at_
      have hx3 := HX1.out.below hb3 (by omega)
      have x0 := hx3.frozen
      have x1 := hx3.fr
      have x2 := hx3.to
      have x3 := hx3.up
      have x4 := hx3.at_
      dsimp only [List.length_nil] at f1 f2 f3 f4 x1 x2 x3 x4
      have HK3 := Lib.hid hk3
      have HB3 := Lib.hid (HB1.out.trans (hb3.mono (by omega)))
      have HX3 := Lib.hid hx3
      have hzw : w.heap.size ≠ wr.heap.size := by omega
      have hzlt : w.heap.size < wr.heap.size := by omega
      clear hk3 hb3 hx3 hs3 HOL
      clear hz1 hk hz0
      go_wp2_with fail
      have hxz := (HX3.out.other8 (p := ⟨wr.heap.size, 3, none⟩) hzw (.slice (some ⟨wr.heap.size + 1, 0, none⟩) pa.length pa.length)).setAll ⟨pf, pt, pu, pa, some ⟨wr.heap.size + 1, 0, none⟩, pa.length⟩
      refine bodyPost_ret (spAt_res2 rfl _ _ w.heap.size _ rfl hxz) rfl ?_
      rw [HPE.out]
      refine ⟨_, _, rfl, ?_, below_all (HB3.out.setCell (p := ⟨wr.heap.size, 3, none⟩) (by dsimp only; omega) _) (Nat.le_refl _) _ _ _ _⟩
      exact CAt.lown (l := pa) (CAt.other (CAt.other (CAt.other (CAt.other (CAt.other HK3.out (by dsimp only; omega) _) (by dsimp only; omega) _) (by dsimp only; omega) _) (by dsimp only; omega) _) (by dsimp only; omega) _) (by omega) (by omega)
    · have hlo : k < n := by omega
      have hn1 := HNO.out k hlo
      generalize ps[k] = p at *
      obtain ⟨pf, pt, pu, pa, pA, pc'⟩ := p
      dsimp only at c1 c2 c3 c4
      have hb1 := below_lnew wr (.cells (pK ⟨pf, pt, pu, pa, pA, pc'⟩) 29)
      have HB1 := Lib.hid (hB.out.trans (hb1.mono hwr))
      unfold pK at HB1
      dsimp only at HB1
      clear hb1 hX1
      by_cases y1 : pf ≤ pc
      · have y2 : pt ≤ pc := by unfold hasP at hn1; dsimp only at hn1; omega
        go_wp2
        go_roundw
        case rel => exact ⟨k + 1, by omega, by go_num, HB1⟩
        case measure => simp [intOf]; omega
      · go_wp2
        go_roundw
        case rel => exact ⟨k + 1, by omega, by go_num, HB1⟩
        case measure => simp [intOf]; omega
end Go.Proofs.Ytpbopehhalicjaa
