/-
  Merged for a claim: T9C, T9B.
-/
import Derived.BigQuiet
import Derived.Test.YtjagjkogloggpaaGreatHJ18
import Derived.Test.YtjagjkogloggpaaGreatHJ11
import Derived.Test.YtjagjkogloggpaaGreatHL7O
import Derived.Test.YtjagjkogloggpaaGreatHS9C
namespace Go.Proofs.YtjagjkogloggpaaGreat
open Go Go.RowKit

def qS (p : Pq) : Value := .slice p.A p.d.sc.length p.c
/-- points of the call's own, each with a list of its own, in blocks that rise -/
def MQ (w : World) (B N : Nat) (v : Value) (l : List Pnt) : Prop :=
  ∃ ps : List Pq, ps.map Pq.d = l ∧ eQ.Own w B v ps ∧ (∀ p ∈ ps, eI.Own w B (qS p) p.d.sc ∧ ∀ k, (qS p).ownBlock = some k → k < N) ∧ ps.Pairwise (fun p q => ∀ k k2, (qS p).ownBlock = some k → (qS q).ownBlock = some k2 → k < k2)
theorem MQ.nil (w : World) (B N : Nat) : MQ w B N (.slice none 0 0) [] := ⟨[], rfl, El.Own.nil _ _, fun p hp => absurd hp (by simp), List.Pairwise.nil⟩
theorem MQ.below {w w' : World} {B N : Nat} {v : Value} {l : List Pnt} (h : MQ w B N v l) (hb : Below w.heap.size w w') : MQ w' B N v l := by
  obtain ⟨ps, e, ho, hm, hp⟩ := h
  exact ⟨ps, e, ho.below hb, fun p hp => ⟨(hm p hp).1.below hb, (hm p hp).2⟩, hp⟩
theorem MQ.up {w : World} {B N N' : Nat} {v : Value} {l : List Pnt} (h : MQ w B N v l) (hN : N ≤ N') : MQ w B N' v l := by
  obtain ⟨ps, e, ho, hm, hp⟩ := h
  exact ⟨ps, e, ho, fun p hp => ⟨(hm p hp).1, fun k e => Nat.lt_of_lt_of_le ((hm p hp).2 k e) hN⟩, hp⟩
theorem MQ.ul {w : World} {B N : Nat} {v : Value} {l : List Pnt} (h : MQ w B N v l) : ∃ A c ps, v = .slice A ps.length c ∧ ps.map Pq.d = l ∧ ps.length ≤ c ∧ (A = none → c = 0) ∧ UL w w.heap.size A ps := by
  obtain ⟨ps, e, ho, hm, hp⟩ := h
  obtain ⟨A, c, e1, h1, h2, h3⟩ := ho.form
  refine ⟨A, c, ps, e1, e, h1, h2, h3.lies, fun p hp => ?_⟩
  obtain ⟨A2, c2, e2, k1, k2, k3⟩ := (hm p hp).1.form
  unfold qS at e2
  injection e2 with q1 _ q3
  unfold QL
  rw [q1, q3]
  exact ⟨k3.lies, k1, k2⟩
section
variable {o : Oper} {a : Act}
theorem op_app_mq {K : Act → World → Prop} {Q : Exit → Act → World → Prop} (w : World) (s x : Operand) (ho : o.op = .call { callee := .builtin .append, args := #[s, x], argTypes := #[26, 26] })
    (B N : Nat) (v : Value) (l : List Pnt) (hs : a.eval s = v) (hown : MQ w B N v l) (g c : Nat) (y : Pq) (hx : a.eval x = .slice (some ⟨g, 0, none⟩) 1 c) (hy : CAt w g 60 (qK y).toList) (hly : eI.Own w N (qS y) y.d.sc)
    (hn : l.length ≤ 1000000) (hB : B ≤ w.heap.size) (hN : B ≤ N) (h : ∀ v' w', MQ w' B w'.heap.size v' (l ++ [y.d]) → w.grownBy w' v.ownBlock → (∀ k, v.ownBlock = some k → B ≤ k) → K (a.put o.dst v') w') : Oper.wp Tryz.prog o a w K Q := by
  obtain ⟨ps, e, hpo, hpm, hpp⟩ := hown
  refine El.op_app1 eQ w 26 _ _ Tryz.underlying26 point_info rfl (by decide) (by decide) s x ho B v ps hs hpo g c y hx 60 hy (by rw [← List.length_map (f := Pq.d), e]; exact hn) hB fun v' w' h1 h2 => h v' w' ?_ h2 (fun k e => (hpo.lt k e).1)
  have hb : ButT 60 w w' := ButT.grown h2 fun k e => hpo.has k e
  refine ⟨ps ++ [y], by rw [List.map_append, e]; rfl, h1, fun p hp => ?_, List.pairwise_append.2 ⟨hpp, List.pairwise_singleton _ _, fun p hp q hq k k2 e1 e2 => ?_⟩⟩
  · rcases List.mem_append.1 hp with hp | hp
    · exact ⟨(hpm p hp).1.but hb (by decide), fun k e => Nat.lt_of_lt_of_le ((hpm p hp).1.lt k e).2.1 h2.size⟩
    · rw [List.mem_singleton] at hp
      subst hp
      exact ⟨(hly.but hb (by decide)).base hN, fun k e => Nat.lt_of_lt_of_le (hly.lt k e).2.1 h2.size⟩
  · rw [List.mem_singleton] at hq
    subst hq
    exact Nat.lt_of_lt_of_le ((hpm p hp).2 k e1) (hly.lt k2 e2).1
end
theorem own_kept_grown {α : Type} {K : El α} {w w' : World} {B : Nat} {v : Value} {xs : List α} {row : Option Nat} (h : K.Own w B v xs) (hg : w.grownBy w' row) (hr : ∀ k, row = some k → HasT w k K.e → False) : K.Own w' B v xs :=
  h.kept fun k hk => hg.block k hk.lt fun e => hr k e.symm hk

def MadeQ (w : World) (l : List Pnt) (e : Ending) (w' : World) : Prop := ∃ v, e = .returned v ∧ MQ w' w.heap.size w'.heap.size v l ∧ Below w.heap.size w w'

set_option maxRecDepth 100000 in
set_option maxHeartbeats 4000000 in
theorem twinPoints_any (A : Option Addr) (c : Nat) (ps : List Pq) (w : World) (hl : ps.length ≤ 1000000) (hn : ∀ q ∈ ps, q.d.sc.length ≤ 1000000) (h : UL w w.heap.size A ps) :
    Calls Tryz.prog 21 #[.slice A ps.length c] w (MadeQ w (ps.map Pq.d)) := by
  have HN := Lib.hid hn
  clear hn
  go_enter Tryz.func21, Tryz.ntmps21
  go_wp2
  go_loopw [3, 4] (fun v i wr => ∃ k : Nat, k ≤ ps.length ∧ i = .int .i64 k ∧ Hid (MQ wr w.heap.size wr.heap.size v ((ps.take k).map Pq.d)) ∧ Hid (Below w.heap.size w wr)) (fun _ i _ => ps.length - (intOf i).toNat)
  case atStart => exact ⟨0, by omega, rfl, MQ.nil _ _ _, Below.refl _ _⟩
  case round =>
    obtain ⟨k, hk, rfl, hO, hB⟩ := hrel
    by_cases hlt : k < ps.length
    · obtain ⟨g, o, rfl, hg, c0, c1, c2⟩ := eQ_at (h.1.below hB.out) hlt
      have hm1 := (h.2 _ (List.getElem_mem hlt)).below hB.out
      have hal := HN.out _ (List.getElem_mem hlt)
      have HT := Lib.hid (show (ps.take (k + 1)).map Pq.d = (ps.take k).map Pq.d ++ [ps[k].d] by rw [← List.take_append_getElem hlt, List.map_append]; rfl)
      have hwr := hB.out.size
      generalize ps[k] = p at *
      obtain ⟨⟨fn, ln, sc⟩, pA, pc⟩ := p
      have HM := Lib.hid hm1
      obtain ⟨ls, hls'⟩ : ∃ ls, (ps.take k).map Pq.d = ls := ⟨_, rfl⟩
      have hln : ls.length ≤ 1000000 := by rw [← hls', List.length_map, List.length_take]; omega
      rw [hls'] at hO HT
      clear hm1 hls'
      dsimp only at c0 c1 c2 hal
      go_wp2
      refine wp_region_held_drew (S := fun W9 => (W9.cell? ⟨g, o + k * 3, none⟩ = some (.int .i64 fn) ∧ W9.cell? ⟨g, o + k * 3 + 1, none⟩ = some (.int .i64 ln) ∧ W9.cell? ⟨g, o + k * 3 + 2, none⟩ = some (.slice pA sc.length pc))) (by kernel_rfl) (⟨c0, c1, c2⟩) (fun hHeld => ?_)
      refine heldTake (i := 0) (d := some 11) (v := ?_) rfl rfl (by kernel_rfl) (by kernel_rfl) (by kernel_rfl) (fun _ _ _ h => h) (by kernel_rfl) ?hyq_1 (by assumption) ?restq_1
      case hyq_1 => (intro W9 hSw; (try dsimp only at hSw); go_simp; try (with_reducible rfl))
      (try simp only [Act.put, List.setIfInBounds_toArray, List.set_cons_zero, List.set_cons_succ])
      refine heldTake (i := 1) (d := some 12) (v := ?_) rfl rfl (by kernel_rfl) (by kernel_rfl) (by kernel_rfl) (fun _ _ _ h => h) (by kernel_rfl) ?hyq_2 (by assumption) ?restq_2
      case hyq_2 => (intro W9 hSw; (try dsimp only at hSw); go_simp; try (with_reducible rfl))
      (try simp only [Act.put, List.setIfInBounds_toArray, List.set_cons_zero, List.set_cons_succ])
      refine heldTake (i := 2) (d := some 13) (v := ?_) rfl rfl (by kernel_rfl) (by kernel_rfl) (by kernel_rfl) (fun _ _ _ h => h) (by kernel_rfl) ?hyq_3 (by assumption) ?restq_3
      case hyq_3 => (intro W9 hSw; (try dsimp only at hSw); go_simp; try (with_reducible rfl))
      (try simp only [Act.put, List.setIfInBounds_toArray, List.set_cons_zero, List.set_cons_succ])
      refine heldTake (i := 3) (d := some 14) (v := ?_) rfl rfl (by kernel_rfl) (by kernel_rfl) (by kernel_rfl) (fun _ _ _ h => h) (by kernel_rfl) ?hyq_4 (by assumption) ?restq_4
      case hyq_4 => (intro W9 hSw; (try dsimp only at hSw); go_simp; try (with_reducible rfl))
      (try simp only [Act.put, List.setIfInBounds_toArray, List.set_cons_zero, List.set_cons_succ])
      refine heldTake (i := 4) (d := some 15) (v := ?_) rfl rfl (by kernel_rfl) (by kernel_rfl) (by kernel_rfl) (fun _ _ _ h => h) (by kernel_rfl) ?hyq_5 (by assumption) ?restq_5
      case hyq_5 => (intro W9 hSw; (try dsimp only at hSw); go_simp; try (with_reducible rfl))
      (try simp only [Act.put, List.setIfInBounds_toArray, List.set_cons_zero, List.set_cons_succ])
      refine heldTake (i := 5) (d := some 16) (v := ?_) rfl rfl (by kernel_rfl) (by kernel_rfl) (by kernel_rfl) (fun _ _ _ h => h) (by kernel_rfl) ?hyq_6 (by assumption) ?restq_6
      case hyq_6 => (intro W9 hSw; (try dsimp only at hSw); go_simp; try (with_reducible rfl))
      (try simp only [Act.put, List.setIfInBounds_toArray, List.set_cons_zero, List.set_cons_succ])
      refine heldTake (i := 6) (d := some 17) (v := ?_) rfl rfl (by kernel_rfl) (by kernel_rfl) (by kernel_rfl) (fun _ _ _ h => h) (by kernel_rfl) ?hyq_7 (by assumption) ?restq_7
      case hyq_7 => (intro W9 hSw; (try dsimp only at hSw); go_simp; try (with_reducible rfl))
      (try simp only [Act.put, List.setIfInBounds_toArray, List.set_cons_zero, List.set_cons_succ])
      refine heldTake (i := 7) (d := some 18) (v := ?_) rfl rfl (by kernel_rfl) (by kernel_rfl) (by kernel_rfl) (fun _ _ _ h => h) (by kernel_rfl) ?hyq_8 (by assumption) ?restq_8
      case hyq_8 => (intro W9 hSw; (try dsimp only at hSw); go_simp; try (with_reducible rfl))
      (try simp only [Act.put, List.setIfInBounds_toArray, List.set_cons_zero, List.set_cons_succ])
      refine heldTake (i := 8) (d := some 19) (v := ?_) rfl rfl (by kernel_rfl) (by kernel_rfl) (by kernel_rfl) (fun _ _ _ h => h) (by kernel_rfl) ?hyq_9 (by assumption) ?restq_9
      case hyq_9 => (intro W9 hSw; (try dsimp only at hSw); go_simp; try (with_reducible rfl))
      (try simp only [Act.put, List.setIfInBounds_toArray, List.set_cons_zero, List.set_cons_succ])
      refine heldTake (i := 9) (d := some 20) (v := ?_) rfl rfl (by kernel_rfl) (by kernel_rfl) (by kernel_rfl) (fun _ _ _ h => h) (by kernel_rfl) ?hyq_10 (by assumption) ?restq_10
      case hyq_10 => (intro W9 hSw; (try dsimp only at hSw); go_simp; try (with_reducible rfl))
      (try simp only [Act.put, List.setIfInBounds_toArray, List.set_cons_zero, List.set_cons_succ])
      refine heldTake (i := 10) (d := some 21) (v := ?_) rfl rfl (by kernel_rfl) (by kernel_rfl) (by kernel_rfl) (fun _ _ _ h => h) (by kernel_rfl) ?hyq_11 (by assumption) ?restq_11
      case hyq_11 => (intro W9 hSw; (try dsimp only at hSw); go_simp; try (with_reducible rfl))
      (try simp only [Act.put, List.setIfInBounds_toArray, List.set_cons_zero, List.set_cons_succ])
      refine heldTake (i := 12) (d := some 23) (v := ?_) rfl rfl (by kernel_rfl) (by kernel_rfl) (by kernel_rfl) (fun _ _ _ h => h) (by kernel_rfl) ?hyq_12 (by assumption) ?restq_12
      case hyq_12 => (intro W9 hSw; (try dsimp only at hSw); go_simp; try (with_reducible rfl))
      (try simp only [Act.put, List.setIfInBounds_toArray, List.set_cons_zero, List.set_cons_succ])
      refine heldTake (i := 13) (d := some 24) (v := ?_) rfl rfl (by kernel_rfl) (by kernel_rfl) (by kernel_rfl) (fun _ _ _ h => h) (by kernel_rfl) ?hyq_13 (by assumption) ?restq_13
      case hyq_13 => (intro W9 hSw; (try dsimp only at hSw); go_simp; try (with_reducible rfl))
      (try simp only [Act.put, List.setIfInBounds_toArray, List.set_cons_zero, List.set_cons_succ])
      refine heldTake (i := 14) (d := some 25) (v := ?_) rfl rfl (by kernel_rfl) (by kernel_rfl) (by kernel_rfl) (fun _ _ _ h => h) (by kernel_rfl) ?hyq_14 (by assumption) ?restq_14
      case hyq_14 => (intro W9 hSw; (try dsimp only at hSw); go_simp; try (with_reducible rfl))
      (try simp only [Act.put, List.setIfInBounds_toArray, List.set_cons_zero, List.set_cons_succ])
      refine heldTake (i := 15) (d := some 26) (v := ?_) rfl rfl (by kernel_rfl) (by kernel_rfl) (by kernel_rfl) (fun _ _ _ h => h) (by kernel_rfl) ?hyq_15 (by assumption) ?restq_15
      case hyq_15 => (intro W9 hSw; (try dsimp only at hSw); go_simp; try (with_reducible rfl))
      (try simp only [Act.put, List.setIfInBounds_toArray, List.set_cons_zero, List.set_cons_succ])
      refine heldTake (i := 16) (d := some 27) (v := ?_) rfl rfl (by kernel_rfl) (by kernel_rfl) (by kernel_rfl) (fun _ _ _ h => h) (by kernel_rfl) ?hyq_16 (by assumption) ?restq_16
      case hyq_16 => (intro W9 hSw; (try dsimp only at hSw); go_simp; try (with_reducible rfl))
      (try simp only [Act.put, List.setIfInBounds_toArray, List.set_cons_zero, List.set_cons_succ])
      refine wpAnyH_ready (rs := [11]) (by kernel_rfl) (by simp) ?_
      refine AllReadyH.cons rfl (fun K hK => ?_) AllReadyH.nil
      go_simp
      have hbX := (below_lnew wr (.cells #[] 3)).drew
      have HOX := Lib.hid (hO.out.below hbX)
      have HEX := Lib.hid (show eI.Own (wr.alloc (.cells #[] 3)).drew wr.heap.size _ [] from El.own_empty eI wr)
      have HMX := Lib.hid (HM.out.below (hbX.mono hwr))
      obtain ⟨X, hX⟩ : ∃ X, (wr.alloc (.cells #[] 3)).drew = X := ⟨_, rfl⟩
      have HEX := Lib.hid (show eI.Own X wr.heap.size (.slice (some ⟨wr.heap.size, 0, none⟩) 0 0) [] from hX ▸ HEX.out)
      rw [hX] at hbX HOX HMX ⊢
      have hzX := hbX.size
      clear hX
      have hSX : (X.cell? ⟨g, o + k * 3, none⟩ = some (.int .i64 fn) ∧ X.cell? ⟨g, o + k * 3 + 1, none⟩ = some (.int .i64 ln) ∧ X.cell? ⟨g, o + k * 3 + 2, none⟩ = some (.slice pA sc.length pc)) := ⟨(hbX.cell (p := ⟨g, o + k * 3, none⟩) (by dsimp only; omega)).trans c0, (hbX.cell (p := ⟨g, o + k * 3 + 1, none⟩) (by dsimp only; omega)).trans c1, (hbX.cell (p := ⟨g, o + k * 3 + 2, none⟩) (by dsimp only; omega)).trans c2⟩
      refine hK.out _ _ hSX (fun hHeld => ?_)
      clear hK K
      (try simp only [Act.put, List.setIfInBounds_toArray, List.set_cons_zero, List.set_cons_succ])
      refine wpAnyH_ready (rs := [17]) (by kernel_rfl) (by simp) ?_
      refine AllReadyH.cons rfl (fun K hK => ?_) AllReadyH.nil
      rw [if_pos (by kernel_rfl)]
      refine El.op_apps eI X 58 _ _ Tryz.underlying58 int_info rfl (by decide) (.tmp 22) (.tmp 27) rfl wr.heap.size _ [] rfl HEX.out pA pc w.heap.size sc rfl HMX.out.2.2 HMX.out.1 (by simp; omega) (by simp [eI]; omega) hzX ?_
      intro v5 Y ho5 hg5
      rw [List.nil_append] at ho5
      have hkY : ∀ k, some wr.heap.size = some k → wr.heap.size ≤ k := fun k e => by cases e; exact Nat.le_refl _
      have hbY : Below wr.heap.size wr Y := hbX.grown hg5 hzX hkY
      have HOY := Lib.hid (hO.out.below hbY)
      have HSY := Lib.hid ho5
      obtain ⟨A5, c5, rfl, _, _, _⟩ := ho5.form
      have hSY : (Y.cell? ⟨g, o + k * 3, none⟩ = some (.int .i64 fn) ∧ Y.cell? ⟨g, o + k * 3 + 1, none⟩ = some (.int .i64 ln) ∧ Y.cell? ⟨g, o + k * 3 + 2, none⟩ = some (.slice pA sc.length pc)) := ⟨(hbY.cell (p := ⟨g, o + k * 3, none⟩) (by dsimp only; omega)).trans c0, (hbY.cell (p := ⟨g, o + k * 3 + 1, none⟩) (by dsimp only; omega)).trans c1, (hbY.cell (p := ⟨g, o + k * 3 + 2, none⟩) (by dsimp only; omega)).trans c2⟩
      have hzY := hbY.size
      refine hK.out _ _ hSY (fun hHeld => ?_)
      clear hg5 hkY HOX HMX HEX hbX hSX hzX
      clear hK K
      (try simp only [Act.put, List.setIfInBounds_toArray])
      refine heldTake (i := 18) (d := some 29) (v := ?_) rfl rfl (by kernel_rfl) (by kernel_rfl) (by kernel_rfl) (fun _ _ _ h => h) (by kernel_rfl) ?hyq_17 (by assumption) ?restq_17
      case hyq_17 => (intro W9 hSw; (try dsimp only at hSw); go_simp; try (with_reducible rfl))
      (try simp only [Act.put])
      refine wpAnyH_ready (rs := [19]) (by kernel_rfl) (by simp) ?_
      refine AllReadyH.cons rfl (fun K hK => ?_) AllReadyH.nil
      go_simp
      have HZ := Lib.hid (heap_alloc_new Y (.cells (qK ⟨⟨fn, ln, sc⟩, A5, c5⟩) 60))
      have hbn := below_lnew Y (.cells (qK ⟨⟨fn, ln, sc⟩, A5, c5⟩) 60)
      have HOZ := Lib.hid (hO.out.below (hbY.trans (hbn.mono hzY)))
      have HSZ := Lib.hid (HSY.out.below hbn)
      have hbZ := hbY.trans (hbn.mono hzY)
      unfold qK at HZ HOZ HSZ hbZ
      dsimp only at HZ HOZ HSZ hbZ
      obtain ⟨Z, hZ⟩ : ∃ Z, Y.alloc (.cells #[.int .i64 fn, .int .i64 ln, .slice A5 sc.length c5] 60) = Z := ⟨_, rfl⟩
      rw [hZ] at HZ HOZ HSZ hbZ ⊢
      have hzZ := hbZ.size
      clear hZ hbn
      have hSZ : (Z.cell? ⟨g, o + k * 3, none⟩ = some (.int .i64 fn) ∧ Z.cell? ⟨g, o + k * 3 + 1, none⟩ = some (.int .i64 ln) ∧ Z.cell? ⟨g, o + k * 3 + 2, none⟩ = some (.slice pA sc.length pc)) := ⟨(hbZ.cell (p := ⟨g, o + k * 3, none⟩) (by dsimp only; omega)).trans c0, (hbZ.cell (p := ⟨g, o + k * 3 + 1, none⟩) (by dsimp only; omega)).trans c1, (hbZ.cell (p := ⟨g, o + k * 3 + 2, none⟩) (by dsimp only; omega)).trans c2⟩
      refine hK.out _ _ hSZ (fun hHeld => ?_)
      clear HOY HSY hSY
      clear hK K
      (try simp only [Act.put, List.setIfInBounds_toArray, List.set_cons_zero, List.set_cons_succ])
      refine wpAnyH_ready (rs := [20]) (by kernel_rfl) (by simp) ?_
      refine AllReadyH.cons rfl (fun K hK => ?_) AllReadyH.nil
      rw [if_pos (by kernel_rfl)]
      refine op_app_mq Z (.tmp 11) (.tmp 30) rfl w.heap.size wr.heap.size _ ls rfl HOZ.out Y.heap.size 1 ⟨⟨fn, ln, sc⟩, A5, c5⟩ rfl HZ.out HSZ.out hln (by omega) hwr ?_
      intro v9 V hoV hgV hkV
      have hbV : Below w.heap.size w V := (hB.out.trans (hbZ.mono hwr)).grown hgV (by omega) hkV
      have hcV : ∀ p : Addr, p.block < w.heap.size → V.cell? p = Z.cell? p := fun p hp => World.cell?_of_block (hgV.block p.block (by omega) (fun e => by have := hkV _ e.symm; omega))
      have hSV : (V.cell? ⟨g, o + k * 3, none⟩ = some (.int .i64 fn) ∧ V.cell? ⟨g, o + k * 3 + 1, none⟩ = some (.int .i64 ln) ∧ V.cell? ⟨g, o + k * 3 + 2, none⟩ = some (.slice pA sc.length pc)) := ⟨(hcV ⟨g, o + k * 3, none⟩ hg).trans hSZ.1, (hcV ⟨g, o + k * 3 + 1, none⟩ hg).trans hSZ.2.1, (hcV ⟨g, o + k * 3 + 2, none⟩ hg).trans hSZ.2.2⟩
      refine hK.out _ _ hSV (fun hHeld => ?_)
      clear hK K
      (try simp only [Act.put, List.setIfInBounds_toArray])
      refine heldTake (i := 21) (d := some 3) (v := ?_) rfl rfl (by kernel_rfl) (by kernel_rfl) (by kernel_rfl) (fun _ _ _ h => h) (by kernel_rfl) ?hyq_18 (by assumption) ?restq_18
      case hyq_18 => (intro W9 hSw; (try dsimp only at hSw); go_simp; try (with_reducible rfl))
      (try simp only [Act.put])
      refine wpAnyH_done (by kernel_rfl) ?_ _
      have HOV := Lib.hid hoV
      have HBV := Lib.hid hbV
      clear hoV hbV
      go_wp2
      go_roundw
      case rel => exact ⟨k + 1, by omega, by go_num, by rw [HT.out]; exact HOV, HBV⟩
      case measure => simp [intOf]; omega
    · obtain rfl : k = ps.length := by omega
      rw [List.take_length] at hO
      go_wp2
      go_ret
      exact ⟨_, rfl, hO.out, hB.out⟩

set_option maxRecDepth 100000 in
set_option maxHeartbeats 4000000 in
theorem samePoints_any (A A2 : Option Addr) (c c2 : Nat) (ps qs : List Pq) (w : World) (he : ps.map Pq.d = qs.map Pq.d) (hl : ps.length ≤ 1099511627776) (hn : ∀ q ∈ ps, q.d.sc.length ≤ 1099511627776) (h : UL w w.heap.size A ps) (h2 : UL w w.heap.size A2 qs) :
    Calls Tryz.prog 17 #[.slice A ps.length c, .slice A2 qs.length c2] w (BoolR true w) := by
  have hlen : ps.length = qs.length := by have := congrArg List.length he; simpa using this
  rw [← hlen]
  have HE := Lib.hid he
  have HLN := Lib.hid hlen
  have HN := Lib.hid hn
  clear he hlen hn
  go_enter Tryz.func17, Tryz.ntmps17
  go_wp2
  go_loopw [5] (fun i wr => ∃ k : Nat, k ≤ ps.length ∧ i = .int .i64 k ∧ Hid (Below w.heap.size w wr)) (fun i _ => ps.length - (intOf i).toNat)
  case atStart => exact ⟨0, by omega, rfl, Below.refl _ _⟩
  case round =>
    obtain ⟨k, hk, rfl, hB⟩ := hrel
    by_cases hlt : k < ps.length
    · have hlt2 : k < qs.length := by have := HLN.out; omega
      obtain ⟨g, o, rfl, hg, c0, c1, c2'⟩ := eQ_at (h.1.below hB.out) hlt
      obtain ⟨g', o', rfl, hg', d0, d1, d2⟩ := eQ_at (h2.1.below hB.out) hlt2
      have hsp : (ps[k]).d = (qs[k]).d := by
        have h1 : (ps.map Pq.d)[k]? = (qs.map Pq.d)[k]? := by rw [HE.out]
        rw [List.getElem?_map, List.getElem?_map, List.getElem?_eq_getElem hlt, List.getElem?_eq_getElem hlt2] at h1
        simpa using h1
      have HM1 := Lib.hid (h.2 _ (List.getElem_mem hlt))
      have HM2 := Lib.hid (h2.2 _ (List.getElem_mem hlt2))
      have hal := HN.out _ (List.getElem_mem hlt)
      generalize ps[k] = p at *
      generalize qs[k] = q at *
      obtain ⟨⟨fn, ln, sc⟩, pA, pc⟩ := p
      obtain ⟨qd, qA, qc⟩ := q
      dsimp only at hsp
      subst hsp
      have HL1 := Lib.hid HM1.out.1
      have HL2 := Lib.hid HM2.out.1
      clear HM1 HM2
      dsimp only at c0 c1 c2' d0 d1 d2 hal HL1 HL2
      go_wp2_with fail
      go_quiet (fail)
      have hbq := below_draws (B := wr.heap.size) (w := wr) nq
      have HBQ := Lib.hid (hB.out.trans (hbq.mono hB.out.size))
      clear hbq
      go_wp2_with fail
      go_loopw [6] (fun i wx => ∃ j : Nat, j ≤ sc.length ∧ i = .int .i64 j ∧ Hid (Below w.heap.size w wx)) (fun i _ => sc.length - (intOf i).toNat)
      case atStart => exact ⟨0, by omega, rfl, HBQ⟩
      case round =>
        obtain ⟨j, hj, rfl, hBx⟩ := hrel
        have c3x := (hBx.out.cell (p := ⟨g, o + k * 3 + 2, none⟩) hg).trans ((hB.out.cell (p := ⟨g, o + k * 3 + 2, none⟩) hg).symm.trans c2')
        have d3x := (hBx.out.cell (p := ⟨g', o' + k * 3 + 2, none⟩) hg').trans ((hB.out.cell (p := ⟨g', o' + k * 3 + 2, none⟩) hg').symm.trans d2)
        by_cases hjlt : j < sc.length
        · obtain ⟨gv, ov, rfl, hgv, x0⟩ := eI_at (HL1.out.below hBx.out) hjlt
          obtain ⟨gw, ow, rfl, hgw, y0⟩ := eI_at (HL2.out.below hBx.out) hjlt
          generalize sc[j] = x at *
          go_wp2_with fail
          go_quiet (fail)
          have hbq := below_draws (B := wr.heap.size) (w := wr) nq
          have HBX := Lib.hid (hBx.out.trans (hbq.mono hBx.out.size))
          clear hbq
          go_wp2_with fail
          go_roundw
          case rel => exact ⟨j + 1, by omega, by go_num, HBX⟩
          case measure => simp [intOf]; omega
        · obtain rfl : j = sc.length := by omega
          go_wp2_with fail
          go_roundw
          case rel => exact ⟨k + 1, by omega, by go_num, hBx⟩
          case measure => simp [intOf]; omega
    · obtain rfl : k = ps.length := by omega
      go_wp2
      go_ret
      exact ⟨rfl, hB.out⟩
end Go.Proofs.YtjagjkogloggpaaGreat

namespace Go.Proofs.YtjagjkogloggpaaGreat
open Go Go.RowKit

set_option maxRecDepth 100000 in
set_option maxHeartbeats 2000000 in
theorem sameVar_any (nm : List UInt8) (kd n : Int) (tn : List UInt8) (wd : Int) (fs : List (List UInt8)) (A A2 : Option Addr) (c c2 : Nat) (w : World) (hn : fs.length ≤ 1099511627776) (h : eS.Lies w w.heap.size A fs) (h2 : eS.Lies w w.heap.size A2 fs) :
    Calls Tryz.prog 55 #[vV ⟨⟨nm, kd, n, tn, wd, fs⟩, A, c⟩, vV ⟨⟨nm, kd, n, tn, wd, fs⟩, A2, c2⟩] w (BoolR true w) := by
  have hb1 := below_lnew w (.cells (vK ⟨⟨nm, kd, n, tn, wd, fs⟩, A, c⟩) 65)
  have hw1 := heap_alloc_new w (.cells (vK ⟨⟨nm, kd, n, tn, wd, fs⟩, A, c⟩) 65)
  obtain ⟨W, hW⟩ : ∃ W, W = w.alloc (.cells (vK ⟨⟨nm, kd, n, tn, wd, fs⟩, A, c⟩) 65) := ⟨_, rfl⟩
  have hz : W.heap.size = w.heap.size + 1 := by rw [hW]; simp
  rw [← hW] at hb1 hw1
  have hb2 := below_lnew W (.cells (vK ⟨⟨nm, kd, n, tn, wd, fs⟩, A2, c2⟩) 65)
  have hv2 := heap_alloc_new W (.cells (vK ⟨⟨nm, kd, n, tn, wd, fs⟩, A2, c2⟩) 65)
  obtain ⟨Y, hY⟩ : ∃ Y, Y = W.alloc (.cells (vK ⟨⟨nm, kd, n, tn, wd, fs⟩, A2, c2⟩) 65) := ⟨_, rfl⟩
  have hzY : Y.heap.size = W.heap.size + 1 := by rw [hY]; simp
  rw [← hY] at hb2 hv2
  have hv1 := (hb2.block w.heap.size (by omega)).trans hw1
  have HB := Lib.hid (hb1.trans (hb2.mono (by omega)))
  have HL1 := Lib.hid ((h.below HB.out).more HB.out.size)
  have HL2 := Lib.hid ((h2.below HB.out).more HB.out.size)
  rw [hW] at hY
  clear hb1 hb2 hw1 h h2 hW
  unfold vV
  unfold vK tv at hY hv1 hv2 ⊢
  dsimp only at hY hv1 hv2 ⊢
  rw [hz] at hv2
  obtain ⟨c0, c1, c2', c3, c4, c5⟩ : (Y.cell? ⟨w.heap.size, 0, none⟩ = some (.string (str nm)) ∧ Y.cell? ⟨w.heap.size, 1, none⟩ = some (.int .u8 kd) ∧ Y.cell? ⟨w.heap.size, 2, none⟩ = some (.int .i64 n) ∧ Y.cell? ⟨w.heap.size, 3, none⟩ = some (.string (str tn)) ∧ Y.cell? ⟨w.heap.size, 4, none⟩ = some (.int .i64 wd) ∧ Y.cell? ⟨w.heap.size, 5, none⟩ = some (.slice A fs.length c)) := by
    simp [World.cell?, hv1]
  obtain ⟨d0, d1, d2, d3, d4, d5⟩ : (Y.cell? ⟨w.heap.size + 1, 0, none⟩ = some (.string (str nm)) ∧ Y.cell? ⟨w.heap.size + 1, 1, none⟩ = some (.int .u8 kd) ∧ Y.cell? ⟨w.heap.size + 1, 2, none⟩ = some (.int .i64 n) ∧ Y.cell? ⟨w.heap.size + 1, 3, none⟩ = some (.string (str tn)) ∧ Y.cell? ⟨w.heap.size + 1, 4, none⟩ = some (.int .i64 wd) ∧ Y.cell? ⟨w.heap.size + 1, 5, none⟩ = some (.slice A2 fs.length c2)) := by
    simp [World.cell?, hv2]
  clear hv1 hv2
  have hq := str_toList nm
  have hq2 := str_toList tn
  go_enter Tryz.func55, Tryz.ntmps55
  go_wp2_with fail
  rw [← hY]
  clear hY
  go_loopw [5] (fun i wr => ∃ k : Nat, k ≤ fs.length ∧ i = .int .i64 k ∧ Hid (Below Y.heap.size Y wr)) (fun i _ => fs.length - (intOf i).toNat)
  case atStart => exact ⟨0, by omega, rfl, Below.refl _ _⟩
  case round =>
    obtain ⟨k, hk, rfl, hB⟩ := hrel
    have c5x := (hB.out.cell (p := ⟨w.heap.size, 5, none⟩) (by dsimp only; omega)).trans c5
    have d5x := (hB.out.cell (p := ⟨w.heap.size + 1, 5, none⟩) (by dsimp only; omega)).trans d5
    by_cases hlt : k < fs.length
    · obtain ⟨g, o, rfl, hg, x0⟩ := eS_at (HL1.out.below hB.out) hlt
      obtain ⟨g', o', rfl, hg', y0⟩ := eS_at (HL2.out.below hB.out) hlt
      have hq3 := str_toList fs[k]
      generalize fs[k] = x at *
      go_wp2_with fail
      go_quiet (fail)
      have hbq := below_draws (B := wr.heap.size) (w := wr) nq
      have HBX := Lib.hid (hB.out.trans (hbq.mono hB.out.size))
      clear hbq
      go_wp2_with fail
      go_roundw
      case rel => exact ⟨k + 1, by omega, by go_num, HBX⟩
      case measure => simp [intOf]; omega
    · obtain rfl : k = fs.length := by omega
      go_wp2_with fail
      go_ret
      exact ⟨rfl, HB.out.trans (hB.out.mono HB.out.size)⟩
end Go.Proofs.YtjagjkogloggpaaGreat
