/-
  The document's Join.
-/
import Derived.Test.YtggofdahnbchjaaM7B
import Derived.Laws.OwnMore
import Derived.Deep.AppendLies
namespace Go.Proofs.Ytggofdahnbchjaa
open Go Go.RowKit

theorem joinS_ne (xs : List Sp) (now : Sp) : joinS now xs ≠ [] := by
  cases xs with
  | nil => simp [joinS]
  | cons x xs =>
    rw [joinS]
    split
    · exact joinS_ne xs _
    · simp
theorem joinS_snoc (x : Sp) : ∀ (xs : List Sp) (now : Sp) (os : List Sp) (y : Sp), joinS now xs = os ++ [y] → joinS now (xs ++ [x]) = if x.f = y.t ∧ x.a = y.a then os ++ [{ y with t := x.t }] else os ++ [y, x]
  | [], now, os, y, h => by
    rw [joinS] at h
    have h1 : os = [] ∧ now = y := by
      cases os with
      | nil => simpa using h
      | cons o os => simp at h
    obtain ⟨rfl, rfl⟩ := h1
    rw [List.nil_append, joinS]
    split
    · simp [joinS]
    · simp [joinS]
  | z :: zs, now, os, y, h => by
    rw [joinS] at h
    rw [List.cons_append, joinS]
    split at h
    · rename_i hc
      rw [if_pos hc]
      exact joinS_snoc x zs _ os y h
    · rename_i hc
      rw [if_neg hc]
      cases os with
      | nil =>
        exfalso
        simp only [List.nil_append, List.cons.injEq] at h
        exact joinS_ne _ _ h.2
      | cons o os =>
        simp only [List.cons_append, List.cons.injEq] at h
        rw [joinS_snoc x zs z os y h.2, h.1]
        split <;> rfl
theorem joinL_snoc {xs os : List Sp} {x y : Sp} (h : joinL xs = os ++ [y]) : joinL (xs ++ [x]) = if x.f = y.t ∧ x.a = y.a then os ++ [{ y with t := x.t }] else os ++ [y, x] := by
  cases xs with
  | nil => simp [joinL] at h
  | cons z zs => exact joinS_snoc x zs z os y h
theorem joinL_nil {xs : List Sp} (h : joinL xs = []) : xs = [] := by
  cases xs with
  | nil => rfl
  | cons z zs => exact absurd h (joinS_ne zs z)
theorem joinL_len (xs : List Sp) : (joinL xs).length ≤ xs.length := by
  cases xs with
  | nil => exact Nat.le_refl _
  | cons z zs =>
    have : ∀ (xs : List Sp) (now : Sp), (joinS now xs).length ≤ xs.length + 1 := by
      intro xs
      induction xs with
      | nil => intro now; simp [joinS]
      | cons x xs ih =>
        intro now
        rw [joinS]
        split
        · have := ih { now with t := x.t }
          simp only [List.length_cons]
          omega
        · have := ih x
          simp only [List.length_cons]
          omega
    exact this zs z

theorem pflat_set (t : Int) : ∀ (xs : List Ps) (j : Nat) (hj : j < xs.length), (xs.flatMap pC).set (j * 3 + 1) (.int .i64 t) = (xs.set j { xs[j] with t := t }).flatMap pC
  | x :: xs, 0, _ => rfl
  | x :: xs, j + 1, hj => by
    have hj' : j < xs.length := by simpa using hj
    rw [List.flatMap_cons, List.set_append_right _ _ (by rw [pC_len]; omega), pC_len, show (j + 1) * 3 + 1 - 3 = j * 3 + 1 by omega, pflat_set t xs j hj', List.set_cons_succ, List.flatMap_cons]
    rfl
/-- the last span of a list of the call's own -/
theorem SpOwn.last {w : World} {B : Nat} {v : Value} {os : List Sp} {y : Sp} (h : SpOwn w B v (os ++ [y])) : ∃ g c A ca, v = .slice (some ⟨g, 0, none⟩) (os.length + 1) c ∧ os.length + 1 ≤ c ∧ B ≤ g ∧ g < w.heap.size ∧
    w.cell? ⟨g, os.length * 3 + 1, none⟩ = some (.int .i64 y.t) ∧ w.cell? ⟨g, os.length * 3 + 2, none⟩ = some (.slice A y.a.length ca) ∧ w.frozen? ⟨g, os.length * 3 + 1, none⟩ = false ∧ LLies w w.heap.size A y.a ∧
    ∀ t, SpOwn (w.setCell ⟨g, os.length * 3 + 1, none⟩ (.int .i64 t)) B v (os ++ [{ y with t := t }]) := by
  obtain ⟨ps, e, ho, hm⟩ := h
  obtain ⟨l1, l2, rfl, e1, e2⟩ := List.map_eq_append_iff.1 e
  obtain ⟨q, rfl, e3⟩ : ∃ q, l2 = [q] ∧ q.sp = y := by
    cases l2 with
    | nil => cases e2
    | cons q l => cases l with
      | nil => exact ⟨q, rfl, by simpa using e2⟩
      | cons _ _ => simp at e2
  have hl1 : l1.length = os.length := by rw [← e1, List.length_map]
  have hlen : (l1 ++ [q]).length = os.length + 1 := by rw [List.length_append, hl1]; rfl
  have hj : os.length < (l1 ++ [q]).length := by omega
  have hq : (l1 ++ [q])[os.length] = q := by simp [← hl1]
  obtain ⟨g, c, rfl, hg, hg2⟩ := World.ownsRow.form ho (by omega)
  have hcap : (l1 ++ [q]).length ≤ c := by
    obtain ⟨_, _, e9, h9, _⟩ := ho.form
    cases e9
    exact h9
  have ho2 : w.ownsRow B 46 3 (.slice (some ⟨g, 0, none⟩) (os.length + 1) c) (os.length + 1) ((l1 ++ [q]).flatMap pC) := by
    have := ho
    unfold POwn at this
    rwa [hlen] at this
  have hcell : ∀ f u, f < 3 → (pC q)[f]? = some u → w.cell? ⟨g, os.length * 3 + f, none⟩ = some u := fun f u hf hu => by
    rw [World.ownsRow.cellAt ho2 (os.length * 3 + f) (by omega), pflat_get _ _ f hj hf, hq, hu]
  have hmq := hm q (by simp)
  have hLq : LLies w w.heap.size q.A q.a := by
    obtain ⟨_, _, e9, _, _, h9⟩ := hmq.form
    cases e9
    exact h9
  subst e3
  rw [hlen] at hcap ⊢
  refine ⟨g, c, q.A, q.c, rfl, hcap, hg, hg2, hcell 1 _ (by omega) rfl, hcell 2 _ (by omega) rfl, World.ownsRow.frozenAt ho2 _, hLq, fun t => ⟨l1 ++ [{ q with t := t }], ?_, ?_, ?_⟩⟩
  · rw [List.map_append, e1]
    rfl
  · have h1 := (World.ownsRow.stored ho2 (os.length * 3 + 1) (.int .i64 t)).1
    rw [pflat_set t _ _ hj, hq] at h1
    have h2 : (l1 ++ [q]).set os.length { q with t := t } = l1 ++ [{ q with t := t }] := by simp [← hl1]
    rw [h2] at h1
    unfold POwn
    rw [show (l1 ++ [({ q with t := t } : Ps)]).length = os.length + 1 by rw [List.length_append, hl1]; rfl]
    exact h1
  · have hgr := (World.ownsRow.stored ho2 (os.length * 3 + 1) (.int .i64 t)).2
    intro p hp
    rcases List.mem_append.1 hp with hp | hp
    · exact (hm p (List.mem_append_left _ hp)).grown ho hgr
    · rw [List.mem_singleton] at hp
      subst hp
      exact hmq.grown ho hgr

set_option maxRecDepth 100000 in
set_option maxHeartbeats 4000000 in
theorem refJoin7_any (A : Option Addr) (c : Nat) (ps : List Ps) (w : World) (hs : Sm ps) (hl : ps.length ≤ 100000) (h : SLies w w.heap.size A ps) :
    Calls Try.prog 28 #[.slice A ps.length c] w (MadeSpans w (joinL (ps.map Ps.sp))) := by
  have HSM := Lib.hid hs
  have hls := hs.1
  clear hs
  go_enter Try.func28, Try.ntmps28
  go_wp2
  go_loopw [3, 4, 5] (fun v i _ wr => ∃ k : Nat, k ≤ ps.length ∧ i = .int .i64 k ∧ Hid (SpOwn wr w.heap.size v (joinL ((ps.take k).map Ps.sp))) ∧ Hid (Below w.heap.size w wr)) (fun _ i _ _ => ps.length - (intOf i).toNat)
  case atStart => exact ⟨0, by omega, rfl, SpOwn.nil _ _, Below.refl _ _⟩
  case round =>
    obtain ⟨k, hk, rfl, hO, hB⟩ := hrel
    have hwr := hB.out.size
    by_cases hlt : k < ps.length
    · obtain ⟨g, o, rfl, hg, c1, c2', c3⟩ := (h.1.below hB.out).at_ hlt
      have hm1 := (h.2 _ (List.getElem_mem hlt)).below hB.out
      have hal := HSM.out.2 _ (List.getElem_mem hlt)
      have HT := Lib.hid (show (ps.take (k + 1)).map Ps.sp = (ps.take k).map Ps.sp ++ [ps[k].sp] by rw [← List.take_append_getElem hlt, List.map_append]; rfl)
      generalize ps[k] = p at *
      obtain ⟨pf, pt, pa, pA, pc⟩ := p
      dsimp only [Ps.sp] at HT
      have HTWI := Lib.hid (fun W (hb : Below wr.heap.size wr W) => twin6_any pA pc pa W hm1.2.1 hal ((hm1.2.2.more hwr).below hb |>.more hb.size))
      unfold MadeLocs at HTWI
      have hpl := joinL_len ((ps.take k).map Ps.sp)
      rw [List.length_map, List.length_take] at hpl
      have HYL0 := Lib.hid (show ∀ y ∈ joinL ((ps.take k).map Ps.sp), y.a.length ≤ 1099511627776 from fun y hy => by
        rw [← joinQ_sp] at hy
        obtain ⟨q, hq, rfl⟩ := List.mem_map.1 hy
        obtain ⟨p, hp, e⟩ := joinQ_mem hq
        have h2 : q.sp.a = p.a := e.1
        rw [h2]
        exact HSM.out.2 p (List.mem_of_mem_take hp))
      obtain ⟨xs, hxs⟩ : ∃ xs, (ps.take k).map Ps.sp = xs := ⟨_, rfl⟩
      rw [hxs] at hO HT hpl HYL0
      dsimp only at c1 c2' c3
      have HLA := Lib.hid ((hm1.2.2.more hwr))
      clear hm1 hxs
      rcases hj : joinL xs with _ | ⟨z, zs⟩
      · rw [hj] at hO
        obtain ⟨Av, cv, qs, ev, eq, _, _, _⟩ := hO.out.form
        have hnv := Lib.hid (show 0 = qs.length by have := congrArg List.length eq; simpa using this.symm)
        rw [← hnv.out] at ev
        subst ev
        clear eq
        have hln : ([] : List Sp).length ≤ 1000000 := by simp
        obtain ⟨ls, hls'⟩ : ∃ ls : List Sp, [] = ls := ⟨_, rfl⟩
        have HX := Lib.hid (show joinL (xs ++ [⟨pf, pt, pa⟩]) = ls ++ [⟨pf, pt, pa⟩] by rw [← hls', joinL_nil hj]; rfl)
        rw [hls'] at hO hln
        clear hls' hpl hnv HLA hj HYL0
        go_wp2
        refine wp_region_held_drew (S := fun W9 => True) (by kernel_rfl) (trivial) (fun hHeld => ?_)
        refine heldTake (i := 0) (d := some 15) (v := ?_) rfl rfl (by kernel_rfl) (by kernel_rfl) (by kernel_rfl) (fun _ _ _ h => h) (by kernel_rfl) ?hyq_1 (by assumption) ?restq_1
        case hyq_1 => (intro W9 hSw; (try dsimp only at hSw); go_simp; try (with_reducible rfl))
        (try simp only [Act.put, List.setIfInBounds_toArray, List.set_cons_zero, List.set_cons_succ])
        refine heldTake (i := 1) (d := some 16) (v := ?_) rfl rfl (by kernel_rfl) (by kernel_rfl) (by kernel_rfl) (fun _ _ _ h => h) (by kernel_rfl) ?hyq_2 (by assumption) ?restq_2
        case hyq_2 => (intro W9 hSw; (try dsimp only at hSw); go_simp; try (with_reducible rfl))
        (try simp only [Act.put, List.setIfInBounds_toArray, List.set_cons_zero, List.set_cons_succ])
        refine heldTake (i := 2) (d := some 17) (v := ?_) rfl rfl (by kernel_rfl) (by kernel_rfl) (by kernel_rfl) (fun _ _ _ h => h) (by kernel_rfl) ?hyq_3 (by assumption) ?restq_3
        case hyq_3 => (intro W9 hSw; (try dsimp only at hSw); go_simp; try (with_reducible rfl))
        (try simp only [Act.put, List.setIfInBounds_toArray, List.set_cons_zero, List.set_cons_succ])
        refine heldSkip (i := 3) (d := some 18) rfl rfl (by kernel_rfl) (by kernel_rfl) (by kernel_rfl) (fun _ _ _ h => h) (by kernel_rfl) (by assumption) ?_
        (try simp only [Act.put, List.setIfInBounds_toArray, List.set_cons_zero, List.set_cons_succ])
        refine heldSkip (i := 4) (d := some 19) rfl rfl (by kernel_rfl) (by kernel_rfl) (by kernel_rfl) (fun _ _ _ h => h) (by kernel_rfl) (by assumption) ?_
        (try simp only [Act.put, List.setIfInBounds_toArray, List.set_cons_zero, List.set_cons_succ])
        refine heldSkip (i := 5) (d := some 20) rfl rfl (by kernel_rfl) (by kernel_rfl) (by kernel_rfl) (fun _ _ _ h => h) (by kernel_rfl) (by assumption) ?_
        (try simp only [Act.put, List.setIfInBounds_toArray, List.set_cons_zero, List.set_cons_succ])
        refine heldSkip (i := 6) (d := some 21) rfl rfl (by kernel_rfl) (by kernel_rfl) (by kernel_rfl) (fun _ _ _ h => h) (by kernel_rfl) (by assumption) ?_
        (try simp only [Act.put, List.setIfInBounds_toArray, List.set_cons_zero, List.set_cons_succ])
        refine heldSkip (i := 7) (d := some 22) rfl rfl (by kernel_rfl) (by kernel_rfl) (by kernel_rfl) (fun _ _ _ h => h) (by kernel_rfl) (by assumption) ?_
        (try simp only [Act.put, List.setIfInBounds_toArray, List.set_cons_zero, List.set_cons_succ])
        refine heldSkip (i := 8) (d := some 23) rfl rfl (by kernel_rfl) (by kernel_rfl) (by kernel_rfl) (fun _ _ _ h => h) (by kernel_rfl) (by assumption) ?_
        (try simp only [Act.put, List.setIfInBounds_toArray, List.set_cons_zero, List.set_cons_succ])
        refine heldSkip (i := 9) (d := some 24) rfl rfl (by kernel_rfl) (by kernel_rfl) (by kernel_rfl) (fun _ _ _ h => h) (by kernel_rfl) (by assumption) ?_
        (try simp only [Act.put, List.setIfInBounds_toArray, List.set_cons_zero, List.set_cons_succ])
        refine heldSkip (i := 10) (d := some 25) rfl rfl (by kernel_rfl) (by kernel_rfl) (by kernel_rfl) (fun _ _ _ h => h) (by kernel_rfl) (by assumption) ?_
        (try simp only [Act.put, List.setIfInBounds_toArray, List.set_cons_zero, List.set_cons_succ])
        refine heldSkip (i := 11) (d := some 26) rfl rfl (by kernel_rfl) (by kernel_rfl) (by kernel_rfl) (fun _ _ _ h => h) (by kernel_rfl) (by assumption) ?_
        (try simp only [Act.put, List.setIfInBounds_toArray, List.set_cons_zero, List.set_cons_succ])
        refine heldSkip (i := 12) (d := some 27) rfl rfl (by kernel_rfl) (by kernel_rfl) (by kernel_rfl) (fun _ _ _ h => h) (by kernel_rfl) (by assumption) ?_
        (try simp only [Act.put, List.setIfInBounds_toArray, List.set_cons_zero, List.set_cons_succ])
        refine heldSkip (i := 13) (d := some 28) rfl rfl (by kernel_rfl) (by kernel_rfl) (by kernel_rfl) (fun _ _ _ h => h) (by kernel_rfl) (by assumption) ?_
        (try simp only [Act.put, List.setIfInBounds_toArray, List.set_cons_zero, List.set_cons_succ])
        refine heldTake (i := 14) (d := some 29) (v := ?_) rfl rfl (by kernel_rfl) (by kernel_rfl) (by kernel_rfl) (fun _ _ _ h => h) (by kernel_rfl) ?hyq_4 (by assumption) ?restq_4
        case hyq_4 => (intro W9 hSw; (try dsimp only at hSw); go_simp; try (with_reducible rfl))
        (try simp only [Act.put, List.setIfInBounds_toArray, List.set_cons_zero, List.set_cons_succ])
        refine heldTake (i := 15) (d := some 30) (v := ?_) rfl rfl (by kernel_rfl) (by kernel_rfl) (by kernel_rfl) (fun _ _ _ h => h) (by kernel_rfl) ?hyq_5 (by assumption) ?restq_5
        case hyq_5 => (intro W9 hSw; (try dsimp only at hSw); go_simp; try (with_reducible rfl))
        (try simp only [Act.put, List.setIfInBounds_toArray, List.set_cons_zero, List.set_cons_succ])
        refine heldSkip (i := 16) (d := some 31) rfl rfl (by kernel_rfl) (by kernel_rfl) (by kernel_rfl) (fun _ _ _ h => h) (by kernel_rfl) (by assumption) ?_
        (try simp only [Act.put, List.setIfInBounds_toArray, List.set_cons_zero, List.set_cons_succ])
        refine heldSkip (i := 17) (d := some 32) rfl rfl (by kernel_rfl) (by kernel_rfl) (by kernel_rfl) (fun _ _ _ h => h) (by kernel_rfl) (by assumption) ?_
        (try simp only [Act.put, List.setIfInBounds_toArray, List.set_cons_zero, List.set_cons_succ])
        refine heldSkip (i := 18) (d := some 33) rfl rfl (by kernel_rfl) (by kernel_rfl) (by kernel_rfl) (fun _ _ _ h => h) (by kernel_rfl) (by assumption) ?_
        (try simp only [Act.put, List.setIfInBounds_toArray, List.set_cons_zero, List.set_cons_succ])
        refine heldSkip (i := 19) (d := some 34) rfl rfl (by kernel_rfl) (by kernel_rfl) (by kernel_rfl) (fun _ _ _ h => h) (by kernel_rfl) (by assumption) ?_
        (try simp only [Act.put, List.setIfInBounds_toArray, List.set_cons_zero, List.set_cons_succ])
        refine heldSkip (i := 20) (d := some 35) rfl rfl (by kernel_rfl) (by kernel_rfl) (by kernel_rfl) (fun _ _ _ h => h) (by kernel_rfl) (by assumption) ?_
        (try simp only [Act.put, List.setIfInBounds_toArray, List.set_cons_zero, List.set_cons_succ])
        refine heldSkip (i := 21) (d := some 36) rfl rfl (by kernel_rfl) (by kernel_rfl) (by kernel_rfl) (fun _ _ _ h => h) (by kernel_rfl) (by assumption) ?_
        (try simp only [Act.put, List.setIfInBounds_toArray, List.set_cons_zero, List.set_cons_succ])
        refine heldSkip (i := 22) (d := some 37) rfl rfl (by kernel_rfl) (by kernel_rfl) (by kernel_rfl) (fun _ _ _ h => h) (by kernel_rfl) (by assumption) ?_
        (try simp only [Act.put, List.setIfInBounds_toArray, List.set_cons_zero, List.set_cons_succ])
        refine heldSkip (i := 23) (d := some 38) rfl rfl (by kernel_rfl) (by kernel_rfl) (by kernel_rfl) (fun _ _ _ h => h) (by kernel_rfl) (by assumption) ?_
        (try simp only [Act.put, List.setIfInBounds_toArray, List.set_cons_zero, List.set_cons_succ])
        refine heldSkip (i := 24) (d := some 39) rfl rfl (by kernel_rfl) (by kernel_rfl) (by kernel_rfl) (fun _ _ _ h => h) (by kernel_rfl) (by assumption) ?_
        (try simp only [Act.put, List.setIfInBounds_toArray, List.set_cons_zero, List.set_cons_succ])
        refine heldSkip (i := 25) (d := some 40) rfl rfl (by kernel_rfl) (by kernel_rfl) (by kernel_rfl) (fun _ _ _ h => h) (by kernel_rfl) (by assumption) ?_
        (try simp only [Act.put, List.setIfInBounds_toArray, List.set_cons_zero, List.set_cons_succ])
        refine heldSkip (i := 26) (d := some 41) rfl rfl (by kernel_rfl) (by kernel_rfl) (by kernel_rfl) (fun _ _ _ h => h) (by kernel_rfl) (by assumption) ?_
        (try simp only [Act.put, List.setIfInBounds_toArray, List.set_cons_zero, List.set_cons_succ])
        refine heldTake (i := 27) (d := some 42) (v := ?_) rfl rfl (by kernel_rfl) (by kernel_rfl) (by kernel_rfl) (fun _ _ _ h => h) (by kernel_rfl) ?hyq_6 (by assumption) ?restq_6
        case hyq_6 => (intro W9 hSw; (try dsimp only at hSw); go_simp; try (with_reducible rfl))
        (try simp only [Act.put, List.setIfInBounds_toArray, List.set_cons_zero, List.set_cons_succ])
        refine wpAnyH_done (by kernel_rfl) ?_ _
        have hb1 := (Below.refl wr.heap.size wr).drew
        have HO1 := Lib.hid (hO.out.below hb1)
        have HB1 := Lib.hid (hB.out.trans (hb1.mono hwr))
        obtain ⟨W1, hW1⟩ : ∃ W, wr.drew = W := ⟨_, rfl⟩
        rw [hW1] at hb1 HO1 HB1 ⊢
        clear hW1
        have hw1 := HB1.out.size
        obtain ⟨d1, d2, d3⟩ : (W1.cell? ⟨g, o + k * 3, none⟩ = some (.int .i64 pf) ∧ W1.cell? ⟨g, o + k * 3 + 1, none⟩ = some (.int .i64 pt) ∧ W1.cell? ⟨g, o + k * 3 + 2, none⟩ = some (.slice pA pa.length pc)) := ⟨(hb1.cell (p := ⟨g, o + k * 3, none⟩) (by dsimp only; omega)).trans c1, (hb1.cell (p := ⟨g, o + k * 3 + 1, none⟩) (by dsimp only; omega)).trans c2', (hb1.cell (p := ⟨g, o + k * 3 + 2, none⟩) (by dsimp only; omega)).trans c3⟩
        have hz1 := hb1.size
        have HSA := Lib.hid (HTWI.out W1.drew (hb1.trans ((Below.refl W1.heap.size W1).drew.mono hz1)))
        clear HTWI
        go_wp2
        refine wp_region_held_drew (S := fun W9 => (W9.cell? ⟨g, o + k * 3, none⟩ = some (.int .i64 pf) ∧ W9.cell? ⟨g, o + k * 3 + 1, none⟩ = some (.int .i64 pt) ∧ W9.cell? ⟨g, o + k * 3 + 2, none⟩ = some (.slice pA pa.length pc))) (by kernel_rfl) (⟨d1, d2, d3⟩) (fun hHeld => ?_)
        refine heldTake (i := 0) (d := some 52) (v := ?_) rfl rfl (by kernel_rfl) (by kernel_rfl) (by kernel_rfl) (fun _ _ _ h => h) (by kernel_rfl) ?hyq_7 (by assumption) ?restq_7
        case hyq_7 => (intro W9 hSw; (try dsimp only at hSw); go_simp; try (with_reducible rfl))
        (try simp only [Act.put, List.setIfInBounds_toArray, List.set_cons_zero, List.set_cons_succ])
        refine heldTake (i := 1) (d := some 53) (v := ?_) rfl rfl (by kernel_rfl) (by kernel_rfl) (by kernel_rfl) (fun _ _ _ h => h) (by kernel_rfl) ?hyq_8 (by assumption) ?restq_8
        case hyq_8 => (intro W9 hSw; (try dsimp only at hSw); go_simp; try (with_reducible rfl))
        (try simp only [Act.put, List.setIfInBounds_toArray, List.set_cons_zero, List.set_cons_succ])
        refine heldTake (i := 2) (d := some 54) (v := ?_) rfl rfl (by kernel_rfl) (by kernel_rfl) (by kernel_rfl) (fun _ _ _ h => h) (by kernel_rfl) ?hyq_9 (by assumption) ?restq_9
        case hyq_9 => (intro W9 hSw; (try dsimp only at hSw); go_simp; try (with_reducible rfl))
        (try simp only [Act.put, List.setIfInBounds_toArray, List.set_cons_zero, List.set_cons_succ])
        refine heldTake (i := 3) (d := some 55) (v := ?_) rfl rfl (by kernel_rfl) (by kernel_rfl) (by kernel_rfl) (fun _ _ _ h => h) (by kernel_rfl) ?hyq_10 (by assumption) ?restq_10
        case hyq_10 => (intro W9 hSw; (try dsimp only at hSw); go_simp; try (with_reducible rfl))
        (try simp only [Act.put, List.setIfInBounds_toArray, List.set_cons_zero, List.set_cons_succ])
        refine heldTake (i := 4) (d := some 56) (v := ?_) rfl rfl (by kernel_rfl) (by kernel_rfl) (by kernel_rfl) (fun _ _ _ h => h) (by kernel_rfl) ?hyq_11 (by assumption) ?restq_11
        case hyq_11 => (intro W9 hSw; (try dsimp only at hSw); go_simp; try (with_reducible rfl))
        (try simp only [Act.put, List.setIfInBounds_toArray, List.set_cons_zero, List.set_cons_succ])
        refine heldTake (i := 5) (d := some 57) (v := ?_) rfl rfl (by kernel_rfl) (by kernel_rfl) (by kernel_rfl) (fun _ _ _ h => h) (by kernel_rfl) ?hyq_12 (by assumption) ?restq_12
        case hyq_12 => (intro W9 hSw; (try dsimp only at hSw); go_simp; try (with_reducible rfl))
        (try simp only [Act.put, List.setIfInBounds_toArray, List.set_cons_zero, List.set_cons_succ])
        refine heldTake (i := 6) (d := some 58) (v := ?_) rfl rfl (by kernel_rfl) (by kernel_rfl) (by kernel_rfl) (fun _ _ _ h => h) (by kernel_rfl) ?hyq_13 (by assumption) ?restq_13
        case hyq_13 => (intro W9 hSw; (try dsimp only at hSw); go_simp; try (with_reducible rfl))
        (try simp only [Act.put, List.setIfInBounds_toArray, List.set_cons_zero, List.set_cons_succ])
        refine heldTake (i := 7) (d := some 59) (v := ?_) rfl rfl (by kernel_rfl) (by kernel_rfl) (by kernel_rfl) (fun _ _ _ h => h) (by kernel_rfl) ?hyq_14 (by assumption) ?restq_14
        case hyq_14 => (intro W9 hSw; (try dsimp only at hSw); go_simp; try (with_reducible rfl))
        (try simp only [Act.put, List.setIfInBounds_toArray, List.set_cons_zero, List.set_cons_succ])
        refine heldTake (i := 8) (d := some 60) (v := ?_) rfl rfl (by kernel_rfl) (by kernel_rfl) (by kernel_rfl) (fun _ _ _ h => h) (by kernel_rfl) ?hyq_15 (by assumption) ?restq_15
        case hyq_15 => (intro W9 hSw; (try dsimp only at hSw); go_simp; try (with_reducible rfl))
        (try simp only [Act.put, List.setIfInBounds_toArray, List.set_cons_zero, List.set_cons_succ])
        refine heldTake (i := 9) (d := some 61) (v := ?_) rfl rfl (by kernel_rfl) (by kernel_rfl) (by kernel_rfl) (fun _ _ _ h => h) (by kernel_rfl) ?hyq_16 (by assumption) ?restq_16
        case hyq_16 => (intro W9 hSw; (try dsimp only at hSw); go_simp; try (with_reducible rfl))
        (try simp only [Act.put, List.setIfInBounds_toArray, List.set_cons_zero, List.set_cons_succ])
        refine heldTake (i := 10) (d := some 62) (v := ?_) rfl rfl (by kernel_rfl) (by kernel_rfl) (by kernel_rfl) (fun _ _ _ h => h) (by kernel_rfl) ?hyq_17 (by assumption) ?restq_17
        case hyq_17 => (intro W9 hSw; (try dsimp only at hSw); go_simp; try (with_reducible rfl))
        (try simp only [Act.put, List.setIfInBounds_toArray, List.set_cons_zero, List.set_cons_succ])
        refine heldTake (i := 11) (d := some 63) (v := ?_) rfl rfl (by kernel_rfl) (by kernel_rfl) (by kernel_rfl) (fun _ _ _ h => h) (by kernel_rfl) ?hyq_18 (by assumption) ?restq_18
        case hyq_18 => (intro W9 hSw; (try dsimp only at hSw); go_simp; try (with_reducible rfl))
        (try simp only [Act.put, List.setIfInBounds_toArray, List.set_cons_zero, List.set_cons_succ])
        refine heldTake (i := 12) (d := some 64) (v := ?_) rfl rfl (by kernel_rfl) (by kernel_rfl) (by kernel_rfl) (fun _ _ _ h => h) (by kernel_rfl) ?hyq_19 (by assumption) ?restq_19
        case hyq_19 => (intro W9 hSw; (try dsimp only at hSw); go_simp; try (with_reducible rfl))
        (try simp only [Act.put, List.setIfInBounds_toArray, List.set_cons_zero, List.set_cons_succ])
        refine heldTake (i := 13) (d := some 65) (v := ?_) rfl rfl (by kernel_rfl) (by kernel_rfl) (by kernel_rfl) (fun _ _ _ h => h) (by kernel_rfl) ?hyq_20 (by assumption) ?restq_20
        case hyq_20 => (intro W9 hSw; (try dsimp only at hSw); go_simp; try (with_reducible rfl))
        (try simp only [Act.put, List.setIfInBounds_toArray, List.set_cons_zero, List.set_cons_succ])
        refine heldTake (i := 14) (d := some 66) (v := ?_) rfl rfl (by kernel_rfl) (by kernel_rfl) (by kernel_rfl) (fun _ _ _ h => h) (by kernel_rfl) ?hyq_21 (by assumption) ?restq_21
        case hyq_21 => (intro W9 hSw; (try dsimp only at hSw); go_simp; try (with_reducible rfl))
        (try simp only [Act.put, List.setIfInBounds_toArray, List.set_cons_zero, List.set_cons_succ])
        refine heldTake (i := 15) (d := some 67) (v := ?_) rfl rfl (by kernel_rfl) (by kernel_rfl) (by kernel_rfl) (fun _ _ _ h => h) (by kernel_rfl) ?hyq_22 (by assumption) ?restq_22
        case hyq_22 => (intro W9 hSw; (try dsimp only at hSw); go_simp; try (with_reducible rfl))
        (try simp only [Act.put, List.setIfInBounds_toArray, List.set_cons_zero, List.set_cons_succ])
        refine wpAnyH_ready (rs := [16]) (by kernel_rfl) (by simp) ?_
        refine AllReadyH.cons rfl (fun K hK => ?_) AllReadyH.nil
        go_simp
        go_at_call 30
        refine HSA.out.mono ?_
        rintro e9 X ⟨vX, rfl, hoX, hbX⟩
        have hbX := below_of_drew hbX
        obtain ⟨AX, cX, eX, _⟩ := hoX.form
        subst eX
        have hzX := hbX.size
        have hSX : (X.cell? ⟨g, o + k * 3, none⟩ = some (.int .i64 pf) ∧ X.cell? ⟨g, o + k * 3 + 1, none⟩ = some (.int .i64 pt) ∧ X.cell? ⟨g, o + k * 3 + 2, none⟩ = some (.slice pA pa.length pc)) := ⟨(hbX.cell (p := ⟨g, o + k * 3, none⟩) (by dsimp only; omega)).trans d1, (hbX.cell (p := ⟨g, o + k * 3 + 1, none⟩) (by dsimp only; omega)).trans d2, (hbX.cell (p := ⟨g, o + k * 3 + 2, none⟩) (by dsimp only; omega)).trans d3⟩
        have HOX := Lib.hid (HO1.out.below hbX)
        have HLX := Lib.hid (hoX.base hw1)
        clear hoX
        go_wp2_with fail
        refine hK.out _ _ hSX (fun hHeld => ?_)
        clear hK K
        (try simp only [Act.put, List.setIfInBounds_toArray, List.set_cons_zero, List.set_cons_succ])
        refine heldTake (i := 17) (d := some 69) (v := ?_) rfl rfl (by kernel_rfl) (by kernel_rfl) (by kernel_rfl) (fun _ _ _ h => h) (by kernel_rfl) ?hyq_23 (by assumption) ?restq_23
        case hyq_23 => (intro W9 hSw; (try dsimp only at hSw); go_simp; try (with_reducible rfl))
        (try simp only [Act.put, List.setIfInBounds_toArray, List.set_cons_zero, List.set_cons_succ])
        refine wpAnyH_ready (rs := [18]) (by kernel_rfl) (by simp) ?_
        refine AllReadyH.cons rfl (fun K hK => ?_) AllReadyH.nil
        have HY := Lib.hid (spAt_new X ⟨pf, pt, pa, AX, cX⟩)
        have hbY := hbX.trans ((below_lnew X (.cells (pK ⟨pf, pt, pa, AX, cX⟩) 46)).mono hzX)
        have HOY := Lib.hid (HOX.out.below (below_lnew X (.cells (pK ⟨pf, pt, pa, AX, cX⟩) 46)))
        have HLY := Lib.hid (HLX.out.below (below_lnew X (.cells (pK ⟨pf, pt, pa, AX, cX⟩) 46)))
        have hzY := hbY.size
        unfold pK at HY hbY HOY HLY hzY
        dsimp only at HY hbY HOY HLY hzY
        go_simp
        obtain ⟨Y, hY⟩ : ∃ Y, X.alloc (.cells #[.int .i64 pf, .int .i64 pt, .slice AX pa.length cX] 46) = Y := ⟨_, rfl⟩
        rw [hY] at HY hbY HOY HLY hzY ⊢
        have hSY : (Y.cell? ⟨g, o + k * 3, none⟩ = some (.int .i64 pf) ∧ Y.cell? ⟨g, o + k * 3 + 1, none⟩ = some (.int .i64 pt) ∧ Y.cell? ⟨g, o + k * 3 + 2, none⟩ = some (.slice pA pa.length pc)) := ⟨(hbY.cell (p := ⟨g, o + k * 3, none⟩) (by dsimp only; omega)).trans d1, (hbY.cell (p := ⟨g, o + k * 3 + 1, none⟩) (by dsimp only; omega)).trans d2, (hbY.cell (p := ⟨g, o + k * 3 + 2, none⟩) (by dsimp only; omega)).trans d3⟩
        refine hK.out _ _ hSY (fun hHeld => ?_)
        clear hY
        clear hK K
        (try simp only [Act.put, List.setIfInBounds_toArray, List.set_cons_zero, List.set_cons_succ])
        refine wpAnyH_ready (rs := [19]) (by kernel_rfl) (by simp) ?_
        refine AllReadyH.cons rfl (fun K hK => ?_) AllReadyH.nil
        rw [if_pos (by kernel_rfl)]
        refine op_app_sp Y (.tmp 52) (.tmp 70) rfl w.heap.size _ ls rfl HOY.out X.heap.size 1 ⟨pf, pt, pa, AX, cX⟩ rfl HY.out HLY.out hln (by omega) ?_
        intro v9 Z hoZ hgZ hkZ
        skip
        have hbZ : Below w.heap.size w Z := (HB1.out.trans (hbY.mono hw1)).grown hgZ (by omega) hkZ
        have hcZ : ∀ p : Addr, p.block < w.heap.size → Z.cell? p = Y.cell? p := fun p hp => World.cell?_of_block (hgZ.block p.block (by omega) (fun e => by have := hkZ _ e.symm; omega))
        have hSZ : (Z.cell? ⟨g, o + k * 3, none⟩ = some (.int .i64 pf) ∧ Z.cell? ⟨g, o + k * 3 + 1, none⟩ = some (.int .i64 pt) ∧ Z.cell? ⟨g, o + k * 3 + 2, none⟩ = some (.slice pA pa.length pc)) := ⟨(hcZ ⟨g, o + k * 3, none⟩ hg).trans hSY.1, (hcZ ⟨g, o + k * 3 + 1, none⟩ hg).trans hSY.2.1, (hcZ ⟨g, o + k * 3 + 2, none⟩ hg).trans hSY.2.2⟩
        refine hK.out _ _ hSZ (fun hHeld => ?_)
        clear hK K
        (try simp only [Act.put, List.setIfInBounds_toArray])
        refine heldTake (i := 20) (d := some 3) (v := ?_) rfl rfl (by kernel_rfl) (by kernel_rfl) (by kernel_rfl) (fun _ _ _ h => h) (by kernel_rfl) ?hyq_24 (by assumption) ?restq_24
        case hyq_24 => (intro W9 hSw; (try dsimp only at hSw); go_simp; try (with_reducible rfl))
        (try simp only [Act.put])
        refine wpAnyH_done (by kernel_rfl) ?_ _
        have HOZ := Lib.hid hoZ
        have HBZ := Lib.hid hbZ
        clear hoZ hbZ
        go_wp2
        go_roundw
        case rel => exact ⟨k + 1, by omega, by go_num, by rw [HT.out, HX.out]; exact HOZ, HBZ⟩
        case measure => simp [intOf]; omega
      · obtain ⟨os, y, hoy⟩ : ∃ os y, joinL xs = os ++ [y] := ⟨(joinL xs).dropLast, (joinL xs).getLast (by rw [hj]; simp), (List.dropLast_concat_getLast _).symm⟩
        rw [hoy] at hO
        have HXX := Lib.hid (joinL_snoc (x := ⟨pf, pt, pa⟩) hoy)
        rw [hoy, List.length_append, List.length_singleton] at hpl
        have HYL := Lib.hid (HYL0.out y (by rw [hoy]; simp))
        have hlo : (os.length : Int) < os.length + 1 := by omega
        clear hj hoy HYL0
        obtain ⟨gy, cv, Ay, cy, rfl, hcv, hgy, hgy2, y1, y2, yf, hLy, hset⟩ := hO.out.last
        have HSET := Lib.hid hset
        have HLy := Lib.hid hLy
        clear hset hLy
        have hol : os.length ≤ 100000 := by omega
        clear hpl
        have hln : (os ++ [y]).length ≤ 1000000 := by rw [List.length_append]; simp only [List.length_cons, List.length_nil]; omega
        by_cases hft : y.t = pf
        · have HSG := Lib.hid (sameG_any Ay pA cy pc y.a pa wr.drew HYL.out (HLy.out.below (Below.refl _ _).drew) (HLA.out.below (Below.refl _ _).drew))
          unfold BoolR at HSG
          have hfd : decide (y.t = pf) = true := decide_eq_true hft
          have hfb : (y.t == pf) = true := by simpa using hft
          go_wp2
          refine wp_region_held_drew (S := fun W9 => (W9.cell? ⟨g, o + k * 3, none⟩ = some (.int .i64 pf) ∧ W9.cell? ⟨g, o + k * 3 + 1, none⟩ = some (.int .i64 pt) ∧ W9.cell? ⟨g, o + k * 3 + 2, none⟩ = some (.slice pA pa.length pc)) ∧ (W9.cell? ⟨gy, os.length * 3 + 1, none⟩ = some (.int .i64 y.t) ∧ W9.cell? ⟨gy, os.length * 3 + 2, none⟩ = some (.slice Ay y.a.length cy))) (by kernel_rfl) (⟨⟨c1, c2', c3⟩, y1, y2⟩) (fun hHeld => ?_)
          refine heldTake (i := 0) (d := some 15) (v := ?_) rfl rfl (by kernel_rfl) (by kernel_rfl) (by kernel_rfl) (fun _ _ _ h => h) (by kernel_rfl) ?hyq_25 (by assumption) ?restq_25
          case hyq_25 => (intro W9 hSw; (try dsimp only at hSw); go_simp; try (with_reducible rfl))
          (try simp only [Act.put, List.setIfInBounds_toArray, List.set_cons_zero, List.set_cons_succ])
          refine heldTake (i := 1) (d := some 16) (v := ?_) rfl rfl (by kernel_rfl) (by kernel_rfl) (by kernel_rfl) (fun _ _ _ h => h) (by kernel_rfl) ?hyq_26 (by assumption) ?restq_26
          case hyq_26 => (intro W9 hSw; (try dsimp only at hSw); go_simp; try (with_reducible rfl))
          (try simp only [Act.put, List.setIfInBounds_toArray, List.set_cons_zero, List.set_cons_succ])
          refine heldTake (i := 2) (d := some 17) (v := ?_) rfl rfl (by kernel_rfl) (by kernel_rfl) (by kernel_rfl) (fun _ _ _ h => h) (by kernel_rfl) ?hyq_27 (by assumption) ?restq_27
          case hyq_27 => (intro W9 hSw; (try dsimp only at hSw); go_simp; try (with_reducible rfl))
          (try simp only [Act.put, List.setIfInBounds_toArray, List.set_cons_zero, List.set_cons_succ])
          refine heldTake (i := 3) (d := some 18) (v := ?_) rfl rfl (by kernel_rfl) (by kernel_rfl) (by kernel_rfl) (fun _ _ _ h => h) (by kernel_rfl) ?hyq_28 (by assumption) ?restq_28
          case hyq_28 => (intro W9 hSw; (try dsimp only at hSw); go_simp; try (with_reducible rfl))
          (try simp only [Act.put, List.setIfInBounds_toArray, List.set_cons_zero, List.set_cons_succ])
          refine heldTake (i := 4) (d := some 19) (v := ?_) rfl rfl (by kernel_rfl) (by kernel_rfl) (by kernel_rfl) (fun _ _ _ h => h) (by kernel_rfl) ?hyq_29 (by assumption) ?restq_29
          case hyq_29 => (intro W9 hSw; (try dsimp only at hSw); go_simp; try (with_reducible rfl))
          (try simp only [Act.put, List.setIfInBounds_toArray, List.set_cons_zero, List.set_cons_succ])
          refine heldTake (i := 5) (d := some 20) (v := ?_) rfl rfl (by kernel_rfl) (by kernel_rfl) (by kernel_rfl) (fun _ _ _ h => h) (by kernel_rfl) ?hyq_30 (by assumption) ?restq_30
          case hyq_30 => (intro W9 hSw; (try dsimp only at hSw); go_simp; try (with_reducible rfl))
          (try simp only [Act.put, List.setIfInBounds_toArray, List.set_cons_zero, List.set_cons_succ])
          refine heldTake (i := 6) (d := some 21) (v := ?_) rfl rfl (by kernel_rfl) (by kernel_rfl) (by kernel_rfl) (fun _ _ _ h => h) (by kernel_rfl) ?hyq_31 (by assumption) ?restq_31
          case hyq_31 => (intro W9 hSw; (try dsimp only at hSw); go_simp; try (with_reducible rfl))
          (try simp only [Act.put, List.setIfInBounds_toArray, List.set_cons_zero, List.set_cons_succ])
          refine heldTake (i := 7) (d := some 22) (v := ?_) rfl rfl (by kernel_rfl) (by kernel_rfl) (by kernel_rfl) (fun _ _ _ h => h) (by kernel_rfl) ?hyq_32 (by assumption) ?restq_32
          case hyq_32 => (intro W9 hSw; (try dsimp only at hSw); go_simp; try (with_reducible rfl))
          (try simp only [Act.put, List.setIfInBounds_toArray, List.set_cons_zero, List.set_cons_succ])
          refine heldTake (i := 8) (d := some 23) (v := ?_) rfl rfl (by kernel_rfl) (by kernel_rfl) (by kernel_rfl) (fun _ _ _ h => h) (by kernel_rfl) ?hyq_33 (by assumption) ?restq_33
          case hyq_33 => (intro W9 hSw; (try dsimp only at hSw); go_simp; try (with_reducible rfl))
          (try simp only [Act.put, List.setIfInBounds_toArray, List.set_cons_zero, List.set_cons_succ])
          refine heldTake (i := 9) (d := some 24) (v := ?_) rfl rfl (by kernel_rfl) (by kernel_rfl) (by kernel_rfl) (fun _ _ _ h => h) (by kernel_rfl) ?hyq_34 (by assumption) ?restq_34
          case hyq_34 => (intro W9 hSw; (try dsimp only at hSw); go_simp; try (with_reducible rfl))
          (try simp only [Act.put, List.setIfInBounds_toArray, List.set_cons_zero, List.set_cons_succ])
          refine heldTake (i := 10) (d := some 25) (v := ?_) rfl rfl (by kernel_rfl) (by kernel_rfl) (by kernel_rfl) (fun _ _ _ h => h) (by kernel_rfl) ?hyq_35 (by assumption) ?restq_35
          case hyq_35 => (intro W9 hSw; (try dsimp only at hSw); go_simp; try (with_reducible rfl))
          (try simp only [Act.put, List.setIfInBounds_toArray, List.set_cons_zero, List.set_cons_succ])
          refine heldTake (i := 11) (d := some 26) (v := ?_) rfl rfl (by kernel_rfl) (by kernel_rfl) (by kernel_rfl) (fun _ _ _ h => h) (by kernel_rfl) ?hyq_36 (by assumption) ?restq_36
          case hyq_36 => (intro W9 hSw; (try dsimp only at hSw); go_simp; try (with_reducible rfl))
          (try simp only [Act.put, List.setIfInBounds_toArray, List.set_cons_zero, List.set_cons_succ])
          refine heldTake (i := 12) (d := some 27) (v := ?_) rfl rfl (by kernel_rfl) (by kernel_rfl) (by kernel_rfl) (fun _ _ _ h => h) (by kernel_rfl) ?hyq_37 (by assumption) ?restq_37
          case hyq_37 => (intro W9 hSw; (try dsimp only at hSw); go_simp; try (with_reducible rfl))
          (try simp only [Act.put, List.setIfInBounds_toArray, List.set_cons_zero, List.set_cons_succ])
          refine heldTake (i := 13) (d := some 28) (v := ?_) rfl rfl (by kernel_rfl) (by kernel_rfl) (by kernel_rfl) (fun _ _ _ h => h) (by kernel_rfl) ?hyq_38 (by assumption) ?restq_38
          case hyq_38 => (intro W9 hSw; (try dsimp only at hSw); go_simp; try (with_reducible rfl))
          (try simp only [Act.put, List.setIfInBounds_toArray, List.set_cons_zero, List.set_cons_succ])
          refine heldTake (i := 14) (d := some 29) (v := ?_) rfl rfl (by kernel_rfl) (by kernel_rfl) (by kernel_rfl) (fun _ _ _ h => h) (by kernel_rfl) ?hyq_39 (by assumption) ?restq_39
          case hyq_39 => (intro W9 hSw; (try dsimp only at hSw); go_simp; try (with_reducible rfl))
          (try simp only [Act.put, List.setIfInBounds_toArray, List.set_cons_zero, List.set_cons_succ])
          refine heldTake (i := 15) (d := some 30) (v := ?_) rfl rfl (by kernel_rfl) (by kernel_rfl) (by kernel_rfl) (fun _ _ _ h => h) (by kernel_rfl) ?hyq_40 (by assumption) ?restq_40
          case hyq_40 => (intro W9 hSw; (try dsimp only at hSw); go_simp; try (with_reducible rfl))
          (try simp only [Act.put, List.setIfInBounds_toArray, List.set_cons_zero, List.set_cons_succ])
          refine heldTake (i := 16) (d := some 31) (v := ?_) rfl rfl (by kernel_rfl) (by kernel_rfl) (by kernel_rfl) (fun _ _ _ h => h) (by kernel_rfl) ?hyq_41 (by assumption) ?restq_41
          case hyq_41 => (intro W9 hSw; (try dsimp only at hSw); go_simp; try (with_reducible rfl))
          (try simp only [Act.put, List.setIfInBounds_toArray, List.set_cons_zero, List.set_cons_succ])
          refine heldTake (i := 17) (d := some 32) (v := ?_) rfl rfl (by kernel_rfl) (by kernel_rfl) (by kernel_rfl) (fun _ _ _ h => h) (by kernel_rfl) ?hyq_42 (by assumption) ?restq_42
          case hyq_42 => (intro W9 hSw; (try dsimp only at hSw); go_simp; try (with_reducible rfl))
          (try simp only [Act.put, List.setIfInBounds_toArray, List.set_cons_zero, List.set_cons_succ])
          refine heldTake (i := 18) (d := some 33) (v := ?_) rfl rfl (by kernel_rfl) (by kernel_rfl) (by kernel_rfl) (fun _ _ _ h => h) (by kernel_rfl) ?hyq_43 (by assumption) ?restq_43
          case hyq_43 => (intro W9 hSw; (try dsimp only at hSw); go_simp; try (with_reducible rfl))
          (try simp only [Act.put, List.setIfInBounds_toArray, List.set_cons_zero, List.set_cons_succ])
          refine heldTake (i := 19) (d := some 34) (v := ?_) rfl rfl (by kernel_rfl) (by kernel_rfl) (by kernel_rfl) (fun _ _ _ h => h) (by kernel_rfl) ?hyq_44 (by assumption) ?restq_44
          case hyq_44 => (intro W9 hSw; (try dsimp only at hSw); go_simp; try (with_reducible rfl))
          (try simp only [Act.put, List.setIfInBounds_toArray, List.set_cons_zero, List.set_cons_succ])
          refine heldTake (i := 20) (d := some 35) (v := ?_) rfl rfl (by kernel_rfl) (by kernel_rfl) (by kernel_rfl) (fun _ _ _ h => h) (by kernel_rfl) ?hyq_45 (by assumption) ?restq_45
          case hyq_45 => (intro W9 hSw; (try dsimp only at hSw); go_simp; try (with_reducible rfl))
          (try simp only [Act.put, List.setIfInBounds_toArray, List.set_cons_zero, List.set_cons_succ])
          refine heldTake (i := 21) (d := some 36) (v := ?_) rfl rfl (by kernel_rfl) (by kernel_rfl) (by kernel_rfl) (fun _ _ _ h => h) (by kernel_rfl) ?hyq_46 (by assumption) ?restq_46
          case hyq_46 => (intro W9 hSw; (try dsimp only at hSw); go_simp; try (with_reducible rfl))
          (try simp only [Act.put, List.setIfInBounds_toArray, List.set_cons_zero, List.set_cons_succ])
          refine heldTake (i := 22) (d := some 37) (v := ?_) rfl rfl (by kernel_rfl) (by kernel_rfl) (by kernel_rfl) (fun _ _ _ h => h) (by kernel_rfl) ?hyq_47 (by assumption) ?restq_47
          case hyq_47 => (intro W9 hSw; (try dsimp only at hSw); go_simp; try (with_reducible rfl))
          (try simp only [Act.put, List.setIfInBounds_toArray, List.set_cons_zero, List.set_cons_succ])
          refine heldTake (i := 23) (d := some 38) (v := ?_) rfl rfl (by kernel_rfl) (by kernel_rfl) (by kernel_rfl) (fun _ _ _ h => h) (by kernel_rfl) ?hyq_48 (by assumption) ?restq_48
          case hyq_48 => (intro W9 hSw; (try dsimp only at hSw); go_simp; try (with_reducible rfl))
          (try simp only [Act.put, List.setIfInBounds_toArray, List.set_cons_zero, List.set_cons_succ])
          refine heldTake (i := 24) (d := some 39) (v := ?_) rfl rfl (by kernel_rfl) (by kernel_rfl) (by kernel_rfl) (fun _ _ _ h => h) (by kernel_rfl) ?hyq_49 (by assumption) ?restq_49
          case hyq_49 => (intro W9 hSw; (try dsimp only at hSw); go_simp; try (with_reducible rfl))
          (try simp only [Act.put, List.setIfInBounds_toArray, List.set_cons_zero, List.set_cons_succ])
          refine heldTake (i := 25) (d := some 40) (v := ?_) rfl rfl (by kernel_rfl) (by kernel_rfl) (by kernel_rfl) (fun _ _ _ h => h) (by kernel_rfl) ?hyq_50 (by assumption) ?restq_50
          case hyq_50 => (intro W9 hSw; (try dsimp only at hSw); go_simp; try (with_reducible rfl))
          (try simp only [Act.put, List.setIfInBounds_toArray, List.set_cons_zero, List.set_cons_succ])
          refine wpAnyH_ready (rs := [26]) (by kernel_rfl) (by simp) ?_
          refine AllReadyH.cons rfl (fun K hK => ?_) AllReadyH.nil
          go_simp
          go_at_call 25
          refine HSG.out.mono ?_
          rintro e9 X ⟨rfl, hbX⟩
          have hbX := below_of_drew hbX
          have hSX : (X.cell? ⟨g, o + k * 3, none⟩ = some (.int .i64 pf) ∧ X.cell? ⟨g, o + k * 3 + 1, none⟩ = some (.int .i64 pt) ∧ X.cell? ⟨g, o + k * 3 + 2, none⟩ = some (.slice pA pa.length pc)) ∧ (X.cell? ⟨gy, os.length * 3 + 1, none⟩ = some (.int .i64 y.t) ∧ X.cell? ⟨gy, os.length * 3 + 2, none⟩ = some (.slice Ay y.a.length cy)) := ⟨⟨(hbX.cell (p := ⟨g, o + k * 3, none⟩) (by dsimp only; omega)).trans c1, (hbX.cell (p := ⟨g, o + k * 3 + 1, none⟩) (by dsimp only; omega)).trans c2', (hbX.cell (p := ⟨g, o + k * 3 + 2, none⟩) (by dsimp only; omega)).trans c3⟩, (hbX.cell (p := ⟨gy, os.length * 3 + 1, none⟩) hgy2).trans y1, (hbX.cell (p := ⟨gy, os.length * 3 + 2, none⟩) hgy2).trans y2⟩
          go_wp2_with fail
          refine hK.out _ _ hSX (fun hHeld => ?_)
          clear hK K
          (try simp only [Act.put, List.setIfInBounds_toArray, List.set_cons_zero, List.set_cons_succ])
          refine heldTake (i := 27) (d := some 42) (v := ?_) rfl rfl (by kernel_rfl) (by kernel_rfl) (by kernel_rfl) (fun _ _ _ h => h) (by kernel_rfl) ?hyq_51 (by assumption) ?restq_51
          case hyq_51 => (intro W9 hSw; (try dsimp only at hSw); go_simp; try (with_reducible rfl))
          (try simp only [Act.put, List.setIfInBounds_toArray, List.set_cons_zero, List.set_cons_succ])
          refine wpAnyH_done (by kernel_rfl) ?_ _
          obtain ⟨⟨e1, e2, e3⟩, f1, f2⟩ := hSX
          have HBX := Lib.hid (hB.out.trans (hbX.mono hwr))
          by_cases hya : y.a = pa
          · rw [decide_eq_true hya]
            have HX := Lib.hid (HXX.out.trans (if_pos ⟨hft.symm, hya.symm⟩))
            obtain ⟨gx, cx, Ax, cax, evx, _, _, hgx2, _, _, xf, _, hsetx⟩ := (hO.out.below hbX).last
            cases evx
            have HSX := Lib.hid (hsetx pt)
            have HBZ := Lib.hid (HBX.out.setCell (p := ⟨gy, os.length * 3 + 1, none⟩) hgy (.int .i64 pt))
            clear hsetx
            go_wp2
            go_roundw
            case rel => exact ⟨k + 1, by omega, by go_num, by rw [HT.out, HX.out]; exact HSX, HBZ⟩
            case measure => simp [intOf]; omega
          · rw [decide_eq_false hya]
            have HX := Lib.hid (show joinL (xs ++ [⟨pf, pt, pa⟩]) = (os ++ [y]) ++ [⟨pf, pt, pa⟩] by rw [HXX.out, if_neg (fun q => hya q.2.symm)]; simp)
            skip
            have HO1 := Lib.hid (hO.out.below hbX)
            have HB1 := HBX
            obtain ⟨ls, hls'⟩ : ∃ ls : List Sp, os ++ [y] = ls := ⟨_, rfl⟩
            rw [hls'] at HO1 HX hln
            clear hls' hHeld hft hfd hfb
            have hb1 := hbX
            generalize X = W1 at *
            have hw1 := HB1.out.size
            obtain ⟨d1, d2, d3⟩ : (W1.cell? ⟨g, o + k * 3, none⟩ = some (.int .i64 pf) ∧ W1.cell? ⟨g, o + k * 3 + 1, none⟩ = some (.int .i64 pt) ∧ W1.cell? ⟨g, o + k * 3 + 2, none⟩ = some (.slice pA pa.length pc)) := ⟨(hb1.cell (p := ⟨g, o + k * 3, none⟩) (by dsimp only; omega)).trans c1, (hb1.cell (p := ⟨g, o + k * 3 + 1, none⟩) (by dsimp only; omega)).trans c2', (hb1.cell (p := ⟨g, o + k * 3 + 2, none⟩) (by dsimp only; omega)).trans c3⟩
            have hz1 := hb1.size
            have HSA := Lib.hid (HTWI.out W1.drew (hb1.trans ((Below.refl W1.heap.size W1).drew.mono hz1)))
            clear HTWI
            go_wp2
            refine wp_region_held_drew (S := fun W9 => (W9.cell? ⟨g, o + k * 3, none⟩ = some (.int .i64 pf) ∧ W9.cell? ⟨g, o + k * 3 + 1, none⟩ = some (.int .i64 pt) ∧ W9.cell? ⟨g, o + k * 3 + 2, none⟩ = some (.slice pA pa.length pc))) (by kernel_rfl) (⟨d1, d2, d3⟩) (fun hHeld => ?_)
            refine heldTake (i := 0) (d := some 52) (v := ?_) rfl rfl (by kernel_rfl) (by kernel_rfl) (by kernel_rfl) (fun _ _ _ h => h) (by kernel_rfl) ?hyq_52 (by assumption) ?restq_52
            case hyq_52 => (intro W9 hSw; (try dsimp only at hSw); go_simp; try (with_reducible rfl))
            (try simp only [Act.put, List.setIfInBounds_toArray, List.set_cons_zero, List.set_cons_succ])
            refine heldTake (i := 1) (d := some 53) (v := ?_) rfl rfl (by kernel_rfl) (by kernel_rfl) (by kernel_rfl) (fun _ _ _ h => h) (by kernel_rfl) ?hyq_53 (by assumption) ?restq_53
            case hyq_53 => (intro W9 hSw; (try dsimp only at hSw); go_simp; try (with_reducible rfl))
            (try simp only [Act.put, List.setIfInBounds_toArray, List.set_cons_zero, List.set_cons_succ])
            refine heldTake (i := 2) (d := some 54) (v := ?_) rfl rfl (by kernel_rfl) (by kernel_rfl) (by kernel_rfl) (fun _ _ _ h => h) (by kernel_rfl) ?hyq_54 (by assumption) ?restq_54
            case hyq_54 => (intro W9 hSw; (try dsimp only at hSw); go_simp; try (with_reducible rfl))
            (try simp only [Act.put, List.setIfInBounds_toArray, List.set_cons_zero, List.set_cons_succ])
            refine heldTake (i := 3) (d := some 55) (v := ?_) rfl rfl (by kernel_rfl) (by kernel_rfl) (by kernel_rfl) (fun _ _ _ h => h) (by kernel_rfl) ?hyq_55 (by assumption) ?restq_55
            case hyq_55 => (intro W9 hSw; (try dsimp only at hSw); go_simp; try (with_reducible rfl))
            (try simp only [Act.put, List.setIfInBounds_toArray, List.set_cons_zero, List.set_cons_succ])
            refine heldTake (i := 4) (d := some 56) (v := ?_) rfl rfl (by kernel_rfl) (by kernel_rfl) (by kernel_rfl) (fun _ _ _ h => h) (by kernel_rfl) ?hyq_56 (by assumption) ?restq_56
            case hyq_56 => (intro W9 hSw; (try dsimp only at hSw); go_simp; try (with_reducible rfl))
            (try simp only [Act.put, List.setIfInBounds_toArray, List.set_cons_zero, List.set_cons_succ])
            refine heldTake (i := 5) (d := some 57) (v := ?_) rfl rfl (by kernel_rfl) (by kernel_rfl) (by kernel_rfl) (fun _ _ _ h => h) (by kernel_rfl) ?hyq_57 (by assumption) ?restq_57
            case hyq_57 => (intro W9 hSw; (try dsimp only at hSw); go_simp; try (with_reducible rfl))
            (try simp only [Act.put, List.setIfInBounds_toArray, List.set_cons_zero, List.set_cons_succ])
            refine heldTake (i := 6) (d := some 58) (v := ?_) rfl rfl (by kernel_rfl) (by kernel_rfl) (by kernel_rfl) (fun _ _ _ h => h) (by kernel_rfl) ?hyq_58 (by assumption) ?restq_58
            case hyq_58 => (intro W9 hSw; (try dsimp only at hSw); go_simp; try (with_reducible rfl))
            (try simp only [Act.put, List.setIfInBounds_toArray, List.set_cons_zero, List.set_cons_succ])
            refine heldTake (i := 7) (d := some 59) (v := ?_) rfl rfl (by kernel_rfl) (by kernel_rfl) (by kernel_rfl) (fun _ _ _ h => h) (by kernel_rfl) ?hyq_59 (by assumption) ?restq_59
            case hyq_59 => (intro W9 hSw; (try dsimp only at hSw); go_simp; try (with_reducible rfl))
            (try simp only [Act.put, List.setIfInBounds_toArray, List.set_cons_zero, List.set_cons_succ])
            refine heldTake (i := 8) (d := some 60) (v := ?_) rfl rfl (by kernel_rfl) (by kernel_rfl) (by kernel_rfl) (fun _ _ _ h => h) (by kernel_rfl) ?hyq_60 (by assumption) ?restq_60
            case hyq_60 => (intro W9 hSw; (try dsimp only at hSw); go_simp; try (with_reducible rfl))
            (try simp only [Act.put, List.setIfInBounds_toArray, List.set_cons_zero, List.set_cons_succ])
            refine heldTake (i := 9) (d := some 61) (v := ?_) rfl rfl (by kernel_rfl) (by kernel_rfl) (by kernel_rfl) (fun _ _ _ h => h) (by kernel_rfl) ?hyq_61 (by assumption) ?restq_61
            case hyq_61 => (intro W9 hSw; (try dsimp only at hSw); go_simp; try (with_reducible rfl))
            (try simp only [Act.put, List.setIfInBounds_toArray, List.set_cons_zero, List.set_cons_succ])
            refine heldTake (i := 10) (d := some 62) (v := ?_) rfl rfl (by kernel_rfl) (by kernel_rfl) (by kernel_rfl) (fun _ _ _ h => h) (by kernel_rfl) ?hyq_62 (by assumption) ?restq_62
            case hyq_62 => (intro W9 hSw; (try dsimp only at hSw); go_simp; try (with_reducible rfl))
            (try simp only [Act.put, List.setIfInBounds_toArray, List.set_cons_zero, List.set_cons_succ])
            refine heldTake (i := 11) (d := some 63) (v := ?_) rfl rfl (by kernel_rfl) (by kernel_rfl) (by kernel_rfl) (fun _ _ _ h => h) (by kernel_rfl) ?hyq_63 (by assumption) ?restq_63
            case hyq_63 => (intro W9 hSw; (try dsimp only at hSw); go_simp; try (with_reducible rfl))
            (try simp only [Act.put, List.setIfInBounds_toArray, List.set_cons_zero, List.set_cons_succ])
            refine heldTake (i := 12) (d := some 64) (v := ?_) rfl rfl (by kernel_rfl) (by kernel_rfl) (by kernel_rfl) (fun _ _ _ h => h) (by kernel_rfl) ?hyq_64 (by assumption) ?restq_64
            case hyq_64 => (intro W9 hSw; (try dsimp only at hSw); go_simp; try (with_reducible rfl))
            (try simp only [Act.put, List.setIfInBounds_toArray, List.set_cons_zero, List.set_cons_succ])
            refine heldTake (i := 13) (d := some 65) (v := ?_) rfl rfl (by kernel_rfl) (by kernel_rfl) (by kernel_rfl) (fun _ _ _ h => h) (by kernel_rfl) ?hyq_65 (by assumption) ?restq_65
            case hyq_65 => (intro W9 hSw; (try dsimp only at hSw); go_simp; try (with_reducible rfl))
            (try simp only [Act.put, List.setIfInBounds_toArray, List.set_cons_zero, List.set_cons_succ])
            refine heldTake (i := 14) (d := some 66) (v := ?_) rfl rfl (by kernel_rfl) (by kernel_rfl) (by kernel_rfl) (fun _ _ _ h => h) (by kernel_rfl) ?hyq_66 (by assumption) ?restq_66
            case hyq_66 => (intro W9 hSw; (try dsimp only at hSw); go_simp; try (with_reducible rfl))
            (try simp only [Act.put, List.setIfInBounds_toArray, List.set_cons_zero, List.set_cons_succ])
            refine heldTake (i := 15) (d := some 67) (v := ?_) rfl rfl (by kernel_rfl) (by kernel_rfl) (by kernel_rfl) (fun _ _ _ h => h) (by kernel_rfl) ?hyq_67 (by assumption) ?restq_67
            case hyq_67 => (intro W9 hSw; (try dsimp only at hSw); go_simp; try (with_reducible rfl))
            (try simp only [Act.put, List.setIfInBounds_toArray, List.set_cons_zero, List.set_cons_succ])
            refine wpAnyH_ready (rs := [16]) (by kernel_rfl) (by simp) ?_
            refine AllReadyH.cons rfl (fun K hK => ?_) AllReadyH.nil
            go_simp
            go_at_call 30
            refine HSA.out.mono ?_
            rintro e9 X ⟨vX, rfl, hoX, hbX⟩
            have hbX := below_of_drew hbX
            obtain ⟨AX, cX, eX, _⟩ := hoX.form
            subst eX
            have hzX := hbX.size
            have hSX : (X.cell? ⟨g, o + k * 3, none⟩ = some (.int .i64 pf) ∧ X.cell? ⟨g, o + k * 3 + 1, none⟩ = some (.int .i64 pt) ∧ X.cell? ⟨g, o + k * 3 + 2, none⟩ = some (.slice pA pa.length pc)) := ⟨(hbX.cell (p := ⟨g, o + k * 3, none⟩) (by dsimp only; omega)).trans d1, (hbX.cell (p := ⟨g, o + k * 3 + 1, none⟩) (by dsimp only; omega)).trans d2, (hbX.cell (p := ⟨g, o + k * 3 + 2, none⟩) (by dsimp only; omega)).trans d3⟩
            have HOX := Lib.hid (HO1.out.below hbX)
            have HLX := Lib.hid (hoX.base hw1)
            clear hoX
            go_wp2_with fail
            refine hK.out _ _ hSX (fun hHeld => ?_)
            clear hK K
            (try simp only [Act.put, List.setIfInBounds_toArray, List.set_cons_zero, List.set_cons_succ])
            refine heldTake (i := 17) (d := some 69) (v := ?_) rfl rfl (by kernel_rfl) (by kernel_rfl) (by kernel_rfl) (fun _ _ _ h => h) (by kernel_rfl) ?hyq_68 (by assumption) ?restq_68
            case hyq_68 => (intro W9 hSw; (try dsimp only at hSw); go_simp; try (with_reducible rfl))
            (try simp only [Act.put, List.setIfInBounds_toArray, List.set_cons_zero, List.set_cons_succ])
            refine wpAnyH_ready (rs := [18]) (by kernel_rfl) (by simp) ?_
            refine AllReadyH.cons rfl (fun K hK => ?_) AllReadyH.nil
            have HY := Lib.hid (spAt_new X ⟨pf, pt, pa, AX, cX⟩)
            have hbY := hbX.trans ((below_lnew X (.cells (pK ⟨pf, pt, pa, AX, cX⟩) 46)).mono hzX)
            have HOY := Lib.hid (HOX.out.below (below_lnew X (.cells (pK ⟨pf, pt, pa, AX, cX⟩) 46)))
            have HLY := Lib.hid (HLX.out.below (below_lnew X (.cells (pK ⟨pf, pt, pa, AX, cX⟩) 46)))
            have hzY := hbY.size
            unfold pK at HY hbY HOY HLY hzY
            dsimp only at HY hbY HOY HLY hzY
            go_simp
            obtain ⟨Y, hY⟩ : ∃ Y, X.alloc (.cells #[.int .i64 pf, .int .i64 pt, .slice AX pa.length cX] 46) = Y := ⟨_, rfl⟩
            rw [hY] at HY hbY HOY HLY hzY ⊢
            have hSY : (Y.cell? ⟨g, o + k * 3, none⟩ = some (.int .i64 pf) ∧ Y.cell? ⟨g, o + k * 3 + 1, none⟩ = some (.int .i64 pt) ∧ Y.cell? ⟨g, o + k * 3 + 2, none⟩ = some (.slice pA pa.length pc)) := ⟨(hbY.cell (p := ⟨g, o + k * 3, none⟩) (by dsimp only; omega)).trans d1, (hbY.cell (p := ⟨g, o + k * 3 + 1, none⟩) (by dsimp only; omega)).trans d2, (hbY.cell (p := ⟨g, o + k * 3 + 2, none⟩) (by dsimp only; omega)).trans d3⟩
            refine hK.out _ _ hSY (fun hHeld => ?_)
            clear hY
            clear hK K
            (try simp only [Act.put, List.setIfInBounds_toArray, List.set_cons_zero, List.set_cons_succ])
            refine wpAnyH_ready (rs := [19]) (by kernel_rfl) (by simp) ?_
            refine AllReadyH.cons rfl (fun K hK => ?_) AllReadyH.nil
            rw [if_pos (by kernel_rfl)]
            refine op_app_sp Y (.tmp 52) (.tmp 70) rfl w.heap.size _ ls rfl HOY.out X.heap.size 1 ⟨pf, pt, pa, AX, cX⟩ rfl HY.out HLY.out hln (by omega) ?_
            intro v9 Z hoZ hgZ hkZ
            skip
            have hbZ : Below w.heap.size w Z := (HB1.out.trans (hbY.mono hw1)).grown hgZ (by omega) hkZ
            have hcZ : ∀ p : Addr, p.block < w.heap.size → Z.cell? p = Y.cell? p := fun p hp => World.cell?_of_block (hgZ.block p.block (by omega) (fun e => by have := hkZ _ e.symm; omega))
            have hSZ : (Z.cell? ⟨g, o + k * 3, none⟩ = some (.int .i64 pf) ∧ Z.cell? ⟨g, o + k * 3 + 1, none⟩ = some (.int .i64 pt) ∧ Z.cell? ⟨g, o + k * 3 + 2, none⟩ = some (.slice pA pa.length pc)) := ⟨(hcZ ⟨g, o + k * 3, none⟩ hg).trans hSY.1, (hcZ ⟨g, o + k * 3 + 1, none⟩ hg).trans hSY.2.1, (hcZ ⟨g, o + k * 3 + 2, none⟩ hg).trans hSY.2.2⟩
            refine hK.out _ _ hSZ (fun hHeld => ?_)
            clear hK K
            (try simp only [Act.put, List.setIfInBounds_toArray])
            refine heldTake (i := 20) (d := some 3) (v := ?_) rfl rfl (by kernel_rfl) (by kernel_rfl) (by kernel_rfl) (fun _ _ _ h => h) (by kernel_rfl) ?hyq_69 (by assumption) ?restq_69
            case hyq_69 => (intro W9 hSw; (try dsimp only at hSw); go_simp; try (with_reducible rfl))
            (try simp only [Act.put])
            refine wpAnyH_done (by kernel_rfl) ?_ _
            have HOZ := Lib.hid hoZ
            have HBZ := Lib.hid hbZ
            clear hoZ hbZ
            go_wp2
            go_roundw
            case rel => exact ⟨k + 1, by omega, by go_num, by rw [HT.out, HX.out]; exact HOZ, HBZ⟩
            case measure => simp [intOf]; omega
        · have hfd : decide (y.t = pf) = false := decide_eq_false hft
          have hfb : (y.t == pf) = false := by simpa using hft
          go_wp2
          refine wp_region_held_drew (S := fun W9 => (W9.cell? ⟨g, o + k * 3, none⟩ = some (.int .i64 pf) ∧ W9.cell? ⟨g, o + k * 3 + 1, none⟩ = some (.int .i64 pt) ∧ W9.cell? ⟨g, o + k * 3 + 2, none⟩ = some (.slice pA pa.length pc)) ∧ (W9.cell? ⟨gy, os.length * 3 + 1, none⟩ = some (.int .i64 y.t) ∧ W9.cell? ⟨gy, os.length * 3 + 2, none⟩ = some (.slice Ay y.a.length cy))) (by kernel_rfl) (⟨⟨c1, c2', c3⟩, y1, y2⟩) (fun hHeld => ?_)
          refine heldTake (i := 0) (d := some 15) (v := ?_) rfl rfl (by kernel_rfl) (by kernel_rfl) (by kernel_rfl) (fun _ _ _ h => h) (by kernel_rfl) ?hyq_70 (by assumption) ?restq_70
          case hyq_70 => (intro W9 hSw; (try dsimp only at hSw); go_simp; try (with_reducible rfl))
          (try simp only [Act.put, List.setIfInBounds_toArray, List.set_cons_zero, List.set_cons_succ])
          refine heldTake (i := 1) (d := some 16) (v := ?_) rfl rfl (by kernel_rfl) (by kernel_rfl) (by kernel_rfl) (fun _ _ _ h => h) (by kernel_rfl) ?hyq_71 (by assumption) ?restq_71
          case hyq_71 => (intro W9 hSw; (try dsimp only at hSw); go_simp; try (with_reducible rfl))
          (try simp only [Act.put, List.setIfInBounds_toArray, List.set_cons_zero, List.set_cons_succ])
          refine heldTake (i := 2) (d := some 17) (v := ?_) rfl rfl (by kernel_rfl) (by kernel_rfl) (by kernel_rfl) (fun _ _ _ h => h) (by kernel_rfl) ?hyq_72 (by assumption) ?restq_72
          case hyq_72 => (intro W9 hSw; (try dsimp only at hSw); go_simp; try (with_reducible rfl))
          (try simp only [Act.put, List.setIfInBounds_toArray, List.set_cons_zero, List.set_cons_succ])
          refine heldTake (i := 3) (d := some 18) (v := ?_) rfl rfl (by kernel_rfl) (by kernel_rfl) (by kernel_rfl) (fun _ _ _ h => h) (by kernel_rfl) ?hyq_73 (by assumption) ?restq_73
          case hyq_73 => (intro W9 hSw; (try dsimp only at hSw); go_simp; try (with_reducible rfl))
          (try simp only [Act.put, List.setIfInBounds_toArray, List.set_cons_zero, List.set_cons_succ])
          refine heldTake (i := 4) (d := some 19) (v := ?_) rfl rfl (by kernel_rfl) (by kernel_rfl) (by kernel_rfl) (fun _ _ _ h => h) (by kernel_rfl) ?hyq_74 (by assumption) ?restq_74
          case hyq_74 => (intro W9 hSw; (try dsimp only at hSw); go_simp; try (with_reducible rfl))
          (try simp only [Act.put, List.setIfInBounds_toArray, List.set_cons_zero, List.set_cons_succ])
          refine heldTake (i := 5) (d := some 20) (v := ?_) rfl rfl (by kernel_rfl) (by kernel_rfl) (by kernel_rfl) (fun _ _ _ h => h) (by kernel_rfl) ?hyq_75 (by assumption) ?restq_75
          case hyq_75 => (intro W9 hSw; (try dsimp only at hSw); go_simp; try (with_reducible rfl))
          (try simp only [Act.put, List.setIfInBounds_toArray, List.set_cons_zero, List.set_cons_succ])
          refine heldTake (i := 6) (d := some 21) (v := ?_) rfl rfl (by kernel_rfl) (by kernel_rfl) (by kernel_rfl) (fun _ _ _ h => h) (by kernel_rfl) ?hyq_76 (by assumption) ?restq_76
          case hyq_76 => (intro W9 hSw; (try dsimp only at hSw); go_simp; try (with_reducible rfl))
          (try simp only [Act.put, List.setIfInBounds_toArray, List.set_cons_zero, List.set_cons_succ])
          refine heldTake (i := 7) (d := some 22) (v := ?_) rfl rfl (by kernel_rfl) (by kernel_rfl) (by kernel_rfl) (fun _ _ _ h => h) (by kernel_rfl) ?hyq_77 (by assumption) ?restq_77
          case hyq_77 => (intro W9 hSw; (try dsimp only at hSw); go_simp; try (with_reducible rfl))
          (try simp only [Act.put, List.setIfInBounds_toArray, List.set_cons_zero, List.set_cons_succ])
          refine heldTake (i := 8) (d := some 23) (v := ?_) rfl rfl (by kernel_rfl) (by kernel_rfl) (by kernel_rfl) (fun _ _ _ h => h) (by kernel_rfl) ?hyq_78 (by assumption) ?restq_78
          case hyq_78 => (intro W9 hSw; (try dsimp only at hSw); go_simp; try (with_reducible rfl))
          (try simp only [Act.put, List.setIfInBounds_toArray, List.set_cons_zero, List.set_cons_succ])
          refine heldTake (i := 9) (d := some 24) (v := ?_) rfl rfl (by kernel_rfl) (by kernel_rfl) (by kernel_rfl) (fun _ _ _ h => h) (by kernel_rfl) ?hyq_79 (by assumption) ?restq_79
          case hyq_79 => (intro W9 hSw; (try dsimp only at hSw); go_simp; try (with_reducible rfl))
          (try simp only [Act.put, List.setIfInBounds_toArray, List.set_cons_zero, List.set_cons_succ])
          refine heldTake (i := 10) (d := some 25) (v := ?_) rfl rfl (by kernel_rfl) (by kernel_rfl) (by kernel_rfl) (fun _ _ _ h => h) (by kernel_rfl) ?hyq_80 (by assumption) ?restq_80
          case hyq_80 => (intro W9 hSw; (try dsimp only at hSw); go_simp; try (with_reducible rfl))
          (try simp only [Act.put, List.setIfInBounds_toArray, List.set_cons_zero, List.set_cons_succ])
          refine heldTake (i := 11) (d := some 26) (v := ?_) rfl rfl (by kernel_rfl) (by kernel_rfl) (by kernel_rfl) (fun _ _ _ h => h) (by kernel_rfl) ?hyq_81 (by assumption) ?restq_81
          case hyq_81 => (intro W9 hSw; (try dsimp only at hSw); go_simp; try (with_reducible rfl))
          (try simp only [Act.put, List.setIfInBounds_toArray, List.set_cons_zero, List.set_cons_succ])
          refine heldTake (i := 12) (d := some 27) (v := ?_) rfl rfl (by kernel_rfl) (by kernel_rfl) (by kernel_rfl) (fun _ _ _ h => h) (by kernel_rfl) ?hyq_82 (by assumption) ?restq_82
          case hyq_82 => (intro W9 hSw; (try dsimp only at hSw); go_simp; try (with_reducible rfl))
          (try simp only [Act.put, List.setIfInBounds_toArray, List.set_cons_zero, List.set_cons_succ])
          refine heldTake (i := 13) (d := some 28) (v := ?_) rfl rfl (by kernel_rfl) (by kernel_rfl) (by kernel_rfl) (fun _ _ _ h => h) (by kernel_rfl) ?hyq_83 (by assumption) ?restq_83
          case hyq_83 => (intro W9 hSw; (try dsimp only at hSw); go_simp; try (with_reducible rfl))
          (try simp only [Act.put, List.setIfInBounds_toArray, List.set_cons_zero, List.set_cons_succ])
          refine heldTake (i := 14) (d := some 29) (v := ?_) rfl rfl (by kernel_rfl) (by kernel_rfl) (by kernel_rfl) (fun _ _ _ h => h) (by kernel_rfl) ?hyq_84 (by assumption) ?restq_84
          case hyq_84 => (intro W9 hSw; (try dsimp only at hSw); go_simp; try (with_reducible rfl))
          (try simp only [Act.put, List.setIfInBounds_toArray, List.set_cons_zero, List.set_cons_succ])
          refine heldTake (i := 15) (d := some 30) (v := ?_) rfl rfl (by kernel_rfl) (by kernel_rfl) (by kernel_rfl) (fun _ _ _ h => h) (by kernel_rfl) ?hyq_85 (by assumption) ?restq_85
          case hyq_85 => (intro W9 hSw; (try dsimp only at hSw); go_simp; try (with_reducible rfl))
          (try simp only [Act.put, List.setIfInBounds_toArray, List.set_cons_zero, List.set_cons_succ])
          refine heldSkip (i := 16) (d := some 31) rfl rfl (by kernel_rfl) (by kernel_rfl) (by kernel_rfl) (fun _ _ _ h => h) (by kernel_rfl) (by assumption) ?_
          (try simp only [Act.put, List.setIfInBounds_toArray, List.set_cons_zero, List.set_cons_succ])
          refine heldSkip (i := 17) (d := some 32) rfl rfl (by kernel_rfl) (by kernel_rfl) (by kernel_rfl) (fun _ _ _ h => h) (by kernel_rfl) (by assumption) ?_
          (try simp only [Act.put, List.setIfInBounds_toArray, List.set_cons_zero, List.set_cons_succ])
          refine heldSkip (i := 18) (d := some 33) rfl rfl (by kernel_rfl) (by kernel_rfl) (by kernel_rfl) (fun _ _ _ h => h) (by kernel_rfl) (by assumption) ?_
          (try simp only [Act.put, List.setIfInBounds_toArray, List.set_cons_zero, List.set_cons_succ])
          refine heldSkip (i := 19) (d := some 34) rfl rfl (by kernel_rfl) (by kernel_rfl) (by kernel_rfl) (fun _ _ _ h => h) (by kernel_rfl) (by assumption) ?_
          (try simp only [Act.put, List.setIfInBounds_toArray, List.set_cons_zero, List.set_cons_succ])
          refine heldSkip (i := 20) (d := some 35) rfl rfl (by kernel_rfl) (by kernel_rfl) (by kernel_rfl) (fun _ _ _ h => h) (by kernel_rfl) (by assumption) ?_
          (try simp only [Act.put, List.setIfInBounds_toArray, List.set_cons_zero, List.set_cons_succ])
          refine heldSkip (i := 21) (d := some 36) rfl rfl (by kernel_rfl) (by kernel_rfl) (by kernel_rfl) (fun _ _ _ h => h) (by kernel_rfl) (by assumption) ?_
          (try simp only [Act.put, List.setIfInBounds_toArray, List.set_cons_zero, List.set_cons_succ])
          refine heldSkip (i := 22) (d := some 37) rfl rfl (by kernel_rfl) (by kernel_rfl) (by kernel_rfl) (fun _ _ _ h => h) (by kernel_rfl) (by assumption) ?_
          (try simp only [Act.put, List.setIfInBounds_toArray, List.set_cons_zero, List.set_cons_succ])
          refine heldSkip (i := 23) (d := some 38) rfl rfl (by kernel_rfl) (by kernel_rfl) (by kernel_rfl) (fun _ _ _ h => h) (by kernel_rfl) (by assumption) ?_
          (try simp only [Act.put, List.setIfInBounds_toArray, List.set_cons_zero, List.set_cons_succ])
          refine heldSkip (i := 24) (d := some 39) rfl rfl (by kernel_rfl) (by kernel_rfl) (by kernel_rfl) (fun _ _ _ h => h) (by kernel_rfl) (by assumption) ?_
          (try simp only [Act.put, List.setIfInBounds_toArray, List.set_cons_zero, List.set_cons_succ])
          refine heldSkip (i := 25) (d := some 40) rfl rfl (by kernel_rfl) (by kernel_rfl) (by kernel_rfl) (fun _ _ _ h => h) (by kernel_rfl) (by assumption) ?_
          (try simp only [Act.put, List.setIfInBounds_toArray, List.set_cons_zero, List.set_cons_succ])
          refine heldSkip (i := 26) (d := some 41) rfl rfl (by kernel_rfl) (by kernel_rfl) (by kernel_rfl) (fun _ _ _ h => h) (by kernel_rfl) (by assumption) ?_
          (try simp only [Act.put, List.setIfInBounds_toArray, List.set_cons_zero, List.set_cons_succ])
          refine heldTake (i := 27) (d := some 42) (v := ?_) rfl rfl (by kernel_rfl) (by kernel_rfl) (by kernel_rfl) (fun _ _ _ h => h) (by kernel_rfl) ?hyq_86 (by assumption) ?restq_86
          case hyq_86 => (intro W9 hSw; (try dsimp only at hSw); go_simp; try (with_reducible rfl))
          (try simp only [Act.put, List.setIfInBounds_toArray, List.set_cons_zero, List.set_cons_succ])
          refine wpAnyH_done (by kernel_rfl) ?_ _
          have HX := Lib.hid (show joinL (xs ++ [⟨pf, pt, pa⟩]) = (os ++ [y]) ++ [⟨pf, pt, pa⟩] by rw [HXX.out, if_neg (fun q => hft q.1.symm)]; simp)
          obtain ⟨ls, hls'⟩ : ∃ ls : List Sp, os ++ [y] = ls := ⟨_, rfl⟩
          rw [hls'] at hO HX hln
          clear hls' hHeld hfd hfb
          have hb1 := (Below.refl wr.heap.size wr).drew
          have HO1 := Lib.hid (hO.out.below hb1)
          have HB1 := Lib.hid (hB.out.trans (hb1.mono hwr))
          obtain ⟨W1, hW1⟩ : ∃ W, wr.drew = W := ⟨_, rfl⟩
          rw [hW1] at hb1 HO1 HB1 ⊢
          clear hW1
          have hw1 := HB1.out.size
          obtain ⟨d1, d2, d3⟩ : (W1.cell? ⟨g, o + k * 3, none⟩ = some (.int .i64 pf) ∧ W1.cell? ⟨g, o + k * 3 + 1, none⟩ = some (.int .i64 pt) ∧ W1.cell? ⟨g, o + k * 3 + 2, none⟩ = some (.slice pA pa.length pc)) := ⟨(hb1.cell (p := ⟨g, o + k * 3, none⟩) (by dsimp only; omega)).trans c1, (hb1.cell (p := ⟨g, o + k * 3 + 1, none⟩) (by dsimp only; omega)).trans c2', (hb1.cell (p := ⟨g, o + k * 3 + 2, none⟩) (by dsimp only; omega)).trans c3⟩
          have hz1 := hb1.size
          have HSA := Lib.hid (HTWI.out W1.drew (hb1.trans ((Below.refl W1.heap.size W1).drew.mono hz1)))
          clear HTWI
          go_wp2
          refine wp_region_held_drew (S := fun W9 => (W9.cell? ⟨g, o + k * 3, none⟩ = some (.int .i64 pf) ∧ W9.cell? ⟨g, o + k * 3 + 1, none⟩ = some (.int .i64 pt) ∧ W9.cell? ⟨g, o + k * 3 + 2, none⟩ = some (.slice pA pa.length pc))) (by kernel_rfl) (⟨d1, d2, d3⟩) (fun hHeld => ?_)
          refine heldTake (i := 0) (d := some 52) (v := ?_) rfl rfl (by kernel_rfl) (by kernel_rfl) (by kernel_rfl) (fun _ _ _ h => h) (by kernel_rfl) ?hyq_87 (by assumption) ?restq_87
          case hyq_87 => (intro W9 hSw; (try dsimp only at hSw); go_simp; try (with_reducible rfl))
          (try simp only [Act.put, List.setIfInBounds_toArray, List.set_cons_zero, List.set_cons_succ])
          refine heldTake (i := 1) (d := some 53) (v := ?_) rfl rfl (by kernel_rfl) (by kernel_rfl) (by kernel_rfl) (fun _ _ _ h => h) (by kernel_rfl) ?hyq_88 (by assumption) ?restq_88
          case hyq_88 => (intro W9 hSw; (try dsimp only at hSw); go_simp; try (with_reducible rfl))
          (try simp only [Act.put, List.setIfInBounds_toArray, List.set_cons_zero, List.set_cons_succ])
          refine heldTake (i := 2) (d := some 54) (v := ?_) rfl rfl (by kernel_rfl) (by kernel_rfl) (by kernel_rfl) (fun _ _ _ h => h) (by kernel_rfl) ?hyq_89 (by assumption) ?restq_89
          case hyq_89 => (intro W9 hSw; (try dsimp only at hSw); go_simp; try (with_reducible rfl))
          (try simp only [Act.put, List.setIfInBounds_toArray, List.set_cons_zero, List.set_cons_succ])
          refine heldTake (i := 3) (d := some 55) (v := ?_) rfl rfl (by kernel_rfl) (by kernel_rfl) (by kernel_rfl) (fun _ _ _ h => h) (by kernel_rfl) ?hyq_90 (by assumption) ?restq_90
          case hyq_90 => (intro W9 hSw; (try dsimp only at hSw); go_simp; try (with_reducible rfl))
          (try simp only [Act.put, List.setIfInBounds_toArray, List.set_cons_zero, List.set_cons_succ])
          refine heldTake (i := 4) (d := some 56) (v := ?_) rfl rfl (by kernel_rfl) (by kernel_rfl) (by kernel_rfl) (fun _ _ _ h => h) (by kernel_rfl) ?hyq_91 (by assumption) ?restq_91
          case hyq_91 => (intro W9 hSw; (try dsimp only at hSw); go_simp; try (with_reducible rfl))
          (try simp only [Act.put, List.setIfInBounds_toArray, List.set_cons_zero, List.set_cons_succ])
          refine heldTake (i := 5) (d := some 57) (v := ?_) rfl rfl (by kernel_rfl) (by kernel_rfl) (by kernel_rfl) (fun _ _ _ h => h) (by kernel_rfl) ?hyq_92 (by assumption) ?restq_92
          case hyq_92 => (intro W9 hSw; (try dsimp only at hSw); go_simp; try (with_reducible rfl))
          (try simp only [Act.put, List.setIfInBounds_toArray, List.set_cons_zero, List.set_cons_succ])
          refine heldTake (i := 6) (d := some 58) (v := ?_) rfl rfl (by kernel_rfl) (by kernel_rfl) (by kernel_rfl) (fun _ _ _ h => h) (by kernel_rfl) ?hyq_93 (by assumption) ?restq_93
          case hyq_93 => (intro W9 hSw; (try dsimp only at hSw); go_simp; try (with_reducible rfl))
          (try simp only [Act.put, List.setIfInBounds_toArray, List.set_cons_zero, List.set_cons_succ])
          refine heldTake (i := 7) (d := some 59) (v := ?_) rfl rfl (by kernel_rfl) (by kernel_rfl) (by kernel_rfl) (fun _ _ _ h => h) (by kernel_rfl) ?hyq_94 (by assumption) ?restq_94
          case hyq_94 => (intro W9 hSw; (try dsimp only at hSw); go_simp; try (with_reducible rfl))
          (try simp only [Act.put, List.setIfInBounds_toArray, List.set_cons_zero, List.set_cons_succ])
          refine heldTake (i := 8) (d := some 60) (v := ?_) rfl rfl (by kernel_rfl) (by kernel_rfl) (by kernel_rfl) (fun _ _ _ h => h) (by kernel_rfl) ?hyq_95 (by assumption) ?restq_95
          case hyq_95 => (intro W9 hSw; (try dsimp only at hSw); go_simp; try (with_reducible rfl))
          (try simp only [Act.put, List.setIfInBounds_toArray, List.set_cons_zero, List.set_cons_succ])
          refine heldTake (i := 9) (d := some 61) (v := ?_) rfl rfl (by kernel_rfl) (by kernel_rfl) (by kernel_rfl) (fun _ _ _ h => h) (by kernel_rfl) ?hyq_96 (by assumption) ?restq_96
          case hyq_96 => (intro W9 hSw; (try dsimp only at hSw); go_simp; try (with_reducible rfl))
          (try simp only [Act.put, List.setIfInBounds_toArray, List.set_cons_zero, List.set_cons_succ])
          refine heldTake (i := 10) (d := some 62) (v := ?_) rfl rfl (by kernel_rfl) (by kernel_rfl) (by kernel_rfl) (fun _ _ _ h => h) (by kernel_rfl) ?hyq_97 (by assumption) ?restq_97
          case hyq_97 => (intro W9 hSw; (try dsimp only at hSw); go_simp; try (with_reducible rfl))
          (try simp only [Act.put, List.setIfInBounds_toArray, List.set_cons_zero, List.set_cons_succ])
          refine heldTake (i := 11) (d := some 63) (v := ?_) rfl rfl (by kernel_rfl) (by kernel_rfl) (by kernel_rfl) (fun _ _ _ h => h) (by kernel_rfl) ?hyq_98 (by assumption) ?restq_98
          case hyq_98 => (intro W9 hSw; (try dsimp only at hSw); go_simp; try (with_reducible rfl))
          (try simp only [Act.put, List.setIfInBounds_toArray, List.set_cons_zero, List.set_cons_succ])
          refine heldTake (i := 12) (d := some 64) (v := ?_) rfl rfl (by kernel_rfl) (by kernel_rfl) (by kernel_rfl) (fun _ _ _ h => h) (by kernel_rfl) ?hyq_99 (by assumption) ?restq_99
          case hyq_99 => (intro W9 hSw; (try dsimp only at hSw); go_simp; try (with_reducible rfl))
          (try simp only [Act.put, List.setIfInBounds_toArray, List.set_cons_zero, List.set_cons_succ])
          refine heldTake (i := 13) (d := some 65) (v := ?_) rfl rfl (by kernel_rfl) (by kernel_rfl) (by kernel_rfl) (fun _ _ _ h => h) (by kernel_rfl) ?hyq_100 (by assumption) ?restq_100
          case hyq_100 => (intro W9 hSw; (try dsimp only at hSw); go_simp; try (with_reducible rfl))
          (try simp only [Act.put, List.setIfInBounds_toArray, List.set_cons_zero, List.set_cons_succ])
          refine heldTake (i := 14) (d := some 66) (v := ?_) rfl rfl (by kernel_rfl) (by kernel_rfl) (by kernel_rfl) (fun _ _ _ h => h) (by kernel_rfl) ?hyq_101 (by assumption) ?restq_101
          case hyq_101 => (intro W9 hSw; (try dsimp only at hSw); go_simp; try (with_reducible rfl))
          (try simp only [Act.put, List.setIfInBounds_toArray, List.set_cons_zero, List.set_cons_succ])
          refine heldTake (i := 15) (d := some 67) (v := ?_) rfl rfl (by kernel_rfl) (by kernel_rfl) (by kernel_rfl) (fun _ _ _ h => h) (by kernel_rfl) ?hyq_102 (by assumption) ?restq_102
          case hyq_102 => (intro W9 hSw; (try dsimp only at hSw); go_simp; try (with_reducible rfl))
          (try simp only [Act.put, List.setIfInBounds_toArray, List.set_cons_zero, List.set_cons_succ])
          refine wpAnyH_ready (rs := [16]) (by kernel_rfl) (by simp) ?_
          refine AllReadyH.cons rfl (fun K hK => ?_) AllReadyH.nil
          go_simp
          go_at_call 30
          refine HSA.out.mono ?_
          rintro e9 X ⟨vX, rfl, hoX, hbX⟩
          have hbX := below_of_drew hbX
          obtain ⟨AX, cX, eX, _⟩ := hoX.form
          subst eX
          have hzX := hbX.size
          have hSX : (X.cell? ⟨g, o + k * 3, none⟩ = some (.int .i64 pf) ∧ X.cell? ⟨g, o + k * 3 + 1, none⟩ = some (.int .i64 pt) ∧ X.cell? ⟨g, o + k * 3 + 2, none⟩ = some (.slice pA pa.length pc)) := ⟨(hbX.cell (p := ⟨g, o + k * 3, none⟩) (by dsimp only; omega)).trans d1, (hbX.cell (p := ⟨g, o + k * 3 + 1, none⟩) (by dsimp only; omega)).trans d2, (hbX.cell (p := ⟨g, o + k * 3 + 2, none⟩) (by dsimp only; omega)).trans d3⟩
          have HOX := Lib.hid (HO1.out.below hbX)
          have HLX := Lib.hid (hoX.base hw1)
          clear hoX
          go_wp2_with fail
          refine hK.out _ _ hSX (fun hHeld => ?_)
          clear hK K
          (try simp only [Act.put, List.setIfInBounds_toArray, List.set_cons_zero, List.set_cons_succ])
          refine heldTake (i := 17) (d := some 69) (v := ?_) rfl rfl (by kernel_rfl) (by kernel_rfl) (by kernel_rfl) (fun _ _ _ h => h) (by kernel_rfl) ?hyq_103 (by assumption) ?restq_103
          case hyq_103 => (intro W9 hSw; (try dsimp only at hSw); go_simp; try (with_reducible rfl))
          (try simp only [Act.put, List.setIfInBounds_toArray, List.set_cons_zero, List.set_cons_succ])
          refine wpAnyH_ready (rs := [18]) (by kernel_rfl) (by simp) ?_
          refine AllReadyH.cons rfl (fun K hK => ?_) AllReadyH.nil
          have HY := Lib.hid (spAt_new X ⟨pf, pt, pa, AX, cX⟩)
          have hbY := hbX.trans ((below_lnew X (.cells (pK ⟨pf, pt, pa, AX, cX⟩) 46)).mono hzX)
          have HOY := Lib.hid (HOX.out.below (below_lnew X (.cells (pK ⟨pf, pt, pa, AX, cX⟩) 46)))
          have HLY := Lib.hid (HLX.out.below (below_lnew X (.cells (pK ⟨pf, pt, pa, AX, cX⟩) 46)))
          have hzY := hbY.size
          unfold pK at HY hbY HOY HLY hzY
          dsimp only at HY hbY HOY HLY hzY
          go_simp
          obtain ⟨Y, hY⟩ : ∃ Y, X.alloc (.cells #[.int .i64 pf, .int .i64 pt, .slice AX pa.length cX] 46) = Y := ⟨_, rfl⟩
          rw [hY] at HY hbY HOY HLY hzY ⊢
          have hSY : (Y.cell? ⟨g, o + k * 3, none⟩ = some (.int .i64 pf) ∧ Y.cell? ⟨g, o + k * 3 + 1, none⟩ = some (.int .i64 pt) ∧ Y.cell? ⟨g, o + k * 3 + 2, none⟩ = some (.slice pA pa.length pc)) := ⟨(hbY.cell (p := ⟨g, o + k * 3, none⟩) (by dsimp only; omega)).trans d1, (hbY.cell (p := ⟨g, o + k * 3 + 1, none⟩) (by dsimp only; omega)).trans d2, (hbY.cell (p := ⟨g, o + k * 3 + 2, none⟩) (by dsimp only; omega)).trans d3⟩
          refine hK.out _ _ hSY (fun hHeld => ?_)
          clear hY
          clear hK K
          (try simp only [Act.put, List.setIfInBounds_toArray, List.set_cons_zero, List.set_cons_succ])
          refine wpAnyH_ready (rs := [19]) (by kernel_rfl) (by simp) ?_
          refine AllReadyH.cons rfl (fun K hK => ?_) AllReadyH.nil
          rw [if_pos (by kernel_rfl)]
          refine op_app_sp Y (.tmp 52) (.tmp 70) rfl w.heap.size _ ls rfl HOY.out X.heap.size 1 ⟨pf, pt, pa, AX, cX⟩ rfl HY.out HLY.out hln (by omega) ?_
          intro v9 Z hoZ hgZ hkZ
          skip
          have hbZ : Below w.heap.size w Z := (HB1.out.trans (hbY.mono hw1)).grown hgZ (by omega) hkZ
          have hcZ : ∀ p : Addr, p.block < w.heap.size → Z.cell? p = Y.cell? p := fun p hp => World.cell?_of_block (hgZ.block p.block (by omega) (fun e => by have := hkZ _ e.symm; omega))
          have hSZ : (Z.cell? ⟨g, o + k * 3, none⟩ = some (.int .i64 pf) ∧ Z.cell? ⟨g, o + k * 3 + 1, none⟩ = some (.int .i64 pt) ∧ Z.cell? ⟨g, o + k * 3 + 2, none⟩ = some (.slice pA pa.length pc)) := ⟨(hcZ ⟨g, o + k * 3, none⟩ hg).trans hSY.1, (hcZ ⟨g, o + k * 3 + 1, none⟩ hg).trans hSY.2.1, (hcZ ⟨g, o + k * 3 + 2, none⟩ hg).trans hSY.2.2⟩
          refine hK.out _ _ hSZ (fun hHeld => ?_)
          clear hK K
          (try simp only [Act.put, List.setIfInBounds_toArray])
          refine heldTake (i := 20) (d := some 3) (v := ?_) rfl rfl (by kernel_rfl) (by kernel_rfl) (by kernel_rfl) (fun _ _ _ h => h) (by kernel_rfl) ?hyq_104 (by assumption) ?restq_104
          case hyq_104 => (intro W9 hSw; (try dsimp only at hSw); go_simp; try (with_reducible rfl))
          (try simp only [Act.put])
          refine wpAnyH_done (by kernel_rfl) ?_ _
          have HOZ := Lib.hid hoZ
          have HBZ := Lib.hid hbZ
          clear hoZ hbZ
          go_wp2
          go_roundw
          case rel => exact ⟨k + 1, by omega, by go_num, by rw [HT.out, HX.out]; exact HOZ, HBZ⟩
          case measure => simp [intOf]; omega
    · obtain rfl : k = ps.length := by omega
      rw [List.take_length] at hO
      go_wp2
      go_ret
      exact ⟨_, rfl, hO.out, hB.out⟩
end Go.Proofs.Ytggofdahnbchjaa
