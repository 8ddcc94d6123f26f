/-
  Merged for a claim: T9E.
-/
import Derived.BigQuiet
import Derived.Test.YtjagjkogloggpaaGreatHJ22
import Derived.Test.YtjagjkogloggpaaGreatHT9D
namespace Go.Proofs.YtjagjkogloggpaaGreat
open Go Go.RowKit

theorem spsT_info : (Tryz.prog.info? 57).map (fun i => (i.zero, i.size, i.bytes)) = some (some (.slice none 0 0), 1, 24) := by kernel_rfl
def pvS (p : Pp) : Value := .slice p.vA p.vs.length p.vc
def psS (p : Pp) : Value := .slice p.sA p.ss.length p.sc
/-- a place with lists of its own -/
structure PW (w : World) (B : Nat) (p : Pp) : Prop where
  v : eV.Own w B (pvS p) p.vs
  vt : ∀ x ∈ p.vs, VT w x
  s : eR.Own w B (psS p) p.ss
  st : ∀ y ∈ p.ss, RT w y
def bP (p q : Pp) : Prop := (∀ k k2, (pvS p).ownBlock = some k → (pvS q).ownBlock = some k2 → k < k2) ∧ ∀ k k2, (psS p).ownBlock = some k → (psS q).ownBlock = some k2 → k < k2
/-- places of the call's own, each with lists of its own, in blocks that rise -/
def MP (w : World) (B N : Nat) (v : Value) (l : List Plc) : Prop :=
  ∃ ps : List Pp, ps.map Pp.d = l ∧ eL.Own w B v ps ∧ (∀ p ∈ ps, PW w B p ∧ (∀ k, (pvS p).ownBlock = some k → k < N) ∧ ∀ k, (psS p).ownBlock = some k → k < N) ∧ ps.Pairwise bP
section
variable {w w' : World} {B B' N N' : Nat} {v : Value} {l : List Plc} {T : TypeId} {p : Pp}
theorem PW.but (h : PW w B p) (hb : ButT T w w') (h1 : (9 : TypeId) ≠ T) (h2 : (56 : TypeId) ≠ T) (h3 : (53 : TypeId) ≠ T) (h4 : (65 : TypeId) ≠ T) (h5 : (57 : TypeId) ≠ T) : PW w' B p :=
  ⟨h.v.but hb h4, fun x hx => (h.vt x hx).but hb h1, h.s.but hb h5, fun x hx => (h.st x hx).but hb h2 h3⟩
theorem PW.below (h : PW w B p) (hb : Below w.heap.size w w') : PW w' B p := h.but (T := 51) (.below hb) (by decide) (by decide) (by decide) (by decide) (by decide)
theorem PW.base (h : PW w B p) (hB : B' ≤ B) : PW w B' p := ⟨h.v.base hB, h.vt, h.s.base hB, h.st⟩
theorem PW.pl (h : PW w B p) : PL w w.heap.size p := by
  obtain ⟨A1, c1, e1, k1, k2, k3⟩ := h.v.form
  obtain ⟨A2, c2, e2, j1, j2, j3⟩ := h.s.form
  unfold pvS at e1
  unfold psS at e2
  injection e1 with p1 _ p3
  injection e2 with q1 _ q3
  subst p1 p3 q1 q3
  exact ⟨k3.lies, fun x hx => (h.vt x hx).vl, ⟨k1, k2⟩, j3.lies, fun x hx => (h.st x hx).rl, ⟨j1, j2⟩⟩
theorem MP.nil (w : World) (B N : Nat) : MP w B N (.slice none 0 0) [] := ⟨[], rfl, El.Own.nil _ _, fun p hp => absurd hp (by simp), List.Pairwise.nil⟩
theorem MP.up (h : MP w B N v l) (hN : N ≤ N') : MP w B N' v l := by
  obtain ⟨ps, e, ho, hm, hp⟩ := h
  exact ⟨ps, e, ho, fun p hp => ⟨(hm p hp).1, fun k e => Nat.lt_of_lt_of_le ((hm p hp).2.1 k e) hN, fun k e => Nat.lt_of_lt_of_le ((hm p hp).2.2 k e) hN⟩, hp⟩
theorem MP.below (h : MP w B N v l) (hb : Below w.heap.size w w') : MP w' B N v l := by
  obtain ⟨ps, e, ho, hm, hp⟩ := h
  exact ⟨ps, e, ho.below hb, fun p hp => ⟨(hm p hp).1.below hb, (hm p hp).2⟩, hp⟩
theorem MP.tl (h : MP w B N v l) : ∃ A c ps, v = .slice A ps.length c ∧ ps.map Pp.d = l ∧ ps.length ≤ c ∧ (A = none → c = 0) ∧ TL w w.heap.size A ps := by
  obtain ⟨ps, e, ho, hm, hp⟩ := h
  obtain ⟨A, c, e1, h1, h2, h3⟩ := ho.form
  exact ⟨A, c, ps, e1, e, h1, h2, h3.lies, fun p hp => (hm p hp).1.pl⟩
end
section
variable {o : Oper} {a : Act} {ops : Array Oper} {rest : List Oper} {Q : Exit → Act → World → Prop}
theorem app_mp (w : World) (hgd : o.guard = none) (s x : Operand) (ho : o.op = .call { callee := .builtin .append, args := #[s, x], argTypes := #[25, 25] })
    (B N : Nat) (v : Value) (l : List Plc) (hs : a.eval s = v) (hown : MP w B N v l) (g c : Nat) (y : Pp) (hx : a.eval x = .slice (some ⟨g, 0, none⟩) 1 c) (hy : CAt w g 51 (lK y).toList) (hly : PW w N y)
    (hn : l.length ≤ 1000000) (hB : B ≤ w.heap.size) (hN : B ≤ N) (h : ∀ v' w', MP w' B w'.heap.size v' (l ++ [y.d]) → w.grownBy w' v.ownBlock → (∀ k, v.ownBlock = some k → B ≤ k) → wpList Tryz.prog ops Q rest (a.put o.dst v') w') : wpList Tryz.prog ops Q (o :: rest) a w := by
  obtain ⟨ps, e, hpo, hpm, hpp⟩ := hown
  refine El.app1 eL w hgd 25 _ _ Tryz.underlying25 place_info rfl (by decide) (by decide) s x ho B v ps hs hpo g c y hx 51 hy (by rw [← List.length_map (f := Pp.d), e]; exact hn) hB fun v' w' h1 h2 => h v' w' ?_ h2 (fun k e => (hpo.lt k e).1)
  have hb : ButT 51 w w' := ButT.grown h2 fun k e => hpo.has k e
  have key : ∀ p : Pp, ∀ B, PW w B p → PW w' B p ∧ (∀ k, (pvS p).ownBlock = some k → k < w'.heap.size) ∧ ∀ k, (psS p).ownBlock = some k → k < w'.heap.size := fun p B hp =>
    ⟨hp.but hb (by decide) (by decide) (by decide) (by decide) (by decide), fun k e => Nat.lt_of_lt_of_le (hp.v.lt k e).2.1 h2.size, fun k e => Nat.lt_of_lt_of_le (hp.s.lt k e).2.1 h2.size⟩
  refine ⟨ps ++ [y], by rw [List.map_append, e]; rfl, h1, fun p hp => ?_, List.pairwise_append.2 ⟨hpp, List.pairwise_singleton _ _, fun p hp q hq => ?_⟩⟩
  · rcases List.mem_append.1 hp with hp | hp
    · exact key p B (hpm p hp).1
    · rw [List.mem_singleton] at hp
      subst hp
      exact key p B (hly.base hN)
  · rw [List.mem_singleton] at hq
    subst hq
    exact ⟨fun k k2 e1 e2 => Nat.lt_of_lt_of_le ((hpm p hp).2.1 k e1) (hly.v.lt k2 e2).1, fun k k2 e1 e2 => Nat.lt_of_lt_of_le ((hpm p hp).2.2 k e1) (hly.s.lt k2 e2).1⟩
end
/-- a place in the making -/
structure PlM (w0 : World) (gx : Nat) (nm : List UInt8) (fr tt : Int) (xs : List Pv) (v : Value) (ys : List Rs) (s : Value) (W : World) : Prop where
  p : CAt W gx 51 [.string (str nm), .int .i64 fr, .int .i64 tt, v, s]
  v : eV.Own W gx v xs
  vt : ∀ x ∈ xs, VT W x
  s : eR.Own W gx s ys
  st : ∀ y ∈ ys, RT W y
  b : Below gx w0 W
  n : w0.heap.size = gx
section
variable {w0 W Z : World} {gx : Nat} {nm : List UInt8} {fr tt : Int} {xs : List Pv} {v : Value} {ys : List Rs} {s : Value}
theorem PlM.below (h : PlM w0 gx nm fr tt xs v ys s W) (hb : Below W.heap.size W Z) : PlM w0 gx nm fr tt xs v ys s Z :=
  ⟨h.p.below hb h.p.lt, h.v.below hb, fun x hx => (h.vt x hx).below hb, h.s.below hb, fun x hx => (h.st x hx).below hb, h.b.trans (hb.mono (Nat.le_of_lt h.p.lt)), h.n⟩
theorem PlM.addV (h : PlM w0 gx nm fr tt xs v ys s W) {x : Pv} {v9 : Value} (hx : VT W x) (hg : W.grownBy Z v.ownBlock) (ho : eV.Own Z gx v9 (xs ++ [x])) : PlM w0 gx nm fr tt (xs ++ [x]) v9 ys s (Z.setCell ⟨gx, 3, none⟩ v9) := by
  have hb : ButT 65 W Z := ButT.grown hg (fun q e => h.v.has q e)
  have hp : CAt Z gx 51 [.string (str nm), .int .i64 fr, .int .i64 tt, v, s] := (hb gx _ ⟨_, _, h.p⟩ (by decide)).trans h.p
  have hs : ButT 51 Z (Z.setCell ⟨gx, 3, none⟩ v9) := ButT.set (p := ⟨gx, 3, none⟩) ⟨_, _, hp⟩ v9
  refine ⟨hp.set 3 v9, ho.but hs (by decide), fun y hy => ?_, (h.s.but hb (by decide)).but hs (by decide), fun y hy => ((h.st y hy).but hb (by decide) (by decide)).but hs (by decide) (by decide), (h.b.grown hg (Nat.le_of_lt h.p.lt) (fun k e => (h.v.lt k e).1)).setCell (p := ⟨gx, 3, none⟩) (Nat.le_refl _) v9, h.n⟩
  rcases List.mem_append.1 hy with hy | hy
  · exact ((h.vt y hy).but hb (by decide)).but hs (by decide)
  · rw [List.mem_singleton.1 hy]
    exact (hx.but hb (by decide)).but hs (by decide)
theorem PlM.addS (h : PlM w0 gx nm fr tt xs v ys s W) {y : Rs} {v9 : Value} (hx : RT W y) (hg : W.grownBy Z s.ownBlock) (ho : eR.Own Z gx v9 (ys ++ [y])) : PlM w0 gx nm fr tt xs v (ys ++ [y]) v9 (Z.setCell ⟨gx, 4, none⟩ v9) := by
  have hb : ButT 57 W Z := ButT.grown hg (fun q e => h.s.has q e)
  have hp : CAt Z gx 51 [.string (str nm), .int .i64 fr, .int .i64 tt, v, s] := (hb gx _ ⟨_, _, h.p⟩ (by decide)).trans h.p
  have hs : ButT 51 Z (Z.setCell ⟨gx, 4, none⟩ v9) := ButT.set (p := ⟨gx, 4, none⟩) ⟨_, _, hp⟩ v9
  refine ⟨hp.set 4 v9, (h.v.but hb (by decide)).but hs (by decide), fun y hy => ((h.vt y hy).but hb (by decide)).but hs (by decide), ho.but hs (by decide), fun y hy => ?_, (h.b.grown hg (Nat.le_of_lt h.p.lt) (fun k e => (h.s.lt k e).1)).setCell (p := ⟨gx, 4, none⟩) (Nat.le_refl _) v9, h.n⟩
  rcases List.mem_append.1 hy with hy | hy
  · exact ((h.st y hy).but hb (by decide) (by decide)).but hs (by decide) (by decide)
  · rw [List.mem_singleton.1 hy]
    exact (hx.but hb (by decide) (by decide)).but hs (by decide) (by decide)
end
def MadeP (w : World) (l : List Plc) (e : Ending) (w' : World) : Prop := ∃ v, e = .returned v ∧ MP w' w.heap.size w'.heap.size v l ∧ Below w.heap.size w w'
/-- few enough to be copied -/
def FewP (p : Pp) : Prop := SmP p ∧ p.vs.length ≤ 1000000 ∧ p.ss.length ≤ 1000000 ∧ (∀ v ∈ p.vs, v.d.fs.length ≤ 1000000) ∧ ∀ r ∈ p.ss, r.l.length ≤ 1000000

set_option maxRecDepth 100000 in
set_option maxHeartbeats 8000000 in
theorem twin9_any (A : Option Addr) (c : Nat) (ps : List Pp) (w : World) (hl : ps.length ≤ 1000000) (hs : ∀ p ∈ ps, FewP p) (h : TL w w.heap.size A ps) :
    Calls Tryz.prog 20 #[.slice A ps.length c] w (MadeP w (ps.map Pp.d)) := by
  have HS := Lib.hid hs
  clear hs
  go_enter Tryz.func20, Tryz.ntmps20
  go_wp2
  go_loopw [3, 4] (fun v i wr => ∃ k : Nat, k ≤ ps.length ∧ i = .int .i64 k ∧ Hid (MP wr w.heap.size wr.heap.size v ((ps.take k).map Pp.d)) ∧ Hid (Below w.heap.size w wr)) (fun _ i _ => ps.length - (intOf i).toNat)
  case atStart => exact ⟨0, by omega, rfl, MP.nil _ _ _, Below.refl _ _⟩
  case round =>
    obtain ⟨k, hk, rfl, hO, hB⟩ := hrel
    by_cases hlt : k < ps.length
    · obtain ⟨w5, rfl⟩ : ∃ x, x = wr := ⟨_, rfl⟩
      obtain ⟨g, o, rfl, hg, c0, c1, c2, c3, c4⟩ := eL_at (h.1.below hB.out) hlt
      have HM := Lib.hid (h.2 _ (List.getElem_mem hlt))
      have HF := Lib.hid (HS.out _ (List.getElem_mem hlt))
      have HT := Lib.hid (show (ps.take (k + 1)).map Pp.d = (ps.take k).map Pp.d ++ [ps[k].d] by rw [← List.take_append_getElem hlt, List.map_append]; rfl)
      have hwr := hB.out.size
      generalize ps[k] = p at *
      obtain ⟨nm, fr, tt, vs, vA, vc, ss, sA, sc⟩ := p
      obtain ⟨ls, hls'⟩ : ∃ ls, (ps.take k).map Pp.d = ls := ⟨_, rfl⟩
      have hln : ls.length ≤ 1000000 := by rw [← hls', List.length_map, List.length_take]; omega
      rw [hls'] at hO HT
      clear hls'
      dsimp only at c0 c1 c2 c3 c4
      go_wp2
      refine wp_region_held_drew (S := fun W9 => (W9.cell? ⟨g, o + k * 5, none⟩ = some (.string (str nm)) ∧ W9.cell? ⟨g, o + k * 5 + 1, none⟩ = some (.int .i64 fr) ∧ W9.cell? ⟨g, o + k * 5 + 2, none⟩ = some (.int .i64 tt))) (by kernel_rfl) (⟨c0, c1, c2⟩) (fun hHeld => ?_)
      refine heldTake (i := 0) (d := some 15) (v := ?_) rfl rfl (by kernel_rfl) (by kernel_rfl) (by kernel_rfl) (fun _ _ _ h => h) (by kernel_rfl) ?hyq_1 (by assumption) ?restq_1
      case hyq_1 => (intro W9 hSw; (try dsimp only at hSw); go_simp; try (with_reducible rfl))
      (try simp only [Act.put, List.setIfInBounds_toArray, List.set_cons_zero, List.set_cons_succ])
      refine heldTake (i := 1) (d := some 16) (v := ?_) rfl rfl (by kernel_rfl) (by kernel_rfl) (by kernel_rfl) (fun _ _ _ h => h) (by kernel_rfl) ?hyq_2 (by assumption) ?restq_2
      case hyq_2 => (intro W9 hSw; (try dsimp only at hSw); go_simp; try (with_reducible rfl))
      (try simp only [Act.put, List.setIfInBounds_toArray, List.set_cons_zero, List.set_cons_succ])
      refine heldTake (i := 2) (d := some 17) (v := ?_) rfl rfl (by kernel_rfl) (by kernel_rfl) (by kernel_rfl) (fun _ _ _ h => h) (by kernel_rfl) ?hyq_3 (by assumption) ?restq_3
      case hyq_3 => (intro W9 hSw; (try dsimp only at hSw); go_simp; try (with_reducible rfl))
      (try simp only [Act.put, List.setIfInBounds_toArray, List.set_cons_zero, List.set_cons_succ])
      refine heldTake (i := 3) (d := some 18) (v := ?_) rfl rfl (by kernel_rfl) (by kernel_rfl) (by kernel_rfl) (fun _ _ _ h => h) (by kernel_rfl) ?hyq_4 (by assumption) ?restq_4
      case hyq_4 => (intro W9 hSw; (try dsimp only at hSw); go_simp; try (with_reducible rfl))
      (try simp only [Act.put, List.setIfInBounds_toArray, List.set_cons_zero, List.set_cons_succ])
      refine heldTake (i := 4) (d := some 19) (v := ?_) rfl rfl (by kernel_rfl) (by kernel_rfl) (by kernel_rfl) (fun _ _ _ h => h) (by kernel_rfl) ?hyq_5 (by assumption) ?restq_5
      case hyq_5 => (intro W9 hSw; (try dsimp only at hSw); go_simp; try (with_reducible rfl))
      (try simp only [Act.put, List.setIfInBounds_toArray, List.set_cons_zero, List.set_cons_succ])
      refine heldTake (i := 5) (d := some 20) (v := ?_) rfl rfl (by kernel_rfl) (by kernel_rfl) (by kernel_rfl) (fun _ _ _ h => h) (by kernel_rfl) ?hyq_6 (by assumption) ?restq_6
      case hyq_6 => (intro W9 hSw; (try dsimp only at hSw); go_simp; try (with_reducible rfl))
      (try simp only [Act.put, List.setIfInBounds_toArray, List.set_cons_zero, List.set_cons_succ])
      refine heldTake (i := 6) (d := some 21) (v := ?_) rfl rfl (by kernel_rfl) (by kernel_rfl) (by kernel_rfl) (fun _ _ _ h => h) (by kernel_rfl) ?hyq_7 (by assumption) ?restq_7
      case hyq_7 => (intro W9 hSw; (try dsimp only at hSw); go_simp; try (with_reducible rfl))
      (try simp only [Act.put, List.setIfInBounds_toArray, List.set_cons_zero, List.set_cons_succ])
      refine heldTake (i := 7) (d := some 22) (v := ?_) rfl rfl (by kernel_rfl) (by kernel_rfl) (by kernel_rfl) (fun _ _ _ h => h) (by kernel_rfl) ?hyq_8 (by assumption) ?restq_8
      case hyq_8 => (intro W9 hSw; (try dsimp only at hSw); go_simp; try (with_reducible rfl))
      (try simp only [Act.put, List.setIfInBounds_toArray, List.set_cons_zero, List.set_cons_succ])
      refine heldTake (i := 8) (d := some 23) (v := ?_) rfl rfl (by kernel_rfl) (by kernel_rfl) (by kernel_rfl) (fun _ _ _ h => h) (by kernel_rfl) ?hyq_9 (by assumption) ?restq_9
      case hyq_9 => (intro W9 hSw; (try dsimp only at hSw); go_simp; try (with_reducible rfl))
      (try simp only [Act.put, List.setIfInBounds_toArray, List.set_cons_zero, List.set_cons_succ])
      refine heldTake (i := 9) (d := some 24) (v := ?_) rfl rfl (by kernel_rfl) (by kernel_rfl) (by kernel_rfl) (fun _ _ _ h => h) (by kernel_rfl) ?hyq_10 (by assumption) ?restq_10
      case hyq_10 => (intro W9 hSw; (try dsimp only at hSw); go_simp; try (with_reducible rfl))
      (try simp only [Act.put, List.setIfInBounds_toArray, List.set_cons_zero, List.set_cons_succ])
      refine heldTake (i := 10) (d := some 25) (v := ?_) rfl rfl (by kernel_rfl) (by kernel_rfl) (by kernel_rfl) (fun _ _ _ h => h) (by kernel_rfl) ?hyq_11 (by assumption) ?restq_11
      case hyq_11 => (intro W9 hSw; (try dsimp only at hSw); go_simp; try (with_reducible rfl))
      (try simp only [Act.put, List.setIfInBounds_toArray, List.set_cons_zero, List.set_cons_succ])
      refine heldTake (i := 11) (d := some 26) (v := ?_) rfl rfl (by kernel_rfl) (by kernel_rfl) (by kernel_rfl) (fun _ _ _ h => h) (by kernel_rfl) ?hyq_12 (by assumption) ?restq_12
      case hyq_12 => (intro W9 hSw; (try dsimp only at hSw); go_simp; try (with_reducible rfl))
      (try simp only [Act.put, List.setIfInBounds_toArray, List.set_cons_zero, List.set_cons_succ])
      refine heldTake (i := 12) (d := some 27) (v := ?_) rfl rfl (by kernel_rfl) (by kernel_rfl) (by kernel_rfl) (fun _ _ _ h => h) (by kernel_rfl) ?hyq_13 (by assumption) ?restq_13
      case hyq_13 => (intro W9 hSw; (try dsimp only at hSw); go_simp; try (with_reducible rfl))
      (try simp only [Act.put, List.setIfInBounds_toArray, List.set_cons_zero, List.set_cons_succ])
      refine heldTake (i := 13) (d := some 28) (v := ?_) rfl rfl (by kernel_rfl) (by kernel_rfl) (by kernel_rfl) (fun _ _ _ h => h) (by kernel_rfl) ?hyq_14 (by assumption) ?restq_14
      case hyq_14 => (intro W9 hSw; (try dsimp only at hSw); go_simp; try (with_reducible rfl))
      (try simp only [Act.put, List.setIfInBounds_toArray, List.set_cons_zero, List.set_cons_succ])
      refine heldTake (i := 14) (d := some 29) (v := ?_) rfl rfl (by kernel_rfl) (by kernel_rfl) (by kernel_rfl) (fun _ _ _ h => h) (by kernel_rfl) ?hyq_15 (by assumption) ?restq_15
      case hyq_15 => (intro W9 hSw; (try dsimp only at hSw); go_simp; try (with_reducible rfl))
      (try simp only [Act.put, List.setIfInBounds_toArray, List.set_cons_zero, List.set_cons_succ])
      refine heldTake (i := 15) (d := some 30) (v := ?_) rfl rfl (by kernel_rfl) (by kernel_rfl) (by kernel_rfl) (fun _ _ _ h => h) (by kernel_rfl) ?hyq_16 (by assumption) ?restq_16
      case hyq_16 => (intro W9 hSw; (try dsimp only at hSw); go_simp; try (with_reducible rfl))
      (try simp only [Act.put, List.setIfInBounds_toArray, List.set_cons_zero, List.set_cons_succ])
      refine wpAnyH_ready (rs := [16]) (by kernel_rfl) (by simp) ?_
      refine AllReadyH.cons rfl (fun K hK => ?_) AllReadyH.nil
      go_simp
      have hbX := (below_lnew w5 (.cells #[.string ⟨#[]⟩, .int .i64 0, .int .i64 0, .slice none 0 0, .slice none 0 0] 51)).drew
      have hcX : CAt (w5.alloc (.cells #[.string ⟨#[]⟩, .int .i64 0, .int .i64 0, .slice none 0 0, .slice none 0 0] 51)).drew w5.heap.size _ [_, _, _, _, _] := heap_alloc_new w5 (.cells #[.string ⟨#[]⟩, .int .i64 0, .int .i64 0, .slice none 0 0, .slice none 0 0] 51)
      obtain ⟨X, hX⟩ : ∃ X, (w5.alloc (.cells #[.string ⟨#[]⟩, .int .i64 0, .int .i64 0, .slice none 0 0, .slice none 0 0] 51)).drew = X := ⟨_, rfl⟩
      rw [hX] at hbX hcX ⊢
      clear hX
      have hSX : (X.cell? ⟨g, o + k * 5, none⟩ = some (.string (str nm)) ∧ X.cell? ⟨g, o + k * 5 + 1, none⟩ = some (.int .i64 fr) ∧ X.cell? ⟨g, o + k * 5 + 2, none⟩ = some (.int .i64 tt)) := ⟨(hbX.cell (p := ⟨g, o + k * 5, none⟩) (by dsimp only; omega)).trans c0, (hbX.cell (p := ⟨g, o + k * 5 + 1, none⟩) (by dsimp only; omega)).trans c1, (hbX.cell (p := ⟨g, o + k * 5 + 2, none⟩) (by dsimp only; omega)).trans c2⟩
      refine hK.out _ _ hSX (fun hHeld => ?_)
      clear hK K
      (try simp only [Act.put, List.setIfInBounds_toArray, List.set_cons_zero, List.set_cons_succ])
      refine wpAnyH_ready (rs := [17]) (by kernel_rfl) (by simp) ?_
      refine AllReadyH.cons rfl (fun K hK => ?_) AllReadyH.nil
      have e0 := hcX.cell (j := 0) (by simp)
      have e1 := hcX.cell (j := 1) (by simp)
      have e2 := hcX.cell (j := 2) (by simp)
      have e3 := hcX.cell (j := 3) (by simp)
      have e4 := hcX.cell (j := 4) (by simp)
      have f0 := hcX.frozen 0
      have f1 := hcX.frozen 1
      have f2 := hcX.frozen 2
      have f3 := hcX.frozen 3
      have f4 := hcX.frozen 4
      simp only [List.getElem_cons_zero, List.getElem_cons_succ] at e0 e1 e2 e3 e4
      go_simp
      have hcY := ((((hcX.set 0 (.string (str nm))).set 1 (.int .i64 fr)).set 2 (.int .i64 tt)).set 3 (.slice none 0 0)).set 4 (.slice none 0 0)
      have hbY := ((((hbX.setCell (p := ⟨w5.heap.size, 0, none⟩) (Nat.le_refl _) (.string (str nm))).setCell (p := ⟨w5.heap.size, 1, none⟩) (Nat.le_refl _) (.int .i64 fr)).setCell (p := ⟨w5.heap.size, 2, none⟩) (Nat.le_refl _) (.int .i64 tt)).setCell (p := ⟨w5.heap.size, 3, none⟩) (Nat.le_refl _) (.slice none 0 0)).setCell (p := ⟨w5.heap.size, 4, none⟩) (Nat.le_refl _) (.slice none 0 0)
      obtain ⟨Y, hY⟩ : ∃ Y, ((((X.setCell ⟨w5.heap.size, 0, none⟩ (.string (str nm))).setCell ⟨w5.heap.size, 1, none⟩ (.int .i64 fr)).setCell ⟨w5.heap.size, 2, none⟩ (.int .i64 tt)).setCell ⟨w5.heap.size, 3, none⟩ (.slice none 0 0)).setCell ⟨w5.heap.size, 4, none⟩ (.slice none 0 0) = Y := ⟨_, rfl⟩
      rw [hY] at hcY hbY ⊢
      clear hY e0 e1 e2 e3 e4 f0 f1 f2 f3 f4
      have hSY : (Y.cell? ⟨g, o + k * 5, none⟩ = some (.string (str nm)) ∧ Y.cell? ⟨g, o + k * 5 + 1, none⟩ = some (.int .i64 fr) ∧ Y.cell? ⟨g, o + k * 5 + 2, none⟩ = some (.int .i64 tt)) := ⟨(hbY.cell (p := ⟨g, o + k * 5, none⟩) (by dsimp only; omega)).trans c0, (hbY.cell (p := ⟨g, o + k * 5 + 1, none⟩) (by dsimp only; omega)).trans c1, (hbY.cell (p := ⟨g, o + k * 5 + 2, none⟩) (by dsimp only; omega)).trans c2⟩
      refine hK.out _ _ hSY (fun hHeld => ?_)
      clear hSX hcX hbX
      clear hK K
      (try simp only [Act.put, List.setIfInBounds_toArray, List.set_cons_zero, List.set_cons_succ])
      refine wpAnyH_done (by kernel_rfl) ?_ _
      have HP := Lib.hid (show PlM w5 w5.heap.size nm fr tt [] (.slice none 0 0) [] (.slice none 0 0) Y from ⟨hcY, El.Own.nil _ _, fun x hx => absurd hx (by simp), El.Own.nil _ _, fun x hx => absurd hx (by simp), hbY, rfl⟩)
      clear hcY hbY hSY hHeld c0 c1 c2
      obtain ⟨gx, hgx⟩ : ∃ n, n = w5.heap.size := ⟨_, rfl⟩
      rw [← hgx] at HP ⊢
      have hgl : w5.heap.size ≤ gx := by omega
      have hgr : gx ≤ w5.heap.size := by omega
      clear hgx
      have hvn := HF.out.2.1
      have hsn := HF.out.2.2.1
      dsimp only at hvn hsn
      have HMV := Lib.hid ((HM.out.v.below hB.out).more hwr)
      have HMS := Lib.hid ((HM.out.s.below hB.out).more hwr)
      dsimp only at HMV HMS
      go_wp2_with fail
      go_loopw [6] (fun i wx => ∃ (j : Nat) (xs : List Pv) (v : Value), j ≤ vs.length ∧ i = .int .i64 j ∧ Hid (xs.map Pv.d = (vs.take j).map Pv.d) ∧ Hid (PlM w5 gx nm fr tt xs v [] (.slice none 0 0) wx)) (fun i _ => vs.length - (intOf i).toNat)
      case atStart => exact ⟨0, [], _, by omega, rfl, rfl, HP⟩
      case round =>
        obtain ⟨j, xs, v, hj, rfl, hX, hP⟩ := hrel
        have c3x := (hP.out.b.cell (p := ⟨g, o + k * 5 + 3, none⟩) (by dsimp only; omega)).trans c3
        by_cases hjlt : j < vs.length
        · obtain ⟨gv, ov, rfl, hgv, x0, x1, x2, x3, x4, x5⟩ := eV_at (HMV.out.below (hP.out.b.mono (by omega))) hjlt
          have HVX := Lib.hid ((((HM.out.vs _ (List.getElem_mem hjlt)).below hB.out).more hwr).below (hP.out.b.mono (by omega)))
          have hfn := HF.out.2.2.2.1 _ (List.getElem_mem hjlt)
          have HXT := Lib.hid (show (vs.take (j + 1)).map Pv.d = (vs.take j).map Pv.d ++ [vs[j].d] by rw [← List.take_append_getElem hjlt, List.map_append]; rfl)
          generalize vs[j] = x at *
          obtain ⟨⟨xnm, xkd, xn, xtn, xwd, xfs⟩, xA, xc⟩ := x
          dsimp only at x0 x1 x2 x3 x4 x5 hfn HXT
          have hz := hP.out.p.lt
          have hxl : xs.length ≤ 1000000 := by have := congrArg List.length hX.out; rw [List.length_map, List.length_map, List.length_take] at this; have := HF.out.2.1; dsimp only at this; omega
          obtain ⟨cs, hcs⟩ : ∃ cs, cs = #[Value.string (str xnm), .int .u8 xkd, .int .i64 xn, .string (str xtn), .int .i64 xwd, .slice xA xfs.length xc] := ⟨_, rfl⟩
          have hb1 := below_lnew wr (.cells cs 65)
          have hb2 := below_lnew (wr.alloc (.cells cs 65)) (.cells #[] 9)
          have hc1 : CAt (wr.alloc (.cells cs 65)) wr.heap.size 65 [Value.string (str xnm), .int .u8 xkd, .int .i64 xn, .string (str xtn), .int .i64 xwd, .slice xA xfs.length xc] := by rw [hcs]; exact heap_alloc_new wr _
          have hc2 := hc1.below hb2 (by simp)
          have HE := Lib.hid (El.own_empty eS (wr.alloc (.cells cs 65)))
          have hb12 := hb1.trans (hb2.mono hb1.size)
          have HFL := Lib.hid ((HVX.out.1.below (hb12.mono (by omega))).more (Nat.le_trans (Nat.le_of_lt (by omega : w5.heap.size < wr.heap.size)) hb12.size))
          have hc2' := hc2.cell (j := 5) (by simp)
          have HC2 := Lib.hid hc2
          have HB12 := Lib.hid hb12
          simp only [World.size_alloc] at HE
          subst hcs
          simp only [List.getElem_cons_zero, List.getElem_cons_succ] at hc2'
          have hxc := HVX.out.2.2
          dsimp only at HFL hxc
          clear hb1 hb2 hc1 hc2 hb12
          go_wp2_with (first
            | (at_builtin
               refine El.apps eS _ rfl 63 _ _ Tryz.underlying63 str_info rfl (by decide) (.tmp 49) (.tmp 51) rfl (wr.heap.size + 1) _ [] rfl HE.out xA xc _ xfs rfl hxc HFL.out (by simp; omega) (by simp [eS]; omega) (by simp) ?_
               intro v5 w6 ho5 hg5
               rw [List.nil_append] at ho5
               have hb6 := HB12.out.grown hg5 (by simp; omega) (fun q e => by cases e; exact Nat.le_succ _)
               have hc6 : CAt w6 wr.heap.size 65 _ := (hg5.block wr.heap.size (by simp; omega) (fun e => by have e2 := Option.some.inj e; dsimp only at e2; omega)).trans HC2.out
               have h5T := ho5
               obtain ⟨A5, n5, c5, rfl, hn5, h5c, h5n, h5L⟩ := ho5.formN
               have fz := hc6.frozen 5
               have fc := hc6.cell (j := 5) (by simp)
               have hc7 := hc6.set 5 (.slice A5 n5 c5)
               have hb7 := hb6.setCell (p := ⟨wr.heap.size, 5, none⟩) (Nat.le_refl _) (.slice A5 n5 c5)
               have hz7 : (w6.setCell ⟨wr.heap.size, 5, none⟩ (.slice A5 n5 c5)).heap.size = w6.heap.size := by simp [World.setCell]
               have hP7 := hP.out.below hb7
               have hV7 : VT (w6.setCell ⟨wr.heap.size, 5, none⟩ (.slice A5 n5 c5)) ⟨⟨xnm, xkd, xn, xtn, xwd, xfs⟩, A5, c5⟩ := ⟨h5L.but (T := 65) (ButT.set (p := ⟨wr.heap.size, 5, none⟩) ⟨_, _, hc6⟩ _) (by decide), by rw [hn5.out]; exact h5c, h5n⟩
               have q0 := hc7.cell (j := 0) (by simp)
               have q1 := hc7.cell (j := 1) (by simp)
               have q2 := hc7.cell (j := 2) (by simp)
               have q3 := hc7.cell (j := 3) (by simp)
               have q4 := hc7.cell (j := 4) (by simp)
               have q5 := hc7.cell (j := 5) (by simp)
               have p3 := hP7.p.cell (j := 3) (by simp)
               simp only [List.set_cons_succ, List.set_cons_zero, List.getElem_cons_zero, List.getElem_cons_succ] at q0 q1 q2 q3 q4 q5 p3 fc
               have hb8 := below_lnew (w6.setCell ⟨wr.heap.size, 5, none⟩ (.slice A5 n5 c5)) (.cells #[Value.string (str xnm), .int .u8 xkd, .int .i64 xn, .string (str xtn), .int .i64 xwd, .slice A5 n5 c5] 65)
               have hc8 := heap_alloc_new (w6.setCell ⟨wr.heap.size, 5, none⟩ (.slice A5 n5 c5)) (.cells #[Value.string (str xnm), .int .u8 xkd, .int .i64 xn, .string (str xtn), .int .i64 xwd, .slice A5 n5 c5] 65)
               rw [hz7] at hc8
               have HP8 := Lib.hid (hP7.below hb8)
               have HV8 := Lib.hid (hV7.below hb8)
               have HC8 := Lib.hid hc8
               have HN5 := Lib.hid hn5.out
               clear hb6 hc6 h5T hc7 hb7 hP7 hV7 hb8 hc8 hg5 ho5 h5L)
            | (at_builtin
               refine El.app1 eV _ rfl 48 _ _ Tryz.underlying48 var_info rfl (by decide) (by decide) (.tmp 55) (.tmp 57) rfl gx v xs rfl HP8.out.v w6.heap.size 1 ⟨⟨xnm, xkd, xn, xtn, xwd, xfs⟩, A5, c5⟩ rfl 65 (by rw [HC8.out]; unfold eV vK tv; simp only [HN5.out]) hxl (Nat.le_of_lt HP8.out.p.lt) ?_
               intro v9 w9 ho9 hg9
               obtain ⟨A9, n9, c9, rfl, hn9, _, _, _⟩ := ho9.formN
               have hp9 : CAt w9 gx 51 _ := ((ButT.grown hg9 (fun q e => HP8.out.v.has q e)) gx _ ⟨_, _, HP8.out.p⟩ (by decide)).trans HP8.out.p
               have fz9 := hp9.frozen 3
               have fc9 := hp9.cell (j := 3) (by simp)
               simp only [List.getElem_cons_zero, List.getElem_cons_succ] at fc9
               have HP9 := Lib.hid (HP8.out.addV HV8.out hg9 ho9)
               clear hp9 ho9 hg9))
          go_roundw
          case rel => exact ⟨j + 1, xs ++ [⟨⟨xnm, xkd, xn, xtn, xwd, xfs⟩, A5, c5⟩], _, by omega, by go_num, by rw [List.map_append, hX.out, HXT.out]; rfl, HP9⟩
          case measure => simp [intOf]; omega
        · obtain rfl : j = vs.length := by omega
          rw [List.take_length] at hX
          obtain ⟨vA', vc', rfl, _, _, _⟩ := hP.out.v.form
          go_wp2_with fail
          clear c3x c3 HP
          go_loopw [8] (fun i wx => ∃ (j : Nat) (ys : List Rs) (s : Value), j ≤ ss.length ∧ i = .int .i64 j ∧ Hid (ys.map Rs.d = (ss.take j).map Rs.d) ∧ Hid (PlM w5 gx nm fr tt xs (.slice vA' xs.length vc') ys s wx)) (fun i _ => ss.length - (intOf i).toNat)
          case atStart => exact ⟨0, [], _, by omega, rfl, rfl, hP⟩
          case round =>
            obtain ⟨j, ys, s, hj, rfl, hY, hP2⟩ := hrel
            have c4x := (hP2.out.b.cell (p := ⟨g, o + k * 5 + 4, none⟩) (by dsimp only; omega)).trans c4
            by_cases hjlt : j < ss.length
            · obtain ⟨gv, ov, rfl, hgv, x0⟩ := eR_at (HMS.out.below (hP2.out.b.mono (by omega))) hjlt
              have HRX := Lib.hid ((((HM.out.ss _ (List.getElem_mem hjlt)).below hB.out).more hwr).below (hP2.out.b.mono (by omega)))
              have HXT := Lib.hid (show (ss.take (j + 1)).map Rs.d = (ss.take j).map Rs.d ++ [ss[j].d] by rw [← List.take_append_getElem hjlt, List.map_append]; rfl)
              have hz := hP2.out.p.lt
              have HSA := Lib.hid (twin7_any (ss[j]).A (ss[j]).c (ss[j]).l wr.drew (HF.out.1 _ (List.getElem_mem hjlt)) (HF.out.2.2.2.2 _ (List.getElem_mem hjlt)) ((HRX.out.1.below (Below.refl _ _).drew).more (show w5.heap.size ≤ wr.heap.size by omega)))
              unfold MadeSpans at HSA
              generalize ss[j] = x at *
              obtain ⟨xl, xA, xc⟩ := x
              dsimp only at x0 HSA
              have hyl : ys.length ≤ 1000000 := by have := congrArg List.length hY.out; rw [List.length_map, List.length_map, List.length_take] at this; omega
              have hgz : g < wr.heap.size := by omega
              have hgvz : gv < wr.heap.size := by omega
              have p4 := (hP2.out.below (Below.refl _ _).drew).p.cell (j := 4) (by simp)
              simp only [List.getElem_cons_zero, List.getElem_cons_succ] at p4
              clear HRX
              go_wp2
              refine wp_region_held_drew (S := fun W9 => (W9.cell? ⟨g, o + k * 5 + 4, none⟩ = some (.slice (some ⟨gv, ov, none⟩) ss.length sc) ∧ W9.cell? ⟨gv, ov + j, none⟩ = some (.slice xA xl.length xc))) (by kernel_rfl) (⟨c4x, x0⟩) (fun hHeld => ?_)
              refine heldTake (i := 0) (d := some 70) (v := ?_) rfl rfl (by kernel_rfl) (by kernel_rfl) (by kernel_rfl) (fun _ _ _ h => h) (by kernel_rfl) ?hyq_17 (by assumption) ?restq_17
              case hyq_17 => (intro W9 hSw; (try dsimp only at hSw); go_simp; try (with_reducible rfl))
              (try simp only [Act.put, List.setIfInBounds_toArray, List.set_cons_zero, List.set_cons_succ])
              refine heldTake (i := 2) (d := some 72) (v := ?_) rfl rfl (by kernel_rfl) (by kernel_rfl) (by kernel_rfl) (fun _ _ _ h => h) (by kernel_rfl) ?hyq_18 (by assumption) ?restq_18
              case hyq_18 => (intro W9 hSw; (try dsimp only at hSw); go_simp; try (with_reducible rfl))
              (try simp only [Act.put, List.setIfInBounds_toArray, List.set_cons_zero, List.set_cons_succ])
              refine heldTake (i := 3) (d := some 73) (v := ?_) rfl rfl (by kernel_rfl) (by kernel_rfl) (by kernel_rfl) (fun _ _ _ h => h) (by kernel_rfl) ?hyq_19 (by assumption) ?restq_19
              case hyq_19 => (intro W9 hSw; (try dsimp only at hSw); go_simp; try (with_reducible rfl))
              (try simp only [Act.put, List.setIfInBounds_toArray, List.set_cons_zero, List.set_cons_succ])
              refine heldTake (i := 4) (d := some 74) (v := ?_) rfl rfl (by kernel_rfl) (by kernel_rfl) (by kernel_rfl) (fun _ _ _ h => h) (by kernel_rfl) ?hyq_20 (by assumption) ?restq_20
              case hyq_20 => (intro W9 hSw; (try dsimp only at hSw); go_simp; try (with_reducible rfl))
              (try simp only [Act.put, List.setIfInBounds_toArray, List.set_cons_zero, List.set_cons_succ])
              refine heldTake (i := 5) (d := some 75) (v := ?_) rfl rfl (by kernel_rfl) (by kernel_rfl) (by kernel_rfl) (fun _ _ _ h => h) (by kernel_rfl) ?hyq_21 (by assumption) ?restq_21
              case hyq_21 => (intro W9 hSw; (try dsimp only at hSw); go_simp; try (with_reducible rfl))
              (try simp only [Act.put, List.setIfInBounds_toArray, List.set_cons_zero, List.set_cons_succ])
              refine heldTake (i := 6) (d := some 76) (v := ?_) rfl rfl (by kernel_rfl) (by kernel_rfl) (by kernel_rfl) (fun _ _ _ h => h) (by kernel_rfl) ?hyq_22 (by assumption) ?restq_22
              case hyq_22 => (intro W9 hSw; (try dsimp only at hSw); go_simp; try (with_reducible rfl))
              (try simp only [Act.put, List.setIfInBounds_toArray, List.set_cons_zero, List.set_cons_succ])
              refine heldTake (i := 7) (d := some 77) (v := ?_) rfl rfl (by kernel_rfl) (by kernel_rfl) (by kernel_rfl) (fun _ _ _ h => h) (by kernel_rfl) ?hyq_23 (by assumption) ?restq_23
              case hyq_23 => (intro W9 hSw; (try dsimp only at hSw); go_simp; try (with_reducible rfl))
              (try simp only [Act.put, List.setIfInBounds_toArray, List.set_cons_zero, List.set_cons_succ])
              refine heldTake (i := 8) (d := some 78) (v := ?_) rfl rfl (by kernel_rfl) (by kernel_rfl) (by kernel_rfl) (fun _ _ _ h => h) (by kernel_rfl) ?hyq_24 (by assumption) ?restq_24
              case hyq_24 => (intro W9 hSw; (try dsimp only at hSw); go_simp; try (with_reducible rfl))
              (try simp only [Act.put, List.setIfInBounds_toArray, List.set_cons_zero, List.set_cons_succ])
              refine heldTake (i := 9) (d := some 79) (v := ?_) rfl rfl (by kernel_rfl) (by kernel_rfl) (by kernel_rfl) (fun _ _ _ h => h) (by kernel_rfl) ?hyq_25 (by assumption) ?restq_25
              case hyq_25 => (intro W9 hSw; (try dsimp only at hSw); go_simp; try (with_reducible rfl))
              (try simp only [Act.put, List.setIfInBounds_toArray, List.set_cons_zero, List.set_cons_succ])
              refine wpAnyH_ready (rs := [1, 10]) (by kernel_rfl) (by simp) ?_
              refine AllReadyH.cons rfl (fun K hK => ?_) (AllReadyH.cons rfl (fun K hK => ?_) AllReadyH.nil)
              · go_simp
                refine hK.out _ _ hHeld (fun hHeld => ?_)
                clear hK K
                (try simp only [Act.put, List.setIfInBounds_toArray, List.set_cons_zero, List.set_cons_succ])
                refine wpAnyH_ready (rs := [10]) (by kernel_rfl) (by simp) ?_
                refine AllReadyH.cons rfl (fun K hK => ?_) AllReadyH.nil
                go_simp
                go_at_call 58
                refine HSA.out.mono ?_
                rintro e9 X ⟨vX, rfl, hoX, hbX⟩
                have hbX := below_of_drew hbX
                obtain ⟨y, rfl, hyd, hyt⟩ := rt_of_own hoX
                unfold rV
                have HYT := Lib.hid hyt
                have HYD := Lib.hid hyd
                have HPX := Lib.hid (hP2.out.below hbX)
                have pX := HPX.out.p.cell (j := 4) (by simp)
                simp only [List.getElem_cons_zero, List.getElem_cons_succ] at pX
                have hSX : (X.cell? ⟨g, o + k * 5 + 4, none⟩ = some (.slice (some ⟨gv, ov, none⟩) ss.length sc) ∧ X.cell? ⟨gv, ov + j, none⟩ = some (.slice xA xl.length xc)) := ⟨(hbX.cell (p := ⟨g, o + k * 5 + 4, none⟩) hgz).trans c4x, (hbX.cell (p := ⟨gv, ov + j, none⟩) hgvz).trans x0⟩
                have hzX := hbX.size
                clear hoX hyt hyd
                go_wp2_with fail
                refine hK.out _ _ hSX (fun hHeld => ?_)
                clear hK K
                (try simp only [Act.put, List.setIfInBounds_toArray, List.set_cons_zero, List.set_cons_succ])
                refine wpAnyH_ready (rs := [11]) (by kernel_rfl) (by simp) ?_
                refine AllReadyH.cons rfl (fun K hK => ?_) AllReadyH.nil
                go_simp
                have hbY := below_lnew X (.cells #[rV y] 57)
                have hcY := heap_alloc_new X (.cells #[rV y] 57)
                unfold rV at hbY hcY
                obtain ⟨Y, hY2⟩ : ∃ Y, X.alloc (.cells #[.slice y.A y.l.length y.c] 57) = Y := ⟨_, rfl⟩
                rw [hY2] at hbY hcY ⊢
                have HPY := Lib.hid (HPX.out.below hbY)
                have HTY := Lib.hid (HYT.out.below hbY)
                have pY := HPY.out.p.cell (j := 4) (by simp)
                simp only [List.getElem_cons_zero, List.getElem_cons_succ] at pY
                have hSY : (Y.cell? ⟨g, o + k * 5 + 4, none⟩ = some (.slice (some ⟨gv, ov, none⟩) ss.length sc) ∧ Y.cell? ⟨gv, ov + j, none⟩ = some (.slice xA xl.length xc)) := ⟨(hbY.cell (p := ⟨g, o + k * 5 + 4, none⟩) (by dsimp only; omega)).trans hSX.1, (hbY.cell (p := ⟨gv, ov + j, none⟩) (by dsimp only; omega)).trans hSX.2⟩
                have hzY := hbY.size
                clear hY2 hbY
                refine hK.out _ _ hSY (fun hHeld => ?_)
                clear hK K
                (try simp only [Act.put, List.setIfInBounds_toArray, List.set_cons_zero, List.set_cons_succ])
                refine wpAnyH_ready (rs := [12]) (by kernel_rfl) (by simp) ?_
                refine AllReadyH.cons rfl (fun K hK => ?_) AllReadyH.nil
                rw [if_pos (by kernel_rfl)]
                refine El.op_app1 eR Y 49 (.slice none 0 0) 24 Tryz.underlying49 spsT_info rfl (by omega) (by decide) (.tmp 71) (.tmp 81) rfl gx s ys rfl HPY.out.s X.heap.size 1 y rfl 57 hcY hyl (Nat.le_of_lt HPY.out.p.lt) ?_
                intro v9 Z ho9 hg9
                obtain ⟨A9, n9, c9, rfl, hn9, _, _, _⟩ := ho9.formN
                have hTZ : ButT 57 Y Z := ButT.grown hg9 (fun q e => HPY.out.s.has q e)
                have hfZ : CAt Z gx 51 _ := (hTZ gx _ ⟨_, _, HPY.out.p⟩ (by decide)).trans HPY.out.p
                have hbZ := HPY.out.b.grown hg9 (Nat.le_of_lt HPY.out.p.lt) (fun q e => (HPY.out.s.lt q e).1)
                have fZ := hfZ.frozen 4
                have pZ := hfZ.cell (j := 4) (by simp)
                simp only [List.getElem_cons_zero, List.getElem_cons_succ] at pZ
                have HPZ := Lib.hid (HPY.out.addS HTY.out hg9 ho9)
                have c4Z := (hbZ.cell (p := ⟨g, o + k * 5 + 4, none⟩) (by dsimp only; omega)).trans ((hP2.out.b.cell (p := ⟨g, o + k * 5 + 4, none⟩) (by dsimp only; omega)).symm.trans c4x)
                have x0Z := (hbZ.cell (p := ⟨gv, ov + j, none⟩) (by dsimp only; omega)).trans ((hP2.out.b.cell (p := ⟨gv, ov + j, none⟩) (by dsimp only; omega)).symm.trans x0)
                have hSZ : (Z.cell? ⟨g, o + k * 5 + 4, none⟩ = some (.slice (some ⟨gv, ov, none⟩) ss.length sc) ∧ Z.cell? ⟨gv, ov + j, none⟩ = some (.slice xA xl.length xc)) := ⟨c4Z, x0Z⟩
                refine hK.out _ _ hSZ (fun hHeld => ?_)
                clear hK K
                (try simp only [Act.put, List.setIfInBounds_toArray])
                refine heldTake (i := 13) (d := some 83) (v := ?_) rfl rfl (by kernel_rfl) (by kernel_rfl) (by kernel_rfl) (fun _ _ _ h => h) (by kernel_rfl) ?hyq_26 (by assumption) ?restq_26
                case hyq_26 => (intro W9 hSw; (try dsimp only at hSw); go_simp; try (with_reducible rfl))
                (try simp only [Act.put])
                refine wpAnyH_ready (rs := [14]) (by kernel_rfl) (by simp) ?_
                refine AllReadyH.cons rfl (fun K hK => ?_) AllReadyH.nil
                go_simp
                have hSV : ((Z.setCell ⟨gx, 4, none⟩ (.slice A9 n9 c9)).cell? ⟨g, o + k * 5 + 4, none⟩ = some (.slice (some ⟨gv, ov, none⟩) ss.length sc) ∧ (Z.setCell ⟨gx, 4, none⟩ (.slice A9 n9 c9)).cell? ⟨gv, ov + j, none⟩ = some (.slice xA xl.length xc)) := ⟨(HPZ.out.b.cell (p := ⟨g, o + k * 5 + 4, none⟩) (by dsimp only; omega)).trans ((hP2.out.b.cell (p := ⟨g, o + k * 5 + 4, none⟩) (by dsimp only; omega)).symm.trans c4x), (HPZ.out.b.cell (p := ⟨gv, ov + j, none⟩) (by dsimp only; omega)).trans ((hP2.out.b.cell (p := ⟨gv, ov + j, none⟩) (by dsimp only; omega)).symm.trans x0)⟩
                clear hfZ hTZ hbZ c4Z x0Z
                refine hK.out _ _ hSV (fun hHeld => ?_)
                clear hK K
                (try simp only [Act.put, List.setIfInBounds_toArray, List.set_cons_zero, List.set_cons_succ])
                refine wpAnyH_done (by kernel_rfl) ?_ _
                go_wp2_with fail
                go_roundw
                case rel => exact ⟨j + 1, ys ++ [y], _, by omega, by go_num, by rw [List.map_append, hY.out, HXT.out]; exact congrArg _ (congrArg (fun q => [q]) HYD.out), HPZ⟩
                case measure => simp [intOf]; omega
              · go_simp
                go_at_call 58
                refine HSA.out.mono ?_
                rintro e9 X ⟨vX, rfl, hoX, hbX⟩
                have hbX := below_of_drew hbX
                obtain ⟨y, rfl, hyd, hyt⟩ := rt_of_own hoX
                unfold rV
                have HYT := Lib.hid hyt
                have HYD := Lib.hid hyd
                have HPX := Lib.hid (hP2.out.below hbX)
                have pX := HPX.out.p.cell (j := 4) (by simp)
                simp only [List.getElem_cons_zero, List.getElem_cons_succ] at pX
                have hSX : (X.cell? ⟨g, o + k * 5 + 4, none⟩ = some (.slice (some ⟨gv, ov, none⟩) ss.length sc) ∧ X.cell? ⟨gv, ov + j, none⟩ = some (.slice xA xl.length xc)) := ⟨(hbX.cell (p := ⟨g, o + k * 5 + 4, none⟩) hgz).trans c4x, (hbX.cell (p := ⟨gv, ov + j, none⟩) hgvz).trans x0⟩
                have hzX := hbX.size
                clear hoX hyt hyd
                go_wp2_with fail
                refine hK.out _ _ hSX (fun hHeld => ?_)
                clear hK K
                (try simp only [Act.put, List.setIfInBounds_toArray, List.set_cons_zero, List.set_cons_succ])
                refine wpAnyH_ready (rs := [1, 11]) (by kernel_rfl) (by simp) ?_
                refine AllReadyH.cons rfl (fun K hK => ?_) (AllReadyH.cons rfl (fun K hK => ?_) AllReadyH.nil)
                · go_simp
                  refine hK.out _ _ hSX (fun hHeld => ?_)
                  clear hK K
                  (try simp only [Act.put, List.setIfInBounds_toArray, List.set_cons_zero, List.set_cons_succ])
                  refine wpAnyH_ready (rs := [11]) (by kernel_rfl) (by simp) ?_
                  refine AllReadyH.cons rfl (fun K hK => ?_) AllReadyH.nil
                  go_simp
                  have hbY := below_lnew X (.cells #[rV y] 57)
                  have hcY := heap_alloc_new X (.cells #[rV y] 57)
                  unfold rV at hbY hcY
                  obtain ⟨Y, hY2⟩ : ∃ Y, X.alloc (.cells #[.slice y.A y.l.length y.c] 57) = Y := ⟨_, rfl⟩
                  rw [hY2] at hbY hcY ⊢
                  have HPY := Lib.hid (HPX.out.below hbY)
                  have HTY := Lib.hid (HYT.out.below hbY)
                  have pY := HPY.out.p.cell (j := 4) (by simp)
                  simp only [List.getElem_cons_zero, List.getElem_cons_succ] at pY
                  have hSY : (Y.cell? ⟨g, o + k * 5 + 4, none⟩ = some (.slice (some ⟨gv, ov, none⟩) ss.length sc) ∧ Y.cell? ⟨gv, ov + j, none⟩ = some (.slice xA xl.length xc)) := ⟨(hbY.cell (p := ⟨g, o + k * 5 + 4, none⟩) (by dsimp only; omega)).trans hSX.1, (hbY.cell (p := ⟨gv, ov + j, none⟩) (by dsimp only; omega)).trans hSX.2⟩
                  have hzY := hbY.size
                  clear hY2 hbY
                  refine hK.out _ _ hSY (fun hHeld => ?_)
                  clear hK K
                  (try simp only [Act.put, List.setIfInBounds_toArray, List.set_cons_zero, List.set_cons_succ])
                  refine wpAnyH_ready (rs := [12]) (by kernel_rfl) (by simp) ?_
                  refine AllReadyH.cons rfl (fun K hK => ?_) AllReadyH.nil
                  rw [if_pos (by kernel_rfl)]
                  refine El.op_app1 eR Y 49 (.slice none 0 0) 24 Tryz.underlying49 spsT_info rfl (by omega) (by decide) (.tmp 71) (.tmp 81) rfl gx s ys rfl HPY.out.s X.heap.size 1 y rfl 57 hcY hyl (Nat.le_of_lt HPY.out.p.lt) ?_
                  intro v9 Z ho9 hg9
                  obtain ⟨A9, n9, c9, rfl, hn9, _, _, _⟩ := ho9.formN
                  have hTZ : ButT 57 Y Z := ButT.grown hg9 (fun q e => HPY.out.s.has q e)
                  have hfZ : CAt Z gx 51 _ := (hTZ gx _ ⟨_, _, HPY.out.p⟩ (by decide)).trans HPY.out.p
                  have hbZ := HPY.out.b.grown hg9 (Nat.le_of_lt HPY.out.p.lt) (fun q e => (HPY.out.s.lt q e).1)
                  have fZ := hfZ.frozen 4
                  have pZ := hfZ.cell (j := 4) (by simp)
                  simp only [List.getElem_cons_zero, List.getElem_cons_succ] at pZ
                  have HPZ := Lib.hid (HPY.out.addS HTY.out hg9 ho9)
                  have c4Z := (hbZ.cell (p := ⟨g, o + k * 5 + 4, none⟩) (by dsimp only; omega)).trans ((hP2.out.b.cell (p := ⟨g, o + k * 5 + 4, none⟩) (by dsimp only; omega)).symm.trans c4x)
                  have x0Z := (hbZ.cell (p := ⟨gv, ov + j, none⟩) (by dsimp only; omega)).trans ((hP2.out.b.cell (p := ⟨gv, ov + j, none⟩) (by dsimp only; omega)).symm.trans x0)
                  have hSZ : (Z.cell? ⟨g, o + k * 5 + 4, none⟩ = some (.slice (some ⟨gv, ov, none⟩) ss.length sc) ∧ Z.cell? ⟨gv, ov + j, none⟩ = some (.slice xA xl.length xc)) := ⟨c4Z, x0Z⟩
                  refine hK.out _ _ hSZ (fun hHeld => ?_)
                  clear hK K
                  (try simp only [Act.put, List.setIfInBounds_toArray])
                  refine heldTake (i := 13) (d := some 83) (v := ?_) rfl rfl (by kernel_rfl) (by kernel_rfl) (by kernel_rfl) (fun _ _ _ h => h) (by kernel_rfl) ?hyq_27 (by assumption) ?restq_27
                  case hyq_27 => (intro W9 hSw; (try dsimp only at hSw); go_simp; try (with_reducible rfl))
                  (try simp only [Act.put])
                  refine wpAnyH_ready (rs := [14]) (by kernel_rfl) (by simp) ?_
                  refine AllReadyH.cons rfl (fun K hK => ?_) AllReadyH.nil
                  go_simp
                  have hSV : ((Z.setCell ⟨gx, 4, none⟩ (.slice A9 n9 c9)).cell? ⟨g, o + k * 5 + 4, none⟩ = some (.slice (some ⟨gv, ov, none⟩) ss.length sc) ∧ (Z.setCell ⟨gx, 4, none⟩ (.slice A9 n9 c9)).cell? ⟨gv, ov + j, none⟩ = some (.slice xA xl.length xc)) := ⟨(HPZ.out.b.cell (p := ⟨g, o + k * 5 + 4, none⟩) (by dsimp only; omega)).trans ((hP2.out.b.cell (p := ⟨g, o + k * 5 + 4, none⟩) (by dsimp only; omega)).symm.trans c4x), (HPZ.out.b.cell (p := ⟨gv, ov + j, none⟩) (by dsimp only; omega)).trans ((hP2.out.b.cell (p := ⟨gv, ov + j, none⟩) (by dsimp only; omega)).symm.trans x0)⟩
                  clear hfZ hTZ hbZ c4Z x0Z
                  refine hK.out _ _ hSV (fun hHeld => ?_)
                  clear hK K
                  (try simp only [Act.put, List.setIfInBounds_toArray, List.set_cons_zero, List.set_cons_succ])
                  refine wpAnyH_done (by kernel_rfl) ?_ _
                  go_wp2_with fail
                  go_roundw
                  case rel => exact ⟨j + 1, ys ++ [y], _, by omega, by go_num, by rw [List.map_append, hY.out, HXT.out]; exact congrArg _ (congrArg (fun q => [q]) HYD.out), HPZ⟩
                  case measure => simp [intOf]; omega
                · go_simp
                  have hbY := below_lnew X (.cells #[rV y] 57)
                  have hcY := heap_alloc_new X (.cells #[rV y] 57)
                  unfold rV at hbY hcY
                  obtain ⟨Y, hY2⟩ : ∃ Y, X.alloc (.cells #[.slice y.A y.l.length y.c] 57) = Y := ⟨_, rfl⟩
                  rw [hY2] at hbY hcY ⊢
                  have HPY := Lib.hid (HPX.out.below hbY)
                  have HTY := Lib.hid (HYT.out.below hbY)
                  have pY := HPY.out.p.cell (j := 4) (by simp)
                  simp only [List.getElem_cons_zero, List.getElem_cons_succ] at pY
                  have hSY : (Y.cell? ⟨g, o + k * 5 + 4, none⟩ = some (.slice (some ⟨gv, ov, none⟩) ss.length sc) ∧ Y.cell? ⟨gv, ov + j, none⟩ = some (.slice xA xl.length xc)) := ⟨(hbY.cell (p := ⟨g, o + k * 5 + 4, none⟩) (by dsimp only; omega)).trans hSX.1, (hbY.cell (p := ⟨gv, ov + j, none⟩) (by dsimp only; omega)).trans hSX.2⟩
                  have hzY := hbY.size
                  clear hY2 hbY
                  refine hK.out _ _ hSY (fun hHeld => ?_)
                  clear hK K
                  (try simp only [Act.put, List.setIfInBounds_toArray, List.set_cons_zero, List.set_cons_succ])
                  refine wpAnyH_ready (rs := [1]) (by kernel_rfl) (by simp) ?_
                  refine AllReadyH.cons rfl (fun K hK => ?_) AllReadyH.nil
                  go_simp
                  refine hK.out _ _ hSY (fun hHeld => ?_)
                  clear hK K
                  (try simp only [Act.put, List.setIfInBounds_toArray, List.set_cons_zero, List.set_cons_succ])
                  refine wpAnyH_ready (rs := [12]) (by kernel_rfl) (by simp) ?_
                  refine AllReadyH.cons rfl (fun K hK => ?_) AllReadyH.nil
                  rw [if_pos (by kernel_rfl)]
                  refine El.op_app1 eR Y 49 (.slice none 0 0) 24 Tryz.underlying49 spsT_info rfl (by omega) (by decide) (.tmp 71) (.tmp 81) rfl gx s ys rfl HPY.out.s X.heap.size 1 y rfl 57 hcY hyl (Nat.le_of_lt HPY.out.p.lt) ?_
                  intro v9 Z ho9 hg9
                  obtain ⟨A9, n9, c9, rfl, hn9, _, _, _⟩ := ho9.formN
                  have hTZ : ButT 57 Y Z := ButT.grown hg9 (fun q e => HPY.out.s.has q e)
                  have hfZ : CAt Z gx 51 _ := (hTZ gx _ ⟨_, _, HPY.out.p⟩ (by decide)).trans HPY.out.p
                  have hbZ := HPY.out.b.grown hg9 (Nat.le_of_lt HPY.out.p.lt) (fun q e => (HPY.out.s.lt q e).1)
                  have fZ := hfZ.frozen 4
                  have pZ := hfZ.cell (j := 4) (by simp)
                  simp only [List.getElem_cons_zero, List.getElem_cons_succ] at pZ
                  have HPZ := Lib.hid (HPY.out.addS HTY.out hg9 ho9)
                  have c4Z := (hbZ.cell (p := ⟨g, o + k * 5 + 4, none⟩) (by dsimp only; omega)).trans ((hP2.out.b.cell (p := ⟨g, o + k * 5 + 4, none⟩) (by dsimp only; omega)).symm.trans c4x)
                  have x0Z := (hbZ.cell (p := ⟨gv, ov + j, none⟩) (by dsimp only; omega)).trans ((hP2.out.b.cell (p := ⟨gv, ov + j, none⟩) (by dsimp only; omega)).symm.trans x0)
                  have hSZ : (Z.cell? ⟨g, o + k * 5 + 4, none⟩ = some (.slice (some ⟨gv, ov, none⟩) ss.length sc) ∧ Z.cell? ⟨gv, ov + j, none⟩ = some (.slice xA xl.length xc)) := ⟨c4Z, x0Z⟩
                  refine hK.out _ _ hSZ (fun hHeld => ?_)
                  clear hK K
                  (try simp only [Act.put, List.setIfInBounds_toArray])
                  refine heldTake (i := 13) (d := some 83) (v := ?_) rfl rfl (by kernel_rfl) (by kernel_rfl) (by kernel_rfl) (fun _ _ _ h => h) (by kernel_rfl) ?hyq_28 (by assumption) ?restq_28
                  case hyq_28 => (intro W9 hSw; (try dsimp only at hSw); go_simp; try (with_reducible rfl))
                  (try simp only [Act.put])
                  refine wpAnyH_ready (rs := [14]) (by kernel_rfl) (by simp) ?_
                  refine AllReadyH.cons rfl (fun K hK => ?_) AllReadyH.nil
                  go_simp
                  have hSV : ((Z.setCell ⟨gx, 4, none⟩ (.slice A9 n9 c9)).cell? ⟨g, o + k * 5 + 4, none⟩ = some (.slice (some ⟨gv, ov, none⟩) ss.length sc) ∧ (Z.setCell ⟨gx, 4, none⟩ (.slice A9 n9 c9)).cell? ⟨gv, ov + j, none⟩ = some (.slice xA xl.length xc)) := ⟨(HPZ.out.b.cell (p := ⟨g, o + k * 5 + 4, none⟩) (by dsimp only; omega)).trans ((hP2.out.b.cell (p := ⟨g, o + k * 5 + 4, none⟩) (by dsimp only; omega)).symm.trans c4x), (HPZ.out.b.cell (p := ⟨gv, ov + j, none⟩) (by dsimp only; omega)).trans ((hP2.out.b.cell (p := ⟨gv, ov + j, none⟩) (by dsimp only; omega)).symm.trans x0)⟩
                  clear hfZ hTZ hbZ c4Z x0Z
                  refine hK.out _ _ hSV (fun hHeld => ?_)
                  clear hK K
                  (try simp only [Act.put, List.setIfInBounds_toArray, List.set_cons_zero, List.set_cons_succ])
                  refine wpAnyH_done (by kernel_rfl) ?_ _
                  go_wp2_with fail
                  go_roundw
                  case rel => exact ⟨j + 1, ys ++ [y], _, by omega, by go_num, by rw [List.map_append, hY.out, HXT.out]; exact congrArg _ (congrArg (fun q => [q]) HYD.out), HPZ⟩
                  case measure => simp [intOf]; omega
            · obtain rfl : j = ss.length := by omega
              rw [List.take_length] at hY
              obtain ⟨sA', sc', rfl, _, _, _⟩ := hP2.out.s.form
              have z0 := hP2.out.p.cell (j := 0) (by simp)
              have z1 := hP2.out.p.cell (j := 1) (by simp)
              have z2 := hP2.out.p.cell (j := 2) (by simp)
              have z3 := hP2.out.p.cell (j := 3) (by simp)
              have z4 := hP2.out.p.cell (j := 4) (by simp)
              simp only [List.getElem_cons_zero, List.getElem_cons_succ] at z0 z1 z2 z3 z4
              have hbn := below_lnew wr (.cells #[Value.string (str nm), .int .i64 fr, .int .i64 tt, .slice vA' xs.length vc', .slice sA' ys.length sc'] 51)
              have hcn := heap_alloc_new wr (.cells #[Value.string (str nm), .int .i64 fr, .int .i64 tt, .slice vA' xs.length vc', .slice sA' ys.length sc'] 51)
              have hz := hP2.out.p.lt
              have HPn := Lib.hid (hP2.out.below hbn)
              have HCN := Lib.hid hcn
              have HBN := Lib.hid ((hP2.out.b.mono hgl).trans (hbn.mono (by omega)))
              have HON := Lib.hid (hO.out.below HBN.out)
              have hzn : w.heap.size ≤ (wr.alloc (.cells #[Value.string (str nm), .int .i64 fr, .int .i64 tt, .slice vA' xs.length vc', .slice sA' ys.length sc'] 51)).heap.size := by simp; omega
              have HXV := Lib.hid hX.out
              have HYV := Lib.hid hY.out
              clear hbn hcn hX hY
              go_wp2_with (first
                | (at_builtin
                   refine app_mp _ rfl (.tmp 84) (.tmp 86) rfl w.heap.size gx _ ls rfl (HON.out.up hgl) wr.heap.size 1 ⟨nm, fr, tt, xs, vA', vc', ys, sA', sc'⟩ rfl HCN.out ⟨HPn.out.v, HPn.out.vt, HPn.out.s, HPn.out.st⟩ hln hzn (by omega) ?_
                   intro v9 w9 ho9 hg9 hk9
                   have HB9 := Lib.hid ((hB.out.trans (HBN.out.mono hwr)).grown hg9 hzn hk9)
                   have HO9 := Lib.hid (show MP w9 w.heap.size w9.heap.size v9 (ls ++ [⟨nm, fr, tt, vs.map Pv.d, ss.map Rs.d⟩]) by rw [← HXV.out, ← HYV.out]; exact ho9)
                   clear hg9 hk9 ho9))
              go_roundw
              case rel => exact ⟨k + 1, by omega, by go_num, by rw [HT.out]; exact HO9, HB9⟩
              case measure => simp [intOf]; omega
    · obtain rfl : k = ps.length := by omega
      rw [List.take_length] at hO
      go_wp2
      go_ret
      exact ⟨_, rfl, hO.out, hB.out⟩
end Go.Proofs.YtjagjkogloggpaaGreat
