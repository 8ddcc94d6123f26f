/-
  Merged for a claim: T0A, T9R, T9S.
-/
import Derived.Test.YtbkfkdiadeaooaaGreatHT9Y
import Derived.Test.YtbkfkdiadeaooaaGreatHJ10
import Derived.Test.YtbkfkdiadeaooaaGreatHS9C
namespace Go.Proofs.YtbkfkdiadeaooaaGreat
open Go Go.RowKit

theorem tail_txT {b : List UInt8} {s : RS} (hv : Vd b s) : Vd b (vaD b s).2 := by
  unfold vaD
  have h1 := vd_tx hv
  have h2 := vd_ox h1
  split
  · exact vd_dn (by decide) h2
  · split
    · exact vd_goL (fun q h => vd_tx h) _ _ (vd_dn (by decide) (vd_tx h2))
    · exact h2
/-- a world on the way: the reader, the bytes, nothing else turned -/
structure DrW (gr : Nat) (A : Option Addr) (c : Nat) (b : List UInt8) (s : RS) (w W : World) : Prop where
  i : DdAt W gr A c b s
  l : Lies W gr A b
  g : w.grownBy W (some gr)
  n : gr < w.heap.size
section
variable {gr : Nat} {A : Option Addr} {c : Nat} {b : List UInt8} {s s' : RS} {w W w' : World}
theorem DrW.start (hi : DdAt w gr A c b s) (hl : Lies w gr A b) : DrW gr A c b s w w := ⟨hi, hl, World.grownBy.refl _ _, hi.lt⟩
theorem DrW.read (h : DrW gr A c b s w W) (hr : DdAt w' gr A c b s') (hg : W.grownBy w' (some gr)) : DrW gr A c b s' w w' :=
  ⟨hr, h.l.below (below_gr hg (Nat.le_refl _) (Nat.le_of_lt h.i.lt)), grown_trans h.g hg, h.n⟩
theorem DrW.low (h : DrW gr A c b s w W) (hb : Below w.heap.size W w') : DrW gr A c b s w w' :=
  ⟨h.i.below hb h.n, h.l.below (hb.mono (Nat.le_of_lt h.n)), grown_new h.g hb, h.n⟩
theorem DrW.below (h : DrW gr A c b s w W) (hb : Below W.heap.size W w') : DrW gr A c b s w w' := h.low (hb.mono h.g.size)
theorem DrW.num (h : DrW gr A c b s w W) (hbn : b.length ≤ 1099511627776) (m : Int) (hm : 0 ≤ m ∧ m ≤ 16777216) :
    Calls Tryz.prog 21 #[.pointer (some ⟨gr, 0, none⟩), .int .i64 m] W (fun e w' => e = .returned (.int .i64 (dnX b m s)) ∧ DdAt w' gr A c b (dnS b m s) ∧ W.grownBy w' (some gr)) :=
  dnumber_any gr A c b m s W hm hbn h.l h.i
theorem DrW.txt (h : DrW gr A c b s w W) (hc : b.length ≤ c) (hbn : b.length ≤ 1099511627776) :
    Calls Tryz.prog 22 #[.pointer (some ⟨gr, 0, none⟩)] W (fun e w' => e = .returned (.string (str (txX b s))) ∧ DdAt w' gr A c b (txT b s) ∧ W.grownBy w' (some gr)) :=
  dtext_any gr A c b s W hc hbn h.l h.i
theorem DrW.var (h : DrW gr A c b s w W) (hv : Vd b s) (hc : b.length ≤ c) (hbn : b.length ≤ 1099511627776) :
    Calls Tryz.prog 23 #[.pointer (some ⟨gr, 0, none⟩)] W (DvR gr A c b (vaD b s) W) :=
  dvar_any gr A c b s W hv hc hbn h.l h.i
theorem DrW.spans (h : DrW gr A c b s w W) (hbn : b.length ≤ 1099511627776) :
    Calls Tryz.prog 24 #[.pointer (some ⟨gr, 0, none⟩)] W (DkP W gr A c b (spX b s) (spS b s)) :=
  dspans_any gr A c b s W hbn h.l h.i
theorem DrW.fail (h : DrW gr A c b s w W) : DrW gr A c b { s with no := true } w (W.setCell ⟨gr, 2, none⟩ (.bool true)) :=
  ⟨h.i.setN true, h.l.below ((Below.refl gr W).setCell (p := ⟨gr, 2, none⟩) (Nat.le_refl _) _), grown_trans h.g (grown_set _ _ _ _), h.n⟩
end
/-- a place in the making -/
structure DxW (gr gx : Nat) (A : Option Addr) (c : Nat) (b : List UInt8) (s : RS) (nm : List UInt8) (fr tt : Int) (vs : List Pv) (v1 : Value) (ss : List Rs) (v2 : Value) (w W : World) : Prop where
  d : DrW gr A c b s w W
  x : CAt W gx 49 [.string (str nm), .int .i64 fr, .int .i64 tt, v1, v2]
  v : eV.Own W (gx + 1) v1 vs
  vt : ∀ x ∈ vs, VT W x
  s : eR.Own W (gx + 1) v2 ss
  st : ∀ y ∈ ss, RT W y
  n : w.heap.size ≤ gx
section
variable {gr gx : Nat} {A : Option Addr} {c : Nat} {b : List UInt8} {s s' : RS} {nm : List UInt8} {fr tt : Int} {vs : List Pv} {v1 : Value} {ss : List Rs} {v2 : Value} {w W Z : World}
theorem DxW.below (h : DxW gr gx A c b s nm fr tt vs v1 ss v2 w W) (hb : Below W.heap.size W Z) : DxW gr gx A c b s nm fr tt vs v1 ss v2 w Z :=
  ⟨h.d.below hb, h.x.below hb h.x.lt, h.v.below hb, fun x hx => (h.vt x hx).below hb, h.s.below hb, fun x hx => (h.st x hx).below hb, h.n⟩
theorem DxW.read (h : DxW gr gx A c b s nm fr tt vs v1 ss v2 w W) (hr : DdAt Z gr A c b s') (hg : W.grownBy Z (some gr)) : DxW gr gx A c b s' nm fr tt vs v1 ss v2 w Z := by
  have hb : ButT 60 W Z := ButT.grown hg (fun k e => by injection e with e; subst e; exact h.d.i.has)
  exact ⟨h.d.read hr hg, (hb gx _ ⟨_, _, h.x⟩ (by decide)).trans h.x, h.v.but hb (by decide), fun x hx => (h.vt x hx).but hb (by decide), h.s.but hb (by decide), fun x hx => (h.st x hx).but hb (by decide) (by decide), h.n⟩
theorem DxW.fail (h : DxW gr gx A c b s nm fr tt vs v1 ss v2 w W) : DxW gr gx A c b { s with no := true } nm fr tt vs v1 ss v2 w (W.setCell ⟨gr, 2, none⟩ (.bool true)) :=
  h.read h.d.fail.i (grown_set _ _ _ _)
theorem DxW.setFr (h : DxW gr gx A c b s nm fr tt vs v1 ss v2 w W) (x : Int) : DxW gr gx A c b s nm x tt vs v1 ss v2 w (W.setCell ⟨gx, 1, none⟩ (.int .i64 x)) := by
  have hs : ButT 49 W (W.setCell ⟨gx, 1, none⟩ (.int .i64 x)) := ButT.set (p := ⟨gx, 1, none⟩) ⟨_, _, h.x⟩ _
  exact ⟨h.d.low ((Below.refl _ _).setCell (p := ⟨gx, 1, none⟩) h.n _), h.x.set 1 _, h.v.but hs (by decide), fun x hx => (h.vt x hx).but hs (by decide), h.s.but hs (by decide), fun x hx => (h.st x hx).but hs (by decide) (by decide), h.n⟩
theorem DxW.setTt (h : DxW gr gx A c b s nm fr tt vs v1 ss v2 w W) (x : Int) : DxW gr gx A c b s nm fr x vs v1 ss v2 w (W.setCell ⟨gx, 2, none⟩ (.int .i64 x)) := by
  have hs : ButT 49 W (W.setCell ⟨gx, 2, none⟩ (.int .i64 x)) := ButT.set (p := ⟨gx, 2, none⟩) ⟨_, _, h.x⟩ _
  exact ⟨h.d.low ((Below.refl _ _).setCell (p := ⟨gx, 2, none⟩) h.n _), h.x.set 2 _, h.v.but hs (by decide), fun x hx => (h.vt x hx).but hs (by decide), h.s.but hs (by decide), fun x hx => (h.st x hx).but hs (by decide) (by decide), h.n⟩
theorem DxW.addV (h : DxW gr gx A c b s nm fr tt vs v1 ss v2 w W) {x : Pv} {v9 : Value} (hx : VT W x) (hg : W.grownBy Z v1.ownBlock) (ho : eV.Own Z (gx + 1) v9 (vs ++ [x])) : DxW gr gx A c b s nm fr tt (vs ++ [x]) v9 ss v2 w (Z.setCell ⟨gx, 3, none⟩ v9) := by
  have hb : ButT 67 W Z := ButT.grown hg (fun q e => h.v.has q e)
  have hp : CAt Z gx 49 [.string (str nm), .int .i64 fr, .int .i64 tt, v1, v2] := (hb gx _ ⟨_, _, h.x⟩ (by decide)).trans h.x
  have hs : ButT 49 Z (Z.setCell ⟨gx, 3, none⟩ v9) := ButT.set (p := ⟨gx, 3, none⟩) ⟨_, _, hp⟩ v9
  have hl : Below w.heap.size W (Z.setCell ⟨gx, 3, none⟩ v9) := ((Below.refl _ _).grown hg (Nat.le_trans h.n (Nat.le_of_lt h.x.lt)) (fun k e => Nat.le_trans (Nat.le_succ_of_le h.n) (h.v.lt k e).1)).setCell (p := ⟨gx, 3, none⟩) h.n v9
  refine ⟨h.d.low hl, hp.set 3 v9, ho.but hs (by decide), fun y hy => ?_, (h.s.but hb (by decide)).but hs (by decide), fun y hy => ((h.st y hy).but hb (by decide) (by decide)).but hs (by decide) (by decide), h.n⟩
  rcases List.mem_append.1 hy with hy | hy
  · exact ((h.vt y hy).but hb (by decide)).but hs (by decide)
  · rw [List.mem_singleton.1 hy]
    exact (hx.but hb (by decide)).but hs (by decide)
theorem DxW.addS (h : DxW gr gx A c b s nm fr tt vs v1 ss v2 w W) {y : Rs} {v9 : Value} (hx : RT W y) (hg : W.grownBy Z v2.ownBlock) (ho : eR.Own Z (gx + 1) v9 (ss ++ [y])) : DxW gr gx A c b s nm fr tt vs v1 (ss ++ [y]) v9 w (Z.setCell ⟨gx, 4, none⟩ v9) := by
  have hb : ButT 69 W Z := ButT.grown hg (fun q e => h.s.has q e)
  have hp : CAt Z gx 49 [.string (str nm), .int .i64 fr, .int .i64 tt, v1, v2] := (hb gx _ ⟨_, _, h.x⟩ (by decide)).trans h.x
  have hs : ButT 49 Z (Z.setCell ⟨gx, 4, none⟩ v9) := ButT.set (p := ⟨gx, 4, none⟩) ⟨_, _, hp⟩ v9
  have hl : Below w.heap.size W (Z.setCell ⟨gx, 4, none⟩ v9) := ((Below.refl _ _).grown hg (Nat.le_trans h.n (Nat.le_of_lt h.x.lt)) (fun k e => Nat.le_trans (Nat.le_succ_of_le h.n) (h.s.lt k e).1)).setCell (p := ⟨gx, 4, none⟩) h.n v9
  refine ⟨h.d.low hl, hp.set 4 v9, (h.v.but hb (by decide)).but hs (by decide), fun y hy => ((h.vt y hy).but hb (by decide)).but hs (by decide), ho.but hs (by decide), fun y hy => ?_, h.n⟩
  rcases List.mem_append.1 hy with hy | hy
  · exact ((h.st y hy).but hb (by decide) (by decide)).but hs (by decide) (by decide)
  · rw [List.mem_singleton.1 hy]
    exact (hx.but hb (by decide) (by decide)).but hs (by decide) (by decide)
/-- what came ahead of the round is as it was -/
theorem PT.grd {w W : World} {gr : Nat} {p : Pp} (h : PT w p) (hr : HasT w gr 60) (hg : w.grownBy W (some gr)) : PT W p := by
  have hb : ButT 60 w W := ButT.grown hg (fun k e => by injection e with e; subst e; exact hr)
  exact h.but hb (by decide) (by decide) (by decide) (by decide) (by decide)
theorem PO.grd {w W : World} {gr B : Nat} {v : Value} {l : List Plc} (h : PO w B v l) (hr : HasT w gr 60) (hg : w.grownBy W (some gr)) : PO W B v l := by
  have hb : ButT 60 w W := ButT.grown hg (fun k e => by injection e with e; subst e; exact hr)
  obtain ⟨ps, e, ho, hm⟩ := h
  exact ⟨ps, e, ho.but hb (by decide), fun p hp => (hm p hp).grd hr hg⟩
theorem QO.grd {w W : World} {gr B : Nat} {v : Value} {l : List Pnt} (h : QO w B v l) (hr : HasT w gr 60) (hg : w.grownBy W (some gr)) : QO W B v l := by
  have hb : ButT 60 w W := ButT.grown hg (fun k e => by injection e with e; subst e; exact hr)
  obtain ⟨ps, e, ho, hm⟩ := h
  exact ⟨ps, e, ho.but hb (by decide), fun p hp => (hm p hp).but hb (by decide)⟩
theorem PO.butQ {w W : World} {B : Nat} {v : Value} {l : List Plc} (h : PO w B v l) (hb : ButT 55 w W) : PO W B v l := by
  obtain ⟨ps, e, ho, hm⟩ := h
  exact ⟨ps, e, ho.but hb (by decide), fun p hp => (hm p hp).but hb (by decide) (by decide) (by decide) (by decide) (by decide)⟩
/-- one more place -/
theorem PO.add {w Z : World} {B : Nat} {v v9 : Value} {ps : List Pp} {p : Pp} (hm : ∀ q ∈ ps, PT w q) (hv : eL.Own w B v ps) (hp : PT w p) (hg : w.grownBy Z v.ownBlock) (ho : eL.Own Z B v9 (ps ++ [p])) : PO Z B v9 (ps.map Pp.d ++ [p.d]) := by
  have hb : ButT 49 w Z := ButT.grown hg (fun q e => hv.has q e)
  refine ⟨ps ++ [p], by rw [List.map_append]; rfl, ho, fun q hq => ?_⟩
  rcases List.mem_append.1 hq with hq | hq
  · exact (hm q hq).but hb (by decide) (by decide) (by decide) (by decide) (by decide)
  · rw [List.mem_singleton.1 hq]
    exact hp.but hb (by decide) (by decide) (by decide) (by decide) (by decide)
theorem QO.add {w Z : World} {B : Nat} {v v9 : Value} {ps : List Pq} {p : Pq} (hm : ∀ q ∈ ps, QT w q) (hv : eQ.Own w B v ps) (hp : QT w p) (hg : w.grownBy Z v.ownBlock) (ho : eQ.Own Z B v9 (ps ++ [p])) : QO Z B v9 (ps.map Pq.d ++ [p.d]) := by
  have hb : ButT 55 w Z := ButT.grown hg (fun q e => hv.has q e)
  refine ⟨ps ++ [p], by rw [List.map_append]; rfl, ho, fun q hq => ?_⟩
  rcases List.mem_append.1 hq with hq | hq
  · exact (hm q hq).but hb (by decide)
  · rw [List.mem_singleton.1 hq]
    exact hp.but hb (by decide)
/-- the place that was made -/
theorem DxW.made (h : DxW gr gx A c b s nm fr tt vs v1 ss v2 w W) : ∃ vA vc sA sc, v1 = .slice vA vs.length vc ∧ v2 = .slice sA ss.length sc ∧ PT W ⟨nm, fr, tt, vs, vA, vc, ss, sA, sc⟩ := by
  obtain ⟨vA, vc, e1, h1, h2, h3⟩ := h.v.form
  obtain ⟨sA, sc, e2, k1, k2, k3⟩ := h.s.form
  exact ⟨vA, vc, sA, sc, e1, e2, ⟨h3, h.vt, ⟨h1, h2⟩, k3, h.st, ⟨k1, k2⟩⟩⟩
end
/-- a point in the making -/
structure DyW (gr gx : Nat) (A : Option Addr) (c : Nat) (b : List UInt8) (s : RS) (fn ln : Int) (xs : List Int) (v : Value) (w W : World) : Prop where
  d : DrW gr A c b s w W
  x : CAt W gx 55 [.int .i64 fn, .int .i64 ln, v]
  v : eI.Own W (gx + 1) v xs
  n : w.heap.size ≤ gx
section
variable {gr gx : Nat} {A : Option Addr} {c : Nat} {b : List UInt8} {s s' : RS} {fn ln : Int} {xs : List Int} {v : Value} {w W Z : World}
theorem DyW.below (h : DyW gr gx A c b s fn ln xs v w W) (hb : Below W.heap.size W Z) : DyW gr gx A c b s fn ln xs v w Z :=
  ⟨h.d.below hb, h.x.below hb h.x.lt, h.v.below hb, h.n⟩
theorem DyW.read (h : DyW gr gx A c b s fn ln xs v w W) (hr : DdAt Z gr A c b s') (hg : W.grownBy Z (some gr)) : DyW gr gx A c b s' fn ln xs v w Z := by
  have hb : ButT 60 W Z := ButT.grown hg (fun k e => by injection e with e; subst e; exact h.d.i.has)
  exact ⟨h.d.read hr hg, (hb gx _ ⟨_, _, h.x⟩ (by decide)).trans h.x, h.v.but hb (by decide), h.n⟩
theorem DyW.addI (h : DyW gr gx A c b s fn ln xs v w W) {x : Int} {v9 : Value} (hg : W.grownBy Z v.ownBlock) (ho : eI.Own Z (gx + 1) v9 (xs ++ [x])) : DyW gr gx A c b s fn ln (xs ++ [x]) v9 w (Z.setCell ⟨gx, 2, none⟩ v9) := by
  have hb : ButT 3 W Z := ButT.grown hg (fun q e => h.v.has q e)
  have hp : CAt Z gx 55 [.int .i64 fn, .int .i64 ln, v] := (hb gx _ ⟨_, _, h.x⟩ (by decide)).trans h.x
  have hs : ButT 55 Z (Z.setCell ⟨gx, 2, none⟩ v9) := ButT.set (p := ⟨gx, 2, none⟩) ⟨_, _, hp⟩ v9
  have hl : Below w.heap.size W (Z.setCell ⟨gx, 2, none⟩ v9) := ((Below.refl _ _).grown hg (Nat.le_trans h.n (Nat.le_of_lt h.x.lt)) (fun k e => Nat.le_trans (Nat.le_succ_of_le h.n) (h.v.lt k e).1)).setCell (p := ⟨gx, 2, none⟩) h.n v9
  exact ⟨h.d.low hl, hp.set 2 v9, ho.but hs (by decide), h.n⟩
theorem DyW.made (h : DyW gr gx A c b s fn ln xs v w W) : ∃ A2 c2, v = .slice A2 xs.length c2 ∧ QT W ⟨⟨fn, ln, xs⟩, A2, c2⟩ := by
  obtain ⟨A2, c2, e1, h1, h2, h3⟩ := h.v.form
  exact ⟨A2, c2, e1, h3, h1, h2⟩
end
end Go.Proofs.YtbkfkdiadeaooaaGreat

namespace Go.Proofs.YtbkfkdiadeaooaaGreat
open Go Go.RowKit

theorem name_bad {s : List UInt8} (h : s.all sgB = false) : nameB s = false := by
  unfold nameB; rw [h, Bool.and_false]
theorem name_all {s : List UInt8} (h : s.all sgB = true) : nameB s = decide (1 ≤ s.length ∧ s.length ≤ 24) := by
  unfold nameB; rw [h, Bool.and_true]

set_option maxRecDepth 100000 in
set_option maxHeartbeats 4000000 in
theorem refName9_any (s : List UInt8) (w : World) (hn : s.length ≤ 4611686018427387903) :
    Calls Tryz.prog 79 #[.string (str s)] w fun e w' => e = .returned (.bool (nameB s)) ∧ w = w' := by
  have hsz := str_sz s
  have H0 := Lib.hid (show s.all sgB = (s.drop 0).all sgB from rfl)
  obtain ⟨b, hb⟩ : ∃ b, s.all sgB = b := ⟨_, rfl⟩
  have HNB := Lib.hid (show b = false → nameB s = false from fun e => name_bad (hb.trans e))
  have HNA := Lib.hid (show b = true → nameB s = decide (1 ≤ s.length ∧ s.length ≤ 24) from fun e => name_all (hb.trans e))
  rw [hb] at H0
  obtain ⟨nb, hnb⟩ : ∃ nb, nameB s = nb := ⟨_, rfl⟩
  rw [hnb] at HNB HNA ⊢
  clear hb hnb
  go_enter Tryz.func79, Tryz.ntmps79
  go_wp2
  go_loop [3] (fun i => ∃ k : Nat, k ≤ s.length ∧ i = .int .i64 k ∧ Hid (b = (s.drop k).all sgB)) (fun i => s.length - (intOf i).toNat)
  case atStart => exact ⟨0, by omega, rfl, H0⟩
  case round =>
    obtain ⟨k, hk, rfl, hr⟩ := hrel
    clear H0
    by_cases hlt : k < s.length
    · have hlti : (k : Int) < s.length := by omega
      have hix := run_idx_str w s k hlt
      have HN := Lib.hid (fun hp => all_step hlt hr.out hp)
      have HF := Lib.hid (fun hp => all_stop hlt hr.out hp)
      clear hr
      generalize s[k] = x at *
      have HX := Lib.hid (show ∀ b, signB x.toNat = b → sgB x = b from fun b e => e)
      have hx0 : 0 ≤ (x.toNat : Int) := by omega
      generalize (x.toNat : Int) = X at *
      by_cases h1 : 97 ≤ X
      · by_cases h2 : X ≤ 122
        · have HR := Lib.hid (HN.out (HX.out true (decide_eq_true (by omega))))
          clear HN HF HX
          go_wp2
          go_round
          case rel => exact ⟨k + 1, by omega, by go_num, HR⟩
          case measure => simp [intOf]; omega
        · have g3 : 65 ≤ X := by omega
          have g4 : ¬ X ≤ 90 := by omega
          have g5 : 48 ≤ X := by omega
          have g6 : ¬ X ≤ 57 := by omega
          have h95 : (X == 95) = false := beq_eq_false_iff_ne.2 (by omega)
          have HR := Lib.hid (HNB.out (HF.out (HX.out false (decide_eq_false (by omega)))))
          clear HN HF HX HNB HNA
          go_wp2
          go_ret
          exact ⟨by rw [HR.out]; rfl, rfl⟩
      · by_cases h3 : 65 ≤ X
        · by_cases h4 : X ≤ 90
          · have HR := Lib.hid (HN.out (HX.out true (decide_eq_true (by omega))))
            clear HN HF HX
            go_wp2
            go_round
            case rel => exact ⟨k + 1, by omega, by go_num, HR⟩
            case measure => simp [intOf]; omega
          · have g5 : 48 ≤ X := by omega
            have g6 : ¬ X ≤ 57 := by omega
            by_cases h7 : X = 95
            · have h95 : (X == 95) = true := by rw [h7]; rfl
              have HR := Lib.hid (HN.out (HX.out true (decide_eq_true (by omega))))
              clear HN HF HX h7
              go_wp2
              go_round
              case rel => exact ⟨k + 1, by omega, by go_num, HR⟩
              case measure => simp [intOf]; omega
            · have h95 : (X == 95) = false := beq_eq_false_iff_ne.2 h7
              have HR := Lib.hid (HNB.out (HF.out (HX.out false (decide_eq_false (by omega)))))
              clear HN HF HX HNB HNA
              go_wp2
              go_ret
              exact ⟨by rw [HR.out]; rfl, rfl⟩
        · by_cases h5 : 48 ≤ X
          · by_cases h6 : X ≤ 57
            · have HR := Lib.hid (HN.out (HX.out true (decide_eq_true (by omega))))
              clear HN HF HX
              go_wp2
              go_round
              case rel => exact ⟨k + 1, by omega, by go_num, HR⟩
              case measure => simp [intOf]; omega
            · have h95 : (X == 95) = false := beq_eq_false_iff_ne.2 (by omega)
              have HR := Lib.hid (HNB.out (HF.out (HX.out false (decide_eq_false (by omega)))))
              clear HN HF HX HNB HNA
              go_wp2
              go_ret
              exact ⟨by rw [HR.out]; rfl, rfl⟩
          · have h95 : (X == 95) = false := beq_eq_false_iff_ne.2 (by omega)
            have HR := Lib.hid (HNB.out (HF.out (HX.out false (decide_eq_false (by omega)))))
            clear HN HF HX HNB HNA
            go_wp2
            go_ret
            exact ⟨by rw [HR.out]; rfl, rfl⟩
    · obtain rfl : k = s.length := by omega
      have HR := Lib.hid (HNA.out (all_end hr.out))
      clear hr
      by_cases h1 : 1 ≤ s.length
      · by_cases h2 : s.length ≤ 24
        · have HR := Lib.hid (HR.out.trans (decide_eq_true ⟨h1, h2⟩))
          have h1i : (1 : Int) ≤ s.length := by omega
          have h2i : (s.length : Int) ≤ 24 := by omega
          go_wp2
          go_ret
          exact ⟨congrArg (fun b => Ending.returned (.bool b)) (by rw [HR.out]), rfl⟩
        · have HR := Lib.hid (HR.out.trans (decide_eq_false (fun e => h2 e.2)))
          have h1i : (1 : Int) ≤ s.length := by omega
          have h2i : (24 : Int) < s.length := by omega
          go_wp2
          go_ret
          exact ⟨congrArg (fun b => Ending.returned (.bool b)) (by rw [HR.out]; exact decide_eq_false (by omega)), rfl⟩
      · have HR := Lib.hid (HR.out.trans (decide_eq_false (fun e => h1 e.1)))
        have h1i : (s.length : Int) < 1 := by omega
        go_wp2
        go_ret
        exact ⟨by rw [HR.out]; rfl, rfl⟩
end Go.Proofs.YtbkfkdiadeaooaaGreat

namespace Go.Proofs.YtbkfkdiadeaooaaGreat
open Go Go.RowKit

/-- a variable whose texts are no longer than may be counted -/
def SmV (v : Vr) : Prop := v.nm.length ≤ 4611686018427387903 ∧ v.tn.length ≤ 4611686018427387903 ∧ v.fs.length ≤ 1099511627776 ∧ ∀ s ∈ v.fs, s.length ≤ 4611686018427387903
theorem varB_mk (nm : List UInt8) (kd n : Int) (tn : List UInt8) (wd : Int) (fs : List (List UInt8)) : varB ⟨nm, kd, n, tn, wd, fs⟩ = (nameB nm && (decide (wd = if kd = 3 then n else if kd = 4 then (fs.length : Int) else 1) && (if kd = 1 ∨ kd = 2 then (decide (tn = []) && decide (fs.length = 0)) && decide (n = 0) else if kd = 3 then (decide (tn = []) && decide (fs.length = 0)) && decide (1 ≤ n ∧ n ≤ 16) else if kd = 4 then decide (n = 0) && (nameB tn && (decide (1 ≤ fs.length ∧ fs.length ≤ 8) && fs.all nameB)) else false))) := rfl
set_option maxRecDepth 100000 in
set_option maxHeartbeats 8000000 in
theorem refRightVar_any (p : Pv) (w : World) (hs : SmV p.d) (h : VL w w.heap.size p) :
    Calls Tryz.prog 80 #[vV p] w (BoolR (varB p.d) w) := by
  obtain ⟨⟨nm, kd, n, tn, wd, fs⟩, A, c⟩ := p
  have hb := below_lnew w (.cells (vK ⟨⟨nm, kd, n, tn, wd, fs⟩, A, c⟩) 67)
  have hw1 := heap_alloc_new w (.cells (vK ⟨⟨nm, kd, n, tn, wd, fs⟩, A, c⟩) 67)
  have HFL := Lib.hid ((h.1.below hb).more hb.size)
  have HS := Lib.hid hs
  clear h hs
  unfold vV
  unfold vK tv at hb hw1 HFL ⊢
  dsimp only at hb hw1 HFL HS ⊢
  obtain ⟨W, hW⟩ : ∃ W, w.alloc (.cells #[.string (str nm), .int .u8 kd, .int .i64 n, .string (str tn), .int .i64 wd, .slice A fs.length c] 67) = W := ⟨_, rfl⟩
  have hz : w.heap.size < W.heap.size := by rw [← hW]; simp
  rw [hW] at hb hw1 HFL
  obtain ⟨c0, c1, c2, c3, c4, c5⟩ : (W.cell? ⟨w.heap.size, 0, none⟩ = some (.string (str nm)) ∧ W.cell? ⟨w.heap.size, 1, none⟩ = some (.int .u8 kd) ∧ W.cell? ⟨w.heap.size, 2, none⟩ = some (.int .i64 n) ∧ W.cell? ⟨w.heap.size, 3, none⟩ = some (.string (str tn)) ∧ W.cell? ⟨w.heap.size, 4, none⟩ = some (.int .i64 wd) ∧ W.cell? ⟨w.heap.size, 5, none⟩ = some (.slice A fs.length c)) := by
    simp [World.cell?, hw1]
  have HB := Lib.hid hb
  clear hb hw1
  obtain ⟨vb, hvb⟩ : ∃ vb, varB ⟨nm, kd, n, tn, wd, fs⟩ = vb := ⟨_, rfl⟩
  rw [hvb]
  rw [varB_mk] at hvb
  have HV := Lib.hid hvb
  clear hvb
  have hqt := str_toList tn
  go_enter Tryz.func80, Tryz.ntmps80
  go_wp2_with fail
  (try clear hW)
  refine (refName9_any nm W HS.out.1).mono ?_
  rintro e w' ⟨rfl, rfl⟩
  cases hnm : nameB nm with
  | false =>
    have HR := Lib.hid (show vb = false by rw [← HV.out, hnm]; rfl)
    clear HV hnm
    go_wp2_with fail
    go_ret
    exact ⟨by rw [HR.out]; rfl, HB.out⟩
  | true =>
    have HNM := Lib.hid hnm
    clear hnm
    by_cases k1 : kd = 1
    · subst k1
      by_cases hn : n = 0
      · by_cases ht : tn = []
        · subst ht
          have htq : (str []).toList = [] := str_toList []
          clear hqt
          by_cases hw : wd = 1
          · by_cases hf : fs.length = 0
            · have hfi : (fs.length : Int) = 0 := by omega
              have HR := Lib.hid (show vb = true by rw [← HV.out, HNM.out]; simp [hn, hw, hf])
              clear HV HNM
              go_wp2_with fail
              go_ret
              exact ⟨by rw [HR.out]; rfl, HB.out⟩
            · have hfi : ((fs.length : Int) == 0) = false := beq_eq_false_iff_ne.2 (by omega)
              have HR := Lib.hid (show vb = false by rw [← HV.out, HNM.out]; simp [hn, hw, hf])
              clear HV HNM
              go_wp2_with fail
              go_ret
              exact ⟨by rw [HR.out]; rfl, HB.out⟩
          · have HR := Lib.hid (show vb = false by rw [← HV.out, HNM.out]; simp [hn, hw])
            clear HV HNM
            go_wp2_with fail
            go_ret
            exact ⟨by rw [HR.out]; rfl, HB.out⟩
        · have htq : ¬ (str tn).toList = [] := by rw [hqt]; exact ht
          have HR := Lib.hid (show vb = false by rw [← HV.out, HNM.out]; simp [hn, ht])
          clear HV HNM
          go_wp2_with fail
          go_ret
          exact ⟨by rw [HR.out]; rfl, HB.out⟩
      · have HR := Lib.hid (show vb = false by rw [← HV.out, HNM.out]; simp [hn])
        clear HV HNM
        go_wp2_with fail
        go_ret
        exact ⟨by rw [HR.out]; rfl, HB.out⟩
    by_cases k2 : kd = 2
    · subst k2
      by_cases hn : n = 0
      · by_cases ht : tn = []
        · subst ht
          have htq : (str []).toList = [] := str_toList []
          clear hqt
          by_cases hw : wd = 1
          · by_cases hf : fs.length = 0
            · have hfi : (fs.length : Int) = 0 := by omega
              have HR := Lib.hid (show vb = true by rw [← HV.out, HNM.out]; simp [hn, hw, hf])
              clear HV HNM
              go_wp2_with fail
              go_ret
              exact ⟨by rw [HR.out]; rfl, HB.out⟩
            · have hfi : ((fs.length : Int) == 0) = false := beq_eq_false_iff_ne.2 (by omega)
              have HR := Lib.hid (show vb = false by rw [← HV.out, HNM.out]; simp [hn, hw, hf])
              clear HV HNM
              go_wp2_with fail
              go_ret
              exact ⟨by rw [HR.out]; rfl, HB.out⟩
          · have HR := Lib.hid (show vb = false by rw [← HV.out, HNM.out]; simp [hn, hw])
            clear HV HNM
            go_wp2_with fail
            go_ret
            exact ⟨by rw [HR.out]; rfl, HB.out⟩
        · have htq : ¬ (str tn).toList = [] := by rw [hqt]; exact ht
          have HR := Lib.hid (show vb = false by rw [← HV.out, HNM.out]; simp [hn, ht])
          clear HV HNM
          go_wp2_with fail
          go_ret
          exact ⟨by rw [HR.out]; rfl, HB.out⟩
      · have HR := Lib.hid (show vb = false by rw [← HV.out, HNM.out]; simp [hn])
        clear HV HNM
        go_wp2_with fail
        go_ret
        exact ⟨by rw [HR.out]; rfl, HB.out⟩
    by_cases k3 : kd = 3
    · subst k3
      by_cases hn : 1 ≤ n
      · by_cases hn2 : n ≤ 16
        · by_cases ht : tn = []
          · subst ht
            have htq : (str []).toList = [] := str_toList []
            clear hqt
            by_cases hw : wd = n
            · by_cases hf : fs.length = 0
              · have hfi : (fs.length : Int) = 0 := by omega
                have HR := Lib.hid (show vb = true by rw [← HV.out, HNM.out]; simp [hn, hn2, hw, hf])
                clear HV HNM
                go_wp2_with fail
                go_ret
                exact ⟨by rw [HR.out]; rfl, HB.out⟩
              · have hfi : ((fs.length : Int) == 0) = false := beq_eq_false_iff_ne.2 (by omega)
                have HR := Lib.hid (show vb = false by rw [← HV.out, HNM.out]; simp [hn, hn2, hw, hf])
                clear HV HNM
                go_wp2_with fail
                go_ret
                exact ⟨by rw [HR.out]; rfl, HB.out⟩
            · have HR := Lib.hid (show vb = false by rw [← HV.out, HNM.out]; simp [hn, hn2, hw])
              clear HV HNM
              go_wp2_with fail
              go_ret
              exact ⟨by rw [HR.out]; rfl, HB.out⟩
          · have htq : ¬ (str tn).toList = [] := by rw [hqt]; exact ht
            have HR := Lib.hid (show vb = false by rw [← HV.out, HNM.out]; simp [hn, hn2, ht])
            clear HV HNM
            go_wp2_with fail
            go_ret
            exact ⟨by rw [HR.out]; rfl, HB.out⟩
        · have HR := Lib.hid (show vb = false by rw [← HV.out, HNM.out]; simp [hn2])
          clear HV HNM
          go_wp2_with fail
          go_ret
          exact ⟨by rw [HR.out]; rfl, HB.out⟩
      · have HR := Lib.hid (show vb = false by rw [← HV.out, HNM.out]; simp [hn])
        clear HV HNM
        go_wp2_with fail
        go_ret
        exact ⟨by rw [HR.out]; rfl, HB.out⟩
    by_cases k4 : kd = 4
    · subst k4
      obtain ⟨fa, hfa⟩ : ∃ fa, fs.all nameB = fa := ⟨_, rfl⟩
      have H0 := Lib.hid (show fa = (fs.drop 0).all nameB from hfa.symm)
      have HFA := Lib.hid hfa
      clear hfa
      go_wp2_with fail
      go_loopw [3] (fun i wr => ∃ k : Nat, k ≤ fs.length ∧ i = .int .i64 k ∧ Hid (Below W.heap.size W wr) ∧ Hid (fa = (fs.drop k).all nameB)) (fun i _ => fs.length - (intOf i).toNat)
      case atStart => exact ⟨0, by omega, rfl, Below.refl _ _, H0⟩
      case round =>
        obtain ⟨k, hk, rfl, hB, hr⟩ := hrel
        clear H0
        have d0 := (hB.out.cell (p := ⟨w.heap.size, 0, none⟩) hz).trans c0
        have d2 := (hB.out.cell (p := ⟨w.heap.size, 2, none⟩) hz).trans c2
        have d3 := (hB.out.cell (p := ⟨w.heap.size, 3, none⟩) hz).trans c3
        have d4 := (hB.out.cell (p := ⟨w.heap.size, 4, none⟩) hz).trans c4
        have d5 := (hB.out.cell (p := ⟨w.heap.size, 5, none⟩) hz).trans c5
        have hfl := HS.out.2.2.1
        dsimp only at hfl
        by_cases hlt : k < fs.length
        · obtain ⟨g, o, rfl, hg, x0⟩ := eS_at (HFL.out.below hB.out) hlt
          have HN := Lib.hid (fun hp => all_step hlt hr.out hp)
          have HF := Lib.hid (fun hp => all_stop hlt hr.out hp)
          have hxl := HS.out.2.2.2 _ (List.getElem_mem hlt)
          clear hr
          generalize fs[k] = x at *
          go_wp2_with fail
          refine (refName9_any x wr hxl).mono ?_
          rintro e w' ⟨rfl, rfl⟩
          cases hp : nameB x
          · have HR := Lib.hid (show vb = false by rw [← HV.out, HFA.out, HF.out hp]; simp)
            clear HN HF hp HV
            go_wp2_with fail
            go_ret
            exact ⟨by rw [HR.out]; rfl, HB.out.trans (hB.out.mono HB.out.size)⟩
          · have HR := Lib.hid (HN.out hp)
            clear HN HF hp
            go_wp2_with fail
            go_roundw
            case rel => exact ⟨k + 1, by omega, by go_num, hB, HR⟩
            case measure => simp [intOf]; omega
        · obtain rfl : k = fs.length := by omega
          have HFT := Lib.hid (all_end hr.out)
          clear hr
          by_cases hn : n = 0
          · subst hn
            go_wp2_with fail
            refine (refName9_any tn wr HS.out.2.1).mono ?_
            rintro e w' ⟨rfl, rfl⟩
            cases ht : nameB tn
            · have HR := Lib.hid (show vb = false by rw [← HV.out, ht]; simp)
              clear ht HV
              go_wp2_with fail
              go_ret
              exact ⟨by rw [HR.out]; rfl, HB.out.trans (hB.out.mono HB.out.size)⟩
            · have HTN := Lib.hid ht
              clear ht
              by_cases h1 : 1 ≤ fs.length
              · by_cases h8 : fs.length ≤ 8
                · have h1i : (1 : Int) ≤ fs.length := by omega
                  have h8i : (fs.length : Int) ≤ 8 := by omega
                  have HR := Lib.hid (show vb = (wd == (fs.length : Int)) by rw [← HV.out, HNM.out, HTN.out, HFA.out, HFT.out]; simp [h1, h8]; rfl)
                  clear HV
                  go_wp2_with fail
                  go_ret
                  exact ⟨by rw [HR.out]; rfl, HB.out.trans (hB.out.mono HB.out.size)⟩
                · have h1i : (1 : Int) ≤ fs.length := by omega
                  have h8i : ¬ (fs.length : Int) ≤ 8 := by omega
                  have HR := Lib.hid (show vb = false by rw [← HV.out]; simp [h8])
                  clear HV
                  go_wp2_with fail
                  go_ret
                  exact ⟨by rw [HR.out]; rfl, HB.out.trans (hB.out.mono HB.out.size)⟩
              · have h1i : ¬ (1 : Int) ≤ fs.length := by omega
                have HR := Lib.hid (show vb = false by rw [← HV.out]; simp [h1])
                clear HV
                go_wp2_with fail
                go_ret
                exact ⟨by rw [HR.out]; rfl, HB.out.trans (hB.out.mono HB.out.size)⟩
          · have HR := Lib.hid (show vb = false by rw [← HV.out]; simp [hn])
            clear HV
            go_wp2_with fail
            go_ret
            exact ⟨by rw [HR.out]; rfl, HB.out.trans (hB.out.mono HB.out.size)⟩
    have HR := Lib.hid (show vb = false by rw [← HV.out, HNM.out]; simp [k1, k2, k3, k4])
    clear HV HNM
    go_wp2_with fail
    go_ret
    exact ⟨by rw [HR.out]; rfl, HB.out⟩
end Go.Proofs.YtbkfkdiadeaooaaGreat
