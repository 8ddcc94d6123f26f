/-
  Merged for a claim: T9C, T9E, T7R, T9F, T9G, T9H.
-/
import Derived.BigQuiet
import Derived.Test.YtbkfkdiadeaooaaGreatHJ16
import Derived.Test.YtbkfkdiadeaooaaGreatHJ10
import Derived.Test.YtbkfkdiadeaooaaGreatHL7O
import Derived.Test.YtbkfkdiadeaooaaGreatHJ23
import Derived.Test.YtbkfkdiadeaooaaGreatHL7L
import Derived.Lib.MinMax
import Derived.Test.YtbkfkdiadeaooaaGreatHJ12
import Derived.Test.YtbkfkdiadeaooaaGreatHS9H
import Derived.Test.YtbkfkdiadeaooaaGreatHJ14
import Derived.Test.YtbkfkdiadeaooaaGreatHJ18
namespace Go.Proofs.YtbkfkdiadeaooaaGreat
open Go Go.RowKit

def qS (p : Pq) : Value := .slice p.A p.d.sc.length p.c
/-- points of the call's own, each with a list of its own, in blocks that rise -/
def MQ (w : World) (B N : Nat) (v : Value) (l : List Pnt) : Prop :=
  ∃ ps : List Pq, ps.map Pq.d = l ∧ eQ.Own w B v ps ∧ (∀ p ∈ ps, eI.Own w B (qS p) p.d.sc ∧ ∀ k, (qS p).ownBlock = some k → k < N) ∧ ps.Pairwise (fun p q => ∀ k k2, (qS p).ownBlock = some k → (qS q).ownBlock = some k2 → k < k2)
theorem MQ.nil (w : World) (B N : Nat) : MQ w B N (.slice none 0 0) [] := ⟨[], rfl, El.Own.nil _ _, fun p hp => absurd hp (by simp), List.Pairwise.nil⟩
theorem MQ.below {w w' : World} {B N : Nat} {v : Value} {l : List Pnt} (h : MQ w B N v l) (hb : Below w.heap.size w w') : MQ w' B N v l := by
  obtain ⟨ps, e, ho, hm, hp⟩ := h
  exact ⟨ps, e, ho.below hb, fun p hp => ⟨(hm p hp).1.below hb, (hm p hp).2⟩, hp⟩
theorem MQ.up {w : World} {B N N' : Nat} {v : Value} {l : List Pnt} (h : MQ w B N v l) (hN : N ≤ N') : MQ w B N' v l := by
  obtain ⟨ps, e, ho, hm, hp⟩ := h
  exact ⟨ps, e, ho, fun p hp => ⟨(hm p hp).1, fun k e => Nat.lt_of_lt_of_le ((hm p hp).2 k e) hN⟩, hp⟩
section
variable {o : Oper} {a : Act}
end
set_option maxRecDepth 100000 in
set_option maxHeartbeats 4000000 in
theorem samePoints_any (A A2 : Option Addr) (c c2 : Nat) (ps qs : List Pq) (w : World) (he : ps.map Pq.d = qs.map Pq.d) (hl : ps.length ≤ 1099511627776) (hn : ∀ q ∈ ps, q.d.sc.length ≤ 1099511627776) (h : UL w w.heap.size A ps) (h2 : UL w w.heap.size A2 qs) :
    Calls Tryz.prog 9 #[.slice A ps.length c, .slice A2 qs.length c2] w (BoolR true w) := by
  have hlen : ps.length = qs.length := by have := congrArg List.length he; simpa using this
  rw [← hlen]
  have HE := Lib.hid he
  have HLN := Lib.hid hlen
  have HN := Lib.hid hn
  clear he hlen hn
  go_enter Tryz.func9, Tryz.ntmps9
  go_wp2
  go_loopw [5] (fun i wr => ∃ k : Nat, k ≤ ps.length ∧ i = .int .i64 k ∧ Hid (Below w.heap.size w wr)) (fun i _ => ps.length - (intOf i).toNat)
  case atStart => exact ⟨0, by omega, rfl, Below.refl _ _⟩
  case round =>
    obtain ⟨k, hk, rfl, hB⟩ := hrel
    by_cases hlt : k < ps.length
    · have hlt2 : k < qs.length := by have := HLN.out; omega
      obtain ⟨g, o, rfl, hg, c0, c1, c2'⟩ := eQ_at (h.1.below hB.out) hlt
      obtain ⟨g', o', rfl, hg', d0, d1, d2⟩ := eQ_at (h2.1.below hB.out) hlt2
      have hsp : (ps[k]).d = (qs[k]).d := by
        have h1 : (ps.map Pq.d)[k]? = (qs.map Pq.d)[k]? := by rw [HE.out]
        rw [List.getElem?_map, List.getElem?_map, List.getElem?_eq_getElem hlt, List.getElem?_eq_getElem hlt2] at h1
        simpa using h1
      have HM1 := Lib.hid (h.2 _ (List.getElem_mem hlt))
      have HM2 := Lib.hid (h2.2 _ (List.getElem_mem hlt2))
      have hal := HN.out _ (List.getElem_mem hlt)
      generalize ps[k] = p at *
      generalize qs[k] = q at *
      obtain ⟨⟨fn, ln, sc⟩, pA, pc⟩ := p
      obtain ⟨qd, qA, qc⟩ := q
      dsimp only at hsp
      subst hsp
      have HL1 := Lib.hid HM1.out.1
      have HL2 := Lib.hid HM2.out.1
      clear HM1 HM2
      dsimp only at c0 c1 c2' d0 d1 d2 hal HL1 HL2
      go_wp2_with fail
      go_quiet (fail)
      have hbq := below_draws (B := wr.heap.size) (w := wr) nq
      have HBQ := Lib.hid (hB.out.trans (hbq.mono hB.out.size))
      clear hbq
      go_wp2_with fail
      go_loopw [6] (fun i wx => ∃ j : Nat, j ≤ sc.length ∧ i = .int .i64 j ∧ Hid (Below w.heap.size w wx)) (fun i _ => sc.length - (intOf i).toNat)
      case atStart => exact ⟨0, by omega, rfl, HBQ⟩
      case round =>
        obtain ⟨j, hj, rfl, hBx⟩ := hrel
        have c3x := (hBx.out.cell (p := ⟨g, o + k * 3 + 2, none⟩) hg).trans ((hB.out.cell (p := ⟨g, o + k * 3 + 2, none⟩) hg).symm.trans c2')
        have d3x := (hBx.out.cell (p := ⟨g', o' + k * 3 + 2, none⟩) hg').trans ((hB.out.cell (p := ⟨g', o' + k * 3 + 2, none⟩) hg').symm.trans d2)
        by_cases hjlt : j < sc.length
        · obtain ⟨gv, ov, rfl, hgv, x0⟩ := eI_at (HL1.out.below hBx.out) hjlt
          obtain ⟨gw, ow, rfl, hgw, y0⟩ := eI_at (HL2.out.below hBx.out) hjlt
          generalize sc[j] = x at *
          go_wp2_with fail
          go_quiet (fail)
          have hbq := below_draws (B := wr.heap.size) (w := wr) nq
          have HBX := Lib.hid (hBx.out.trans (hbq.mono hBx.out.size))
          clear hbq
          go_wp2_with fail
          go_roundw
          case rel => exact ⟨j + 1, by omega, by go_num, HBX⟩
          case measure => simp [intOf]; omega
        · obtain rfl : j = sc.length := by omega
          go_wp2_with fail
          go_roundw
          case rel => exact ⟨k + 1, by omega, by go_num, hBx⟩
          case measure => simp [intOf]; omega
    · obtain rfl : k = ps.length := by omega
      go_wp2
      go_ret
      exact ⟨rfl, hB.out⟩
end Go.Proofs.YtbkfkdiadeaooaaGreat

namespace Go.Proofs.YtbkfkdiadeaooaaGreat
open Go Go.RowKit

def pvS (p : Pp) : Value := .slice p.vA p.vs.length p.vc
def psS (p : Pp) : Value := .slice p.sA p.ss.length p.sc
/-- a place with lists of its own -/
structure PW (w : World) (B : Nat) (p : Pp) : Prop where
  v : eV.Own w B (pvS p) p.vs
  vt : ∀ x ∈ p.vs, VT w x
  s : eR.Own w B (psS p) p.ss
  st : ∀ y ∈ p.ss, RT w y
def bP (p q : Pp) : Prop := (∀ k k2, (pvS p).ownBlock = some k → (pvS q).ownBlock = some k2 → k < k2) ∧ ∀ k k2, (psS p).ownBlock = some k → (psS q).ownBlock = some k2 → k < k2
/-- places of the call's own, each with lists of its own, in blocks that rise -/
def MP (w : World) (B N : Nat) (v : Value) (l : List Plc) : Prop :=
  ∃ ps : List Pp, ps.map Pp.d = l ∧ eL.Own w B v ps ∧ (∀ p ∈ ps, PW w B p ∧ (∀ k, (pvS p).ownBlock = some k → k < N) ∧ ∀ k, (psS p).ownBlock = some k → k < N) ∧ ps.Pairwise bP
section
variable {w w' : World} {B B' N N' : Nat} {v : Value} {l : List Plc} {T : TypeId} {p : Pp}
theorem PW.but (h : PW w B p) (hb : ButT T w w') (h1 : (9 : TypeId) ≠ T) (h2 : (77 : TypeId) ≠ T) (h3 : (74 : TypeId) ≠ T) (h4 : (67 : TypeId) ≠ T) (h5 : (69 : TypeId) ≠ T) : PW w' B p :=
  ⟨h.v.but hb h4, fun x hx => (h.vt x hx).but hb h1, h.s.but hb h5, fun x hx => (h.st x hx).but hb h2 h3⟩
theorem PW.below (h : PW w B p) (hb : Below w.heap.size w w') : PW w' B p := h.but (T := 49) (.below hb) (by decide) (by decide) (by decide) (by decide) (by decide)
theorem PW.base (h : PW w B p) (hB : B' ≤ B) : PW w B' p := ⟨h.v.base hB, h.vt, h.s.base hB, h.st⟩
theorem PW.pl (h : PW w B p) : PL w w.heap.size p := by
  obtain ⟨A1, c1, e1, k1, k2, k3⟩ := h.v.form
  obtain ⟨A2, c2, e2, j1, j2, j3⟩ := h.s.form
  unfold pvS at e1
  unfold psS at e2
  injection e1 with p1 _ p3
  injection e2 with q1 _ q3
  subst p1 p3 q1 q3
  exact ⟨k3.lies, fun x hx => (h.vt x hx).vl, ⟨k1, k2⟩, j3.lies, fun x hx => (h.st x hx).rl, ⟨j1, j2⟩⟩
theorem MP.nil (w : World) (B N : Nat) : MP w B N (.slice none 0 0) [] := ⟨[], rfl, El.Own.nil _ _, fun p hp => absurd hp (by simp), List.Pairwise.nil⟩
theorem MP.up (h : MP w B N v l) (hN : N ≤ N') : MP w B N' v l := by
  obtain ⟨ps, e, ho, hm, hp⟩ := h
  exact ⟨ps, e, ho, fun p hp => ⟨(hm p hp).1, fun k e => Nat.lt_of_lt_of_le ((hm p hp).2.1 k e) hN, fun k e => Nat.lt_of_lt_of_le ((hm p hp).2.2 k e) hN⟩, hp⟩
theorem MP.below (h : MP w B N v l) (hb : Below w.heap.size w w') : MP w' B N v l := by
  obtain ⟨ps, e, ho, hm, hp⟩ := h
  exact ⟨ps, e, ho.below hb, fun p hp => ⟨(hm p hp).1.below hb, (hm p hp).2⟩, hp⟩
end
section
variable {o : Oper} {a : Act} {ops : Array Oper} {rest : List Oper} {Q : Exit → Act → World → Prop}
end
/-- a place in the making -/
structure PlM (w0 : World) (gx : Nat) (nm : List UInt8) (fr tt : Int) (xs : List Pv) (v : Value) (ys : List Rs) (s : Value) (W : World) : Prop where
  p : CAt W gx 49 [.string (str nm), .int .i64 fr, .int .i64 tt, v, s]
  v : eV.Own W gx v xs
  vt : ∀ x ∈ xs, VT W x
  s : eR.Own W gx s ys
  st : ∀ y ∈ ys, RT W y
  b : Below gx w0 W
  n : w0.heap.size = gx
section
variable {w0 W Z : World} {gx : Nat} {nm : List UInt8} {fr tt : Int} {xs : List Pv} {v : Value} {ys : List Rs} {s : Value}
theorem PlM.below (h : PlM w0 gx nm fr tt xs v ys s W) (hb : Below W.heap.size W Z) : PlM w0 gx nm fr tt xs v ys s Z :=
  ⟨h.p.below hb h.p.lt, h.v.below hb, fun x hx => (h.vt x hx).below hb, h.s.below hb, fun x hx => (h.st x hx).below hb, h.b.trans (hb.mono (Nat.le_of_lt h.p.lt)), h.n⟩
theorem PlM.addV (h : PlM w0 gx nm fr tt xs v ys s W) {x : Pv} {v9 : Value} (hx : VT W x) (hg : W.grownBy Z v.ownBlock) (ho : eV.Own Z gx v9 (xs ++ [x])) : PlM w0 gx nm fr tt (xs ++ [x]) v9 ys s (Z.setCell ⟨gx, 3, none⟩ v9) := by
  have hb : ButT 67 W Z := ButT.grown hg (fun q e => h.v.has q e)
  have hp : CAt Z gx 49 [.string (str nm), .int .i64 fr, .int .i64 tt, v, s] := (hb gx _ ⟨_, _, h.p⟩ (by decide)).trans h.p
  have hs : ButT 49 Z (Z.setCell ⟨gx, 3, none⟩ v9) := ButT.set (p := ⟨gx, 3, none⟩) ⟨_, _, hp⟩ v9
  refine ⟨hp.set 3 v9, ho.but hs (by decide), fun y hy => ?_, (h.s.but hb (by decide)).but hs (by decide), fun y hy => ((h.st y hy).but hb (by decide) (by decide)).but hs (by decide) (by decide), (h.b.grown hg (Nat.le_of_lt h.p.lt) (fun k e => (h.v.lt k e).1)).setCell (p := ⟨gx, 3, none⟩) (Nat.le_refl _) v9, h.n⟩
  rcases List.mem_append.1 hy with hy | hy
  · exact ((h.vt y hy).but hb (by decide)).but hs (by decide)
  · rw [List.mem_singleton.1 hy]
    exact (hx.but hb (by decide)).but hs (by decide)
theorem PlM.addS (h : PlM w0 gx nm fr tt xs v ys s W) {y : Rs} {v9 : Value} (hx : RT W y) (hg : W.grownBy Z s.ownBlock) (ho : eR.Own Z gx v9 (ys ++ [y])) : PlM w0 gx nm fr tt xs v (ys ++ [y]) v9 (Z.setCell ⟨gx, 4, none⟩ v9) := by
  have hb : ButT 69 W Z := ButT.grown hg (fun q e => h.s.has q e)
  have hp : CAt Z gx 49 [.string (str nm), .int .i64 fr, .int .i64 tt, v, s] := (hb gx _ ⟨_, _, h.p⟩ (by decide)).trans h.p
  have hs : ButT 49 Z (Z.setCell ⟨gx, 4, none⟩ v9) := ButT.set (p := ⟨gx, 4, none⟩) ⟨_, _, hp⟩ v9
  refine ⟨hp.set 4 v9, (h.v.but hb (by decide)).but hs (by decide), fun y hy => ((h.vt y hy).but hb (by decide)).but hs (by decide), ho.but hs (by decide), fun y hy => ?_, (h.b.grown hg (Nat.le_of_lt h.p.lt) (fun k e => (h.s.lt k e).1)).setCell (p := ⟨gx, 4, none⟩) (Nat.le_refl _) v9, h.n⟩
  rcases List.mem_append.1 hy with hy | hy
  · exact ((h.st y hy).but hb (by decide) (by decide)).but hs (by decide) (by decide)
  · rw [List.mem_singleton.1 hy]
    exact (hx.but hb (by decide) (by decide)).but hs (by decide) (by decide)
end
end Go.Proofs.YtbkfkdiadeaooaaGreat

namespace Go.Proofs.YtbkfkdiadeaooaaGreat
open Go Go.RowKit

/-- few and short enough for a law -/
def Few (ps : List Ps) : Prop := ps.length ≤ 5000 ∧ ∀ p ∈ ps, p.a.length ≤ 1000
theorem Few.sm {ps : List Ps} (h : Few ps) : Sm ps := ⟨by have := h.1; omega, fun p hp => by have := h.2 p hp; omega⟩
end Go.Proofs.YtbkfkdiadeaooaaGreat

namespace Go.Proofs.YtbkfkdiadeaooaaGreat
open Go Go.RowKit

end Go.Proofs.YtbkfkdiadeaooaaGreat

namespace Go.Proofs.YtbkfkdiadeaooaaGreat
open Go Go.RowKit

def allocs (w : World) : List Obj → World
  | [] => w
  | o :: l => allocs (w.alloc o) l
theorem allocs_below : ∀ (l : List Obj) (w : World), Below w.heap.size w (allocs w l)
  | [], w => Below.refl _ _
  | o :: l, w => (below_lnew w o).trans ((allocs_below l (w.alloc o)).mono (by simp))
theorem allocs_at : ∀ (l : List Obj) (w : World) (j : Nat) (h : j < l.length), (allocs w l).heap[w.heap.size + j]? = some l[j]
  | o :: l, w, 0, h => ((allocs_below l (w.alloc o)).block w.heap.size (by simp)).trans (heap_alloc_new w o)
  | o :: l, w, j + 1, h => by
    have := allocs_at l (w.alloc o) j (by simpa using h)
    rw [World.size_alloc] at this
    rw [show w.heap.size + (j + 1) = w.heap.size + 1 + j by omega]
    exact this
theorem allocs_size : ∀ (l : List Obj) (w : World), (allocs w l).heap.size = w.heap.size + l.length
  | [], w => rfl
  | o :: l, w => by
    rw [show (allocs w (o :: l)) = allocs (w.alloc o) l from rfl, allocs_size l, World.size_alloc, List.length_cons]
    omega

instance decVr : DecidableEq Vr := fun a b => if h : (a.nm, a.kd, a.n, a.tn, a.wd, a.fs) = (b.nm, b.kd, b.n, b.tn, b.wd, b.fs) then isTrue (by cases a; cases b; simp_all) else isFalse (fun e => h (by rw [e]))
instance decPlc : DecidableEq Plc := fun a b => if h : (a.nm, a.fr, a.tt, a.vs, a.ss) = (b.nm, b.fr, b.tt, b.vs, b.ss) then isTrue (by cases a; cases b; simp_all) else isFalse (fun e => h (by rw [e]))
instance decPnt : DecidableEq Pnt := fun a b => if h : (a.fn, a.ln, a.sc) = (b.fn, b.ln, b.sc) then isTrue (by cases a; cases b; simp_all) else isFalse (fun e => h (by rw [e]))
def wLc : Lc := ⟨2, 1⟩
def wV9 : Vr := ⟨[120], 1, 0, [], 1, []⟩
def wL9 : List Plc := [⟨[102], 0, 9, [wV9], [[⟨2, 5, [wLc]⟩]]⟩]
def wQ9 : List Pnt := [⟨0, 3, [0]⟩]
def wB9 : List UInt8 := [1, 1, 102, 0, 9, 1, 1, 120, 1, 1, 2, 3, 1, 2, 1, 1, 0, 3, 1, 0]
def wP9 (n : Nat) : List Pp := [⟨[102], 0, 9, [⟨wV9, none, 0⟩], some ⟨n + 4, 0, none⟩, 1, [⟨[⟨2, 5, [wLc], some ⟨n + 2, 0, none⟩, 1⟩], some ⟨n + 3, 0, none⟩, 1⟩], some ⟨n + 5, 0, none⟩, 1⟩]
def wR9 (n : Nat) : List Pq := [⟨⟨0, 3, [0]⟩, some ⟨n + 7, 0, none⟩, 1⟩]
theorem w9_right : right9 wL9 wQ9 = true := by decide +kernel
theorem w9_own : own9 wL9 wQ9 = wB9 := by decide +kernel
theorem w9_e : gtE wB9 0 = 0 := by decide +kernel
theorem w9_n : (gtQ wB9 0).2.1.at_ = 20 := by decide +kernel
theorem w9_in : inF 8 0 wL9 = (0, true) := by decide +kernel
theorem w9_nm : nmd wL9 wQ9 0 [120] = (0, true) := by decide +kernel
theorem w9_l : (gtL wB9 0).1 = wL9 := by decide +kernel
theorem w9_q : (gtQ wB9 0).1 = wQ9 := by decide +kernel
def wO9 (n : Nat) : List Obj := [.cells #[.slice (some ⟨n + 6, 0, none⟩) 1 1, .slice (some ⟨n + 8, 0, none⟩) 1 1] 35,
  .cells #[.string ⟨#[120]⟩, .int .u8 1, .int .i64 0, .string ⟨#[]⟩, .int .i64 1, .slice none 0 0] 67, .cells #[.int .u8 2, .int .i64 1] 74, .cells #[.int .i64 2, .int .i64 5, .slice (some ⟨n + 2, 0, none⟩) 1 1] 77,
  .cells #[.string ⟨#[120]⟩, .int .u8 1, .int .i64 0, .string ⟨#[]⟩, .int .i64 1, .slice none 0 0] 67, .cells #[.slice (some ⟨n + 3, 0, none⟩) 1 1] 69,
  .cells #[.string ⟨#[102]⟩, .int .i64 0, .int .i64 9, .slice (some ⟨n + 4, 0, none⟩) 1 1, .slice (some ⟨n + 5, 0, none⟩) 1 1] 49, .cells #[.int .i64 0] 3, .cells #[.int .i64 0, .int .i64 3, .slice (some ⟨n + 7, 0, none⟩) 1 1] 55]
theorem el_one {α : Type} (K : El α) (w : World) (g : Nat) (x : α) {e : TypeId} {s : Nat × Nat} (h : w.heap[g]? = some (.cells (K.f x).toArray e s)) : K.Lies w w.heap.size (some ⟨g, 0, none⟩) [x] := fun _ => by
  refine ⟨g, 0, rfl, (Array.getElem?_eq_some_iff.1 h).1, fun j hj f u hu => ?_⟩
  obtain rfl : j = 0 := by simp at hj; omega
  simp only [World.cell?, h]
  simpa using hu
theorem w9_tl (w : World) : TL (allocs w (wO9 w.heap.size)) (allocs w (wO9 w.heap.size)).heap.size (some ⟨w.heap.size + 6, 0, none⟩) (wP9 w.heap.size) := by
  have at_ := fun j h => allocs_at (wO9 w.heap.size) w j h
  refine ⟨el_one eL _ _ _ (at_ 6 (by simp [wO9])), fun p hp => ?_⟩
  rw [wP9, List.mem_singleton] at hp
  subst hp
  refine ⟨el_one eV _ _ _ (at_ 4 (by simp [wO9])), fun x hx => ?_, ⟨by simp, by simp⟩, el_one eR _ _ _ (at_ 5 (by simp [wO9])), fun r hr => ?_, ⟨by simp, by simp⟩⟩
  · rw [List.mem_singleton] at hx
    subst hx
    exact ⟨El.Lies.nil _ _ _, by simp [wV9], by simp⟩
  · rw [List.mem_singleton] at hr
    subst hr
    refine ⟨⟨el_one ePs _ _ _ (at_ 3 (by simp [wO9])), fun q hq => ?_⟩, by simp, by simp⟩
    rw [List.mem_singleton] at hq
    subst hq
    exact ⟨by simp, by simp, el_one eLc _ _ _ (at_ 2 (by simp [wO9]))⟩
theorem w9_ul (w : World) : UL (allocs w (wO9 w.heap.size)) (allocs w (wO9 w.heap.size)).heap.size (some ⟨w.heap.size + 8, 0, none⟩) (wR9 w.heap.size) := by
  have at_ := fun j h => allocs_at (wO9 w.heap.size) w j h
  refine ⟨el_one eQ _ _ _ (at_ 8 (by simp [wO9])), fun p hp => ?_⟩
  rw [wR9, List.mem_singleton] at hp
  subst hp
  exact ⟨el_one eI _ _ _ (at_ 7 (by simp [wO9])), by simp, by simp⟩
theorem w9_d (n : Nat) : (wP9 n).map Pp.d = wL9 ∧ (wR9 n).map Pq.d = wQ9 := ⟨rfl, rfl⟩
theorem w9_sm (n : Nat) : SmT (wP9 n) (wR9 n) := by
  refine ⟨fun p hp r hr => ?_, fun q hq => ?_⟩
  · rw [wP9, List.mem_singleton] at hp
    subst hp
    rw [List.mem_singleton] at hr
    subst hr
    refine ⟨by simp, fun q hq => ?_⟩
    rw [List.mem_singleton] at hq
    subst hq
    simp
  · rw [wR9, List.mem_singleton] at hq
    subst hq
    simp
theorem w9_tab (n : Nat) : TabP (wP9 n) (wR9 n) := by
  refine ⟨w9_sm n, fun p hp r hr q hq x hx => ?_⟩
  rw [wP9, List.mem_singleton] at hp
  subst hp
  rw [List.mem_singleton] at hr
  subst hr
  rw [List.mem_singleton] at hq
  subst hq
  rw [List.mem_singleton] at hx
  subst hx
  exact ⟨⟨by decide, by decide⟩, by decide, by decide⟩

theorem tab_size : (Tryz.prog.info? 35).map (·.size) = some 2 := by kernel_rfl
def PlainR (w : World) (e : Ending) (w' : World) : Prop := w' = allocs w (wO9 w.heap.size) ∧ e = .returned (.agg #[.slice (some ⟨w.heap.size + 6, 0, none⟩) 1 1, .slice (some ⟨w.heap.size + 8, 0, none⟩) 1 1])
set_option maxRecDepth 100000 in
set_option maxHeartbeats 2000000 in
theorem plain9_any (w : World) : Calls Tryz.prog 11 #[] w (PlainR w) := by
  have hc := allocs_at (wO9 w.heap.size) w 0 (by simp [wO9])
  go_enter Tryz.func11, Tryz.ntmps11
  go_wp2_with fail
  refine bodyPost_ret (results_cell_row rfl _ _ _ _ _ _ _ rfl hc Tryz.underlying35 rfl tab_size) rfl ?_
  exact ⟨rfl, rfl⟩
end Go.Proofs.YtbkfkdiadeaooaaGreat

namespace Go.Proofs.YtbkfkdiadeaooaaGreat
open Go Go.RowKit

theorem w9_put (w : World) (A1 A2 : Option Addr) (c1 c2 n : Nat) (h : TL w w.heap.size A1 (wP9 n)) (h2 : UL w w.heap.size A2 (wR9 n)) : Calls Tryz.prog 12 #[.slice none 0 0, .slice A1 1 c1, .slice A2 1 c2] w fun e w' => ∃ A c, e = .returned (.tuple #[.slice A 20 c, .int .i64 0]) ∧ 20 ≤ c ∧ Lies w' w'.heap.size A wB9 ∧ Below w.heap.size w w' := by
  refine (put9_any none A1 A2 0 c1 c2 [] (wP9 n) (wR9 n) w (fun _ => rfl) (Lies.empty _ _ _) (by simp) h h2 (w9_tab n)).mono ?_
  rintro e w' ⟨v, rfl, ho, hb⟩
  have e1 : ptB9 [] ((wP9 n).map Pp.d) ((wR9 n).map Pq.d) = wB9 := by
    rw [(w9_d n).1, (w9_d n).2]; unfold ptB9; rw [if_pos w9_right, List.nil_append, w9_own]
  have e2 : ptE9 ((wP9 n).map Pp.d) ((wR9 n).map Pq.d) = 0 := by
    rw [(w9_d n).1, (w9_d n).2]; unfold ptE9; rw [if_pos w9_right]
  rw [e1] at ho
  obtain ⟨A, c, rfl, k1, k2, k3⟩ := ho.form
  exact ⟨A, c, by rw [e2]; rfl, k1, k3, hb⟩
theorem w9_get (w : World) (A : Option Addr) (c : Nat) (hc : 20 ≤ c) (h : Lies w w.heap.size A wB9) : Calls Tryz.prog 6 #[.slice A 20 c, .int .i64 0] w fun e w' => ∃ A1 c1 A2 c2 ps qs, e = .returned (.tuple #[.slice A1 1 c1, .slice A2 1 c2, .int .i64 20, .int .i64 0]) ∧ (ps.map Pp.d = wL9 ∧ qs.map Pq.d = wQ9) ∧ TL w' w'.heap.size A1 ps ∧ UL w' w'.heap.size A2 qs ∧ Below w.heap.size w w' := by
  refine (get9_any A c wB9 0 w hc (by simp [wB9]) h).mono ?_
  rintro e w' ⟨v1, v2, rfl, h1, h2, hb⟩
  rw [if_pos w9_e, w9_l] at h1
  rw [if_pos w9_e, w9_q] at h2
  obtain ⟨A1, c1, ps, rfl, e1, _, _, k1⟩ := h1.form
  obtain ⟨A2, c2, qs, rfl, e2, _, _, k2⟩ := h2.form
  have n1 : ps.length = 1 := by have := congrArg List.length e1; simpa [wL9] using this
  have n2 : qs.length = 1 := by have := congrArg List.length e2; simpa [wQ9] using this
  exact ⟨A1, c1, A2, c2, ps, qs, by rw [n1, n2, if_pos w9_e, w9_n, w9_e], ⟨e1, e2⟩, k1, k2, hb⟩
theorem w9_one {ps : List Pp} {qs : List Pq} (h : ps.map Pp.d = wL9 ∧ qs.map Pq.d = wQ9) : ps.length = 1 ∧ qs.length = 1 :=
  ⟨by have := congrArg List.length h.1; simpa [wL9] using this, by have := congrArg List.length h.2; simpa [wQ9] using this⟩
theorem w9_ins (w : World) (A : Option Addr) (c : Nat) (ps : List Pp) (qs : List Pq) (he : ps.map Pp.d = wL9 ∧ qs.map Pq.d = wQ9) (h : TL w w.heap.size A ps) : Calls Tryz.prog 13 #[.slice A 1 c, .int .i64 8] w (InR (0, true) w) := by
  have := in9_any A c ps 8 w (by rw [(w9_one he).1]; decide) h.1
  rw [he.1, w9_in, (w9_one he).1] at this
  exact this
theorem w9_nms (w : World) (A A2 : Option Addr) (c c2 : Nat) (ps : List Pp) (qs : List Pq) (he : ps.map Pp.d = wL9 ∧ qs.map Pq.d = wQ9) (h : TL w w.heap.size A ps) (h2 : UL w w.heap.size A2 qs) : Calls Tryz.prog 14 #[.slice A 1 c, .slice A2 1 c2, .int .i64 0, .string ⟨#[120]⟩] w (InR (0, true) w) := by
  have hs : ∀ q ∈ qs, q.d.sc.length ≤ 1099511627776 := fun q hq => by
    have : q.d ∈ wQ9 := by rw [← he.2]; exact List.mem_map_of_mem hq
    rw [wQ9, List.mem_singleton] at this
    rw [this]; decide
  have := named9_any A A2 c c2 ps qs 0 [120] w hs h h2
  rw [he.1, he.2, w9_nm, (w9_one he).1, (w9_one he).2] at this
  exact this
theorem w9_same (w : World) (A A2 : Option Addr) (c c2 n : Nat) (ps : List Pp) (qs : List Pq) (he : ps.map Pp.d = wL9 ∧ qs.map Pq.d = wQ9) (h : TL w w.heap.size A ps) (h2 : TL w w.heap.size A2 (wP9 n)) : Calls Tryz.prog 8 #[.slice A 1 c, .slice A2 1 c2] w (BoolR true w) := by
  have hs : ∀ p ∈ ps, SmP p ∧ p.vs.length ≤ 1099511627776 ∧ p.ss.length ≤ 1099511627776 ∧ ∀ v ∈ p.vs, v.d.fs.length ≤ 1099511627776 := fun p hp => by
    have h1 : p.d ∈ wL9 := by rw [← he.1]; exact List.mem_map_of_mem hp
    rw [wL9, List.mem_singleton] at h1
    have hv : p.vs.map Pv.d = [wV9] := congrArg Plc.vs h1
    have hr : p.ss.map Rs.d = [[⟨2, 5, [wLc]⟩]] := congrArg Plc.ss h1
    refine ⟨fun r hr2 => ?_, ?_, ?_, fun v hv2 => ?_⟩
    · have : r.d ∈ [[(⟨2, 5, [wLc]⟩ : Sp)]] := by rw [← hr]; exact List.mem_map_of_mem hr2
      rw [List.mem_singleton] at this
      have hl : r.l.map Ps.sp = [⟨2, 5, [wLc]⟩] := this
      refine ⟨by have := congrArg List.length hl; simp at this; omega, fun q hq => ?_⟩
      have : q.sp ∈ [(⟨2, 5, [wLc]⟩ : Sp)] := by rw [← hl]; exact List.mem_map_of_mem hq
      rw [List.mem_singleton] at this
      have e : q.a = [wLc] := congrArg Sp.a this
      rw [e]; decide
    · have := congrArg List.length hv; simp at this; omega
    · have := congrArg List.length hr; simp at this; omega
    · have : v.d ∈ [wV9] := by rw [← hv]; exact List.mem_map_of_mem hv2
      rw [List.mem_singleton] at this
      rw [this]; decide
  have := same9_any A A2 c c2 ps (wP9 n) w (he.1.trans (w9_d n).1.symm) (by rw [(w9_one he).1]; decide) hs h h2
  rw [(w9_one he).1] at this
  exact this
theorem w9_samep (w : World) (A A2 : Option Addr) (c c2 n : Nat) (ps : List Pp) (qs : List Pq) (he : ps.map Pp.d = wL9 ∧ qs.map Pq.d = wQ9) (h : UL w w.heap.size A qs) (h2 : UL w w.heap.size A2 (wR9 n)) : Calls Tryz.prog 9 #[.slice A 1 c, .slice A2 1 c2] w (BoolR true w) := by
  have hs : ∀ q ∈ qs, q.d.sc.length ≤ 1099511627776 := fun q hq => by
    have : q.d ∈ wQ9 := by rw [← he.2]; exact List.mem_map_of_mem hq
    rw [wQ9, List.mem_singleton] at this
    rw [this]; decide
  have := samePoints_any A A2 c c2 qs (wR9 n) w (he.2.trans (w9_d n).2.symm) (by rw [(w9_one he).2]; decide) hs h h2
  rw [(w9_one he).2] at this
  exact this

set_option maxRecDepth 100000 in
set_option maxHeartbeats 4000000 in
theorem works9_any (w : World) : Calls Tryz.prog 4 #[] w (BoolR true w) := by
  go_enter Tryz.func4, Tryz.ntmps4
  go_wp2_with fail
  refine (plain9_any _).mono ?_
  rintro e w1 ⟨rfl, rfl⟩
  have hT := w9_tl w
  have hU := w9_ul w
  have hb := allocs_below (wO9 w.heap.size) w
  have hz := allocs_size (wO9 w.heap.size) w
  obtain ⟨n, hn⟩ : ∃ n, w.heap.size = n := ⟨_, rfl⟩
  obtain ⟨W, hW⟩ : ∃ W, allocs w (wO9 w.heap.size) = W := ⟨_, rfl⟩
  rw [hW] at hT hU hb hz ⊢
  rw [show (wO9 w.heap.size).length = 9 from rfl] at hz
  rw [hn] at hT hU hb hz ⊢
  have hz9 : n + 9 ≤ W.heap.size := by omega
  have hnw : w.heap.size ≤ n := by omega
  have HN := Lib.hid hn
  clear hz hn
  have hb1 := below_lnew W (.cells #[.slice (some ⟨n + 6, 0, none⟩) 1 1, .slice (some ⟨n + 8, 0, none⟩) 1 1] 35)
  have hc1 : CAt (W.alloc (.cells #[.slice (some ⟨n + 6, 0, none⟩) 1 1, .slice (some ⟨n + 8, 0, none⟩) 1 1] 35)) W.heap.size _ [_, _] := heap_alloc_new W (.cells #[.slice (some ⟨n + 6, 0, none⟩) 1 1, .slice (some ⟨n + 8, 0, none⟩) 1 1] 35)
  have HT := Lib.hid ((hT.below hb1).more hb1.size)
  have HU := Lib.hid ((hU.below hb1).more hb1.size)
  have HB := Lib.hid (hb.trans (hb1.mono (by omega)))
  have hzX : W.heap.size < (W.alloc (.cells #[.slice (some ⟨n + 6, 0, none⟩) 1 1, .slice (some ⟨n + 8, 0, none⟩) 1 1] 35)).heap.size := by simp
  have t0 := hc1.cell (j := 0) (by simp)
  have t1 := hc1.cell (j := 1) (by simp)
  simp only [List.getElem_cons_zero, List.getElem_cons_succ] at t0 t1
  clear hT hU hb hb1 hc1 hW
  obtain ⟨X, hX⟩ : ∃ X, W.alloc (.cells #[.slice (some ⟨n + 6, 0, none⟩) 1 1, .slice (some ⟨n + 8, 0, none⟩) 1 1] 35) = X := ⟨_, rfl⟩
  rw [hX] at HT HU HB hzX t0 t1
  have HPT := Lib.hid (w9_put X _ _ 1 1 n HT.out HU.out)
  go_wp2_with fail
  clear hX
  refine HPT.out.mono ?_
  rintro e w1 ⟨A1, c1, rfl, hcc, hL1, hb1⟩
  have HC1 := Lib.hid hcc
  have HL1 := Lib.hid hL1
  have HB1 := Lib.hid (HB.out.trans (hb1.mono (by omega)))
  have t01 := (hb1.cell (p := ⟨W.heap.size, 0, none⟩) hzX).trans t0
  have t11 := (hb1.cell (p := ⟨W.heap.size, 1, none⟩) hzX).trans t1
  have HT1 := Lib.hid (HT.out.next hb1)
  have HU1 := Lib.hid (HU.out.next hb1)
  have hz1 : W.heap.size < w1.heap.size := Nat.lt_of_lt_of_le hzX hb1.size
  clear hcc hL1 hb1 t0 t1 HPT HT HU HB
  go_wp2_with fail
  refine (w9_get w1 _ c1 HC1.out HL1.out).mono ?_
  rintro e w2 ⟨A2, c2, A3, c3, ps, qs, rfl, he, hT2, hU2, hb2⟩
  have HE := Lib.hid he
  have HP2 := Lib.hid hT2
  have HQ2 := Lib.hid hU2
  have HB2 := Lib.hid (HB1.out.trans (hb2.mono (by omega)))
  have t02 := (hb2.cell (p := ⟨W.heap.size, 0, none⟩) hz1).trans t01
  have t12 := (hb2.cell (p := ⟨W.heap.size, 1, none⟩) hz1).trans t11
  have HT2 := Lib.hid (HT1.out.next hb2)
  have HU2 := Lib.hid (HU1.out.next hb2)
  have hz2 : W.heap.size < w2.heap.size := Nat.lt_of_lt_of_le hz1 hb2.size
  clear he hT2 hU2 hb2 t01 t11
  go_wp2_with fail
  refine (w9_ins w2 A2 c2 ps qs HE.out HP2.out).mono ?_
  rintro e w3 ⟨rfl, hb3⟩
  have HB3 := Lib.hid (HB2.out.trans (hb3.mono (by omega)))
  have t03 := (hb3.cell (p := ⟨W.heap.size, 0, none⟩) hz2).trans t02
  have t13 := (hb3.cell (p := ⟨W.heap.size, 1, none⟩) hz2).trans t12
  have HT3 := Lib.hid (HT2.out.next hb3)
  have HU3 := Lib.hid (HU2.out.next hb3)
  have HP3 := Lib.hid (HP2.out.next hb3)
  have HQ3 := Lib.hid (HQ2.out.next hb3)
  have hz3 : W.heap.size < w3.heap.size := Nat.lt_of_lt_of_le hz2 hb3.size
  clear hb3 t02 t12
  go_wp2_with fail
  refine (w9_nms w3 A2 A3 c2 c3 ps qs HE.out HP3.out HQ3.out).mono ?_
  rintro e w4 ⟨rfl, hb4⟩
  have HB4 := Lib.hid (HB3.out.trans (hb4.mono (by omega)))
  have t04 := (hb4.cell (p := ⟨W.heap.size, 0, none⟩) hz3).trans t03
  have t14 := (hb4.cell (p := ⟨W.heap.size, 1, none⟩) hz3).trans t13
  have HT4 := Lib.hid (HT3.out.next hb4)
  have HU4 := Lib.hid (HU3.out.next hb4)
  have HP4 := Lib.hid (HP3.out.next hb4)
  have HQ4 := Lib.hid (HQ3.out.next hb4)
  have hz4 : W.heap.size < w4.heap.size := Nat.lt_of_lt_of_le hz3 hb4.size
  clear hb4 t03 t13
  go_wp2_with fail
  refine (w9_same w4 A2 _ c2 1 n ps qs HE.out HP4.out HT4.out).mono ?_
  rintro e w5 ⟨rfl, hb5⟩
  have HB5 := Lib.hid (HB4.out.trans (hb5.mono (by omega)))
  have t15 := (hb5.cell (p := ⟨W.heap.size, 1, none⟩) hz4).trans t14
  have HU5 := Lib.hid (HU4.out.next hb5)
  have HQ5 := Lib.hid (HQ4.out.next hb5)
  have hz5 : W.heap.size < w5.heap.size := Nat.lt_of_lt_of_le hz4 hb5.size
  clear hb5 t04 t14
  go_wp2_with fail
  refine (w9_samep w5 A3 _ c3 1 n ps qs HE.out HQ5.out HU5.out).mono ?_
  rintro e w6 ⟨rfl, hb6⟩
  have HB6 := Lib.hid (HB5.out.trans (hb6.mono (by omega)))
  go_wp2_with fail
  go_ret
  exact ⟨rfl, by rw [HN.out]; exact HB6.out⟩
end Go.Proofs.YtbkfkdiadeaooaaGreat
