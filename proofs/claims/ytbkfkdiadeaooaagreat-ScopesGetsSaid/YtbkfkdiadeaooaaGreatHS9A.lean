/-
  Merged for a claim: S9A.
-/
import Derived.Test.YtbkfkdiadeaooaaGreatHGA
import Derived.Test.YtbkfkdiadeaooaaGreatHJ1
namespace Go.Proofs.YtbkfkdiadeaooaaGreat
open Go.ChangeShapes Go.WideShapes Go.ChangeAt Go.RowKit Go.Deep

def tv (s : List UInt8) : Value := .string (str s)
/-- a variable -/
structure Vr where
  nm : List UInt8
  kd : Int
  n : Int
  tn : List UInt8
  wd : Int
  fs : List (List UInt8)
/-- a variable, and where its fields lie -/
structure Pv where
  d : Vr
  A : Option Addr
  c : Nat
/-- a list of spans, and where they lie -/
structure Rs where
  l : List Ps
  A : Option Addr
  c : Nat
def Rs.d (r : Rs) : List Sp := r.l.map Ps.sp
/-- a place -/
structure Plc where
  nm : List UInt8
  fr : Int
  tt : Int
  vs : List Vr
  ss : List (List Sp)
structure Pp where
  nm : List UInt8
  fr : Int
  tt : Int
  vs : List Pv
  vA : Option Addr
  vc : Nat
  ss : List Rs
  sA : Option Addr
  sc : Nat
def Pp.d (p : Pp) : Plc := ⟨p.nm, p.fr, p.tt, p.vs.map Pv.d, p.ss.map Rs.d⟩
/-- a point -/
structure Pnt where
  fn : Int
  ln : Int
  sc : List Int
structure Pq where
  d : Pnt
  A : Option Addr
  c : Nat
def vK (p : Pv) : Array Value := #[tv p.d.nm, .int .u8 p.d.kd, .int .i64 p.d.n, tv p.d.tn, .int .i64 p.d.wd, .slice p.A p.d.fs.length p.c]
/-- the value of a variable -/
def vV (p : Pv) : Value := .agg (vK p)
def lK (p : Pp) : Array Value := #[tv p.nm, .int .i64 p.fr, .int .i64 p.tt, .slice p.vA p.vs.length p.vc, .slice p.sA p.ss.length p.sc]
def qK (p : Pq) : Array Value := #[.int .i64 p.d.fn, .int .i64 p.d.ln, .slice p.A p.d.sc.length p.c]
def rV (r : Rs) : Value := .slice r.A r.l.length r.c

theorem str_info : (Tryz.prog.info? 9).map (fun i => (i.zero, i.size, i.bytes)) = some (some (.string ⟨#[]⟩), 1, 16) := by kernel_rfl
theorem var_info : (Tryz.prog.info? 67).map (fun i => (i.zero, i.size, i.bytes)) = some (some (.agg #[.string ⟨#[]⟩, .int .u8 0, .int .i64 0, .string ⟨#[]⟩, .int .i64 0, .slice none 0 0]), 6, 80) := by kernel_rfl
theorem place_info : (Tryz.prog.info? 49).map (fun i => (i.zero, i.size, i.bytes)) = some (some (.agg #[.string ⟨#[]⟩, .int .i64 0, .int .i64 0, .slice none 0 0, .slice none 0 0]), 5, 80) := by kernel_rfl
theorem point_info : (Tryz.prog.info? 55).map (fun i => (i.zero, i.size, i.bytes)) = some (some (.agg #[.int .i64 0, .int .i64 0, .slice none 0 0]), 3, 40) := by kernel_rfl
theorem rs_info : (Tryz.prog.info? 69).map (fun i => (i.zero, i.size, i.bytes)) = some (some (.slice none 0 0), 1, 24) := by kernel_rfl
theorem int_info : (Tryz.prog.info? 3).map (fun i => (i.zero, i.size, i.bytes)) = some (some (.int .i64 0), 1, 8) := by kernel_rfl

def eS : El (List UInt8) := ⟨9, 1, fun s => [tv s], fun _ => rfl, fun x u hu => by rw [List.mem_singleton] at hu; subst hu; rfl, by omega⟩
def eI : El Int := ⟨3, 1, fun i => [.int .i64 i], fun _ => rfl, fun x u hu => by rw [List.mem_singleton] at hu; subst hu; rfl, by omega⟩
def eR : El Rs := ⟨69, 1, fun r => [rV r], fun _ => rfl, fun x u hu => by rw [List.mem_singleton] at hu; subst hu; rfl, by omega⟩
def eV : El Pv := ⟨67, 6, fun p => (vK p).toList, fun _ => rfl, fun x u hu => by
  simp only [vK, List.mem_cons, List.not_mem_nil, or_false] at hu
  rcases hu with rfl | rfl | rfl | rfl | rfl | rfl <;> rfl, by omega⟩
def eL : El Pp := ⟨49, 5, fun p => (lK p).toList, fun _ => rfl, fun x u hu => by
  simp only [lK, List.mem_cons, List.not_mem_nil, or_false] at hu
  rcases hu with rfl | rfl | rfl | rfl | rfl <;> rfl, by omega⟩
def eQ : El Pq := ⟨55, 3, fun p => (qK p).toList, fun _ => rfl, fun x u hu => by
  simp only [qK, List.mem_cons, List.not_mem_nil, or_false] at hu
  rcases hu with rfl | rfl | rfl <;> rfl, by omega⟩

section
variable {w w' : World} {B B' : Nat} {A : Option Addr}
theorem eS_at {xs : List (List UInt8)} (h : eS.Lies w B A xs) {j : Nat} (hj : j < xs.length) : ∃ g o, A = some ⟨g, o, none⟩ ∧ g < B ∧ w.cell? ⟨g, o + j, none⟩ = some (.string (str xs[j])) := by
  obtain ⟨g, o, e, hg, hc⟩ := h.at_ hj
  exact ⟨g, o, e, hg, by simpa [eS, tv] using hc 0 _ rfl⟩
theorem eI_at {xs : List Int} (h : eI.Lies w B A xs) {j : Nat} (hj : j < xs.length) : ∃ g o, A = some ⟨g, o, none⟩ ∧ g < B ∧ w.cell? ⟨g, o + j, none⟩ = some (.int .i64 xs[j]) := by
  obtain ⟨g, o, e, hg, hc⟩ := h.at_ hj
  exact ⟨g, o, e, hg, by simpa [eI] using hc 0 _ rfl⟩
theorem eR_at {xs : List Rs} (h : eR.Lies w B A xs) {j : Nat} (hj : j < xs.length) : ∃ g o, A = some ⟨g, o, none⟩ ∧ g < B ∧ w.cell? ⟨g, o + j, none⟩ = some (.slice xs[j].A xs[j].l.length xs[j].c) := by
  obtain ⟨g, o, e, hg, hc⟩ := h.at_ hj
  exact ⟨g, o, e, hg, by simpa [eR, rV] using hc 0 _ rfl⟩
theorem eV_at {xs : List Pv} (h : eV.Lies w B A xs) {j : Nat} (hj : j < xs.length) : ∃ g o, A = some ⟨g, o, none⟩ ∧ g < B ∧ w.cell? ⟨g, o + j * 6, none⟩ = some (.string (str xs[j].d.nm)) ∧ w.cell? ⟨g, o + j * 6 + 1, none⟩ = some (.int .u8 xs[j].d.kd) ∧ w.cell? ⟨g, o + j * 6 + 2, none⟩ = some (.int .i64 xs[j].d.n) ∧ w.cell? ⟨g, o + j * 6 + 3, none⟩ = some (.string (str xs[j].d.tn)) ∧ w.cell? ⟨g, o + j * 6 + 4, none⟩ = some (.int .i64 xs[j].d.wd) ∧ w.cell? ⟨g, o + j * 6 + 5, none⟩ = some (.slice xs[j].A xs[j].d.fs.length xs[j].c) := by
  obtain ⟨g, o, e, hg, hc⟩ := h.at_ hj
  exact ⟨g, o, e, hg, hc 0 _ rfl, hc 1 _ rfl, hc 2 _ rfl, hc 3 _ rfl, hc 4 _ rfl, hc 5 _ rfl⟩
theorem eL_at {xs : List Pp} (h : eL.Lies w B A xs) {j : Nat} (hj : j < xs.length) : ∃ g o, A = some ⟨g, o, none⟩ ∧ g < B ∧ w.cell? ⟨g, o + j * 5, none⟩ = some (.string (str xs[j].nm)) ∧ w.cell? ⟨g, o + j * 5 + 1, none⟩ = some (.int .i64 xs[j].fr) ∧ w.cell? ⟨g, o + j * 5 + 2, none⟩ = some (.int .i64 xs[j].tt) ∧ w.cell? ⟨g, o + j * 5 + 3, none⟩ = some (.slice xs[j].vA xs[j].vs.length xs[j].vc) ∧ w.cell? ⟨g, o + j * 5 + 4, none⟩ = some (.slice xs[j].sA xs[j].ss.length xs[j].sc) := by
  obtain ⟨g, o, e, hg, hc⟩ := h.at_ hj
  exact ⟨g, o, e, hg, hc 0 _ rfl, hc 1 _ rfl, hc 2 _ rfl, hc 3 _ rfl, hc 4 _ rfl⟩
theorem eQ_at {xs : List Pq} (h : eQ.Lies w B A xs) {j : Nat} (hj : j < xs.length) : ∃ g o, A = some ⟨g, o, none⟩ ∧ g < B ∧ w.cell? ⟨g, o + j * 3, none⟩ = some (.int .i64 xs[j].d.fn) ∧ w.cell? ⟨g, o + j * 3 + 1, none⟩ = some (.int .i64 xs[j].d.ln) ∧ w.cell? ⟨g, o + j * 3 + 2, none⟩ = some (.slice xs[j].A xs[j].d.sc.length xs[j].c) := by
  obtain ⟨g, o, e, hg, hc⟩ := h.at_ hj
  exact ⟨g, o, e, hg, hc 0 _ rfl, hc 1 _ rfl, hc 2 _ rfl⟩

/-- what a thing names lies -/
def VL (w : World) (B : Nat) (p : Pv) : Prop := eS.Lies w B p.A p.d.fs ∧ p.d.fs.length ≤ p.c ∧ (p.A = none → p.c = 0)
def RL (w : World) (B : Nat) (r : Rs) : Prop := SLies w B r.A r.l ∧ r.l.length ≤ r.c ∧ (r.A = none → r.c = 0)
structure PL (w : World) (B : Nat) (p : Pp) : Prop where
  v : eV.Lies w B p.vA p.vs
  vs : ∀ x ∈ p.vs, VL w B x
  vc : p.vs.length ≤ p.vc ∧ (p.vA = none → p.vc = 0)
  s : eR.Lies w B p.sA p.ss
  ss : ∀ x ∈ p.ss, RL w B x
  sc : p.ss.length ≤ p.sc ∧ (p.sA = none → p.sc = 0)
def QL (w : World) (B : Nat) (p : Pq) : Prop := eI.Lies w B p.A p.d.sc ∧ p.d.sc.length ≤ p.c ∧ (p.A = none → p.c = 0)
def TL (w : World) (B : Nat) (A : Option Addr) (l : List Pp) : Prop := eL.Lies w B A l ∧ ∀ p ∈ l, PL w B p
def UL (w : World) (B : Nat) (A : Option Addr) (l : List Pq) : Prop := eQ.Lies w B A l ∧ ∀ p ∈ l, QL w B p
theorem VL.below {p : Pv} (h : VL w B p) (hb : Below B w w') : VL w' B p := ⟨h.1.below hb, h.2⟩
theorem VL.more {p : Pv} (h : VL w B p) (hB : B ≤ B') : VL w B' p := ⟨h.1.more hB, h.2⟩
theorem RL.below {p : Rs} (h : RL w B p) (hb : Below B w w') : RL w' B p := ⟨h.1.below hb, h.2⟩
theorem RL.more {p : Rs} (h : RL w B p) (hB : B ≤ B') : RL w B' p := ⟨h.1.more hB, h.2⟩
theorem QL.below {p : Pq} (h : QL w B p) (hb : Below B w w') : QL w' B p := ⟨h.1.below hb, h.2⟩
theorem QL.more {p : Pq} (h : QL w B p) (hB : B ≤ B') : QL w B' p := ⟨h.1.more hB, h.2⟩
theorem PL.below {p : Pp} (h : PL w B p) (hb : Below B w w') : PL w' B p := ⟨h.v.below hb, fun x hx => (h.vs x hx).below hb, h.vc, h.s.below hb, fun x hx => (h.ss x hx).below hb, h.sc⟩
theorem PL.more {p : Pp} (h : PL w B p) (hB : B ≤ B') : PL w B' p := ⟨h.v.more hB, fun x hx => (h.vs x hx).more hB, h.vc, h.s.more hB, fun x hx => (h.ss x hx).more hB, h.sc⟩
theorem TL.below {l : List Pp} (h : TL w B A l) (hb : Below B w w') : TL w' B A l := ⟨h.1.below hb, fun p hp => (h.2 p hp).below hb⟩
theorem TL.more {l : List Pp} (h : TL w B A l) (hB : B ≤ B') : TL w B' A l := ⟨h.1.more hB, fun p hp => (h.2 p hp).more hB⟩
theorem TL.next {l : List Pp} (h : TL w w.heap.size A l) (hb : Below w.heap.size w w') : TL w' w'.heap.size A l := (h.below hb).more hb.size
theorem UL.below {l : List Pq} (h : UL w B A l) (hb : Below B w w') : UL w' B A l := ⟨h.1.below hb, fun p hp => (h.2 p hp).below hb⟩
theorem UL.more {l : List Pq} (h : UL w B A l) (hB : B ≤ B') : UL w B' A l := ⟨h.1.more hB, fun p hp => (h.2 p hp).more hB⟩
theorem UL.next {l : List Pq} (h : UL w w.heap.size A l) (hb : Below w.heap.size w w') : UL w' w'.heap.size A l := (h.below hb).more hb.size

/-- the same in blocks of their types -/
def ePs : El Ps := ⟨77, 3, pC, pC_len, pC_one, by omega⟩
def eLc : El Lc := ⟨74, 2, cC, cC_len, cC_one, by omega⟩
def MnT (w : World) (p : Ps) : Prop := p.a.length ≤ p.c ∧ (p.A = none → p.c = 0) ∧ eLc.LiesT w p.A p.a
def VT (w : World) (p : Pv) : Prop := eS.LiesT w p.A p.d.fs ∧ p.d.fs.length ≤ p.c ∧ (p.A = none → p.c = 0)
def RT (w : World) (r : Rs) : Prop := (ePs.LiesT w r.A r.l ∧ ∀ p ∈ r.l, MnT w p) ∧ r.l.length ≤ r.c ∧ (r.A = none → r.c = 0)
structure PT (w : World) (p : Pp) : Prop where
  v : eV.LiesT w p.vA p.vs
  vs : ∀ x ∈ p.vs, VT w x
  vc : p.vs.length ≤ p.vc ∧ (p.vA = none → p.vc = 0)
  s : eR.LiesT w p.sA p.ss
  ss : ∀ x ∈ p.ss, RT w x
  sc : p.ss.length ≤ p.sc ∧ (p.sA = none → p.sc = 0)
def QT (w : World) (p : Pq) : Prop := eI.LiesT w p.A p.d.sc ∧ p.d.sc.length ≤ p.c ∧ (p.A = none → p.c = 0)
variable {T : TypeId}
theorem VT.vl {p : Pv} (h : VT w p) : VL w w.heap.size p := ⟨h.1.lies, h.2⟩
theorem RT.rl {p : Rs} (h : RT w p) : RL w w.heap.size p := ⟨⟨h.1.1.lies, fun p hp => ⟨(h.1.2 p hp).1, (h.1.2 p hp).2.1, (h.1.2 p hp).2.2.lies⟩⟩, h.2⟩
theorem PT.pl {p : Pp} (h : PT w p) : PL w w.heap.size p := ⟨h.v.lies, fun x hx => (h.vs x hx).vl, h.vc, h.s.lies, fun x hx => (h.ss x hx).rl, h.sc⟩
theorem QT.ql {p : Pq} (h : QT w p) : QL w w.heap.size p := ⟨h.1.lies, h.2⟩
theorem VT.but {p : Pv} (h : VT w p) (hb : ButT T w w') (hT : (9 : TypeId) ≠ T) : VT w' p := ⟨h.1.but hb hT, h.2⟩
theorem RT.but {p : Rs} (h : RT w p) (hb : ButT T w w') (hT : (77 : TypeId) ≠ T) (hT2 : (74 : TypeId) ≠ T) : RT w' p := ⟨⟨h.1.1.but hb hT, fun p hp => ⟨(h.1.2 p hp).1, (h.1.2 p hp).2.1, (h.1.2 p hp).2.2.but hb hT2⟩⟩, h.2⟩
theorem PT.but {p : Pp} (h : PT w p) (hb : ButT T w w') (h1 : (9 : TypeId) ≠ T) (h2 : (77 : TypeId) ≠ T) (h3 : (74 : TypeId) ≠ T) (h4 : (67 : TypeId) ≠ T) (h5 : (69 : TypeId) ≠ T) : PT w' p :=
  ⟨h.v.but hb h4, fun x hx => (h.vs x hx).but hb h1, h.vc, h.s.but hb h5, fun x hx => (h.ss x hx).but hb h2 h3, h.sc⟩
theorem QT.but {p : Pq} (h : QT w p) (hb : ButT T w w') (hT : (3 : TypeId) ≠ T) : QT w' p := ⟨h.1.but hb hT, h.2⟩
theorem VT.below {p : Pv} (h : VT w p) (hb : Below w.heap.size w w') : VT w' p := ⟨h.1.below hb, h.2⟩
theorem RT.below {p : Rs} (h : RT w p) (hb : Below w.heap.size w w') : RT w' p := h.but (T := 67) (.below hb) (by decide) (by decide)
theorem PT.below {p : Pp} (h : PT w p) (hb : Below w.heap.size w w') : PT w' p := h.but (T := 49) (.below hb) (by decide) (by decide) (by decide) (by decide) (by decide)
theorem QT.below {p : Pq} (h : QT w p) (hb : Below w.heap.size w w') : QT w' p := ⟨h.1.below hb, h.2⟩

/-- rows of the call's own, of things that lie in blocks of their types -/
def VO (w : World) (B : Nat) (v : Value) (l : List Vr) : Prop := ∃ ps : List Pv, ps.map Pv.d = l ∧ eV.Own w B v ps ∧ ∀ p ∈ ps, VT w p
def RO (w : World) (B : Nat) (v : Value) (l : List (List Sp)) : Prop := ∃ rs : List Rs, rs.map Rs.d = l ∧ eR.Own w B v rs ∧ ∀ r ∈ rs, RT w r
def PO (w : World) (B : Nat) (v : Value) (l : List Plc) : Prop := ∃ ps : List Pp, ps.map Pp.d = l ∧ eL.Own w B v ps ∧ ∀ p ∈ ps, PT w p
def QO (w : World) (B : Nat) (v : Value) (l : List Pnt) : Prop := ∃ ps : List Pq, ps.map Pq.d = l ∧ eQ.Own w B v ps ∧ ∀ p ∈ ps, QT w p
theorem VO.nil (w : World) (B : Nat) : VO w B (.slice none 0 0) [] := ⟨[], rfl, El.Own.nil _ _, fun p hp => absurd hp (by simp)⟩
theorem RO.nil (w : World) (B : Nat) : RO w B (.slice none 0 0) [] := ⟨[], rfl, El.Own.nil _ _, fun p hp => absurd hp (by simp)⟩
theorem PO.nil (w : World) (B : Nat) : PO w B (.slice none 0 0) [] := ⟨[], rfl, El.Own.nil _ _, fun p hp => absurd hp (by simp)⟩
theorem QO.nil (w : World) (B : Nat) : QO w B (.slice none 0 0) [] := ⟨[], rfl, El.Own.nil _ _, fun p hp => absurd hp (by simp)⟩
theorem VO.below {v : Value} {l : List Vr} (h : VO w B v l) (hb : Below w.heap.size w w') : VO w' B v l := by
  obtain ⟨ps, e, ho, hm⟩ := h
  exact ⟨ps, e, ho.below hb, fun p hp => (hm p hp).below hb⟩
theorem RO.below {v : Value} {l : List (List Sp)} (h : RO w B v l) (hb : Below w.heap.size w w') : RO w' B v l := by
  obtain ⟨ps, e, ho, hm⟩ := h
  exact ⟨ps, e, ho.below hb, fun p hp => (hm p hp).below hb⟩
theorem PO.below {v : Value} {l : List Plc} (h : PO w B v l) (hb : Below w.heap.size w w') : PO w' B v l := by
  obtain ⟨ps, e, ho, hm⟩ := h
  exact ⟨ps, e, ho.below hb, fun p hp => (hm p hp).below hb⟩
theorem QO.below {v : Value} {l : List Pnt} (h : QO w B v l) (hb : Below w.heap.size w w') : QO w' B v l := by
  obtain ⟨ps, e, ho, hm⟩ := h
  exact ⟨ps, e, ho.below hb, fun p hp => (hm p hp).below hb⟩
theorem VO.base {v : Value} {l : List Vr} (h : VO w B v l) (hB : B' ≤ B) : VO w B' v l := by
  obtain ⟨ps, e, ho, hm⟩ := h
  exact ⟨ps, e, ho.base hB, hm⟩
theorem RO.base {v : Value} {l : List (List Sp)} (h : RO w B v l) (hB : B' ≤ B) : RO w B' v l := by
  obtain ⟨ps, e, ho, hm⟩ := h
  exact ⟨ps, e, ho.base hB, hm⟩
theorem PO.base {v : Value} {l : List Plc} (h : PO w B v l) (hB : B' ≤ B) : PO w B' v l := by
  obtain ⟨ps, e, ho, hm⟩ := h
  exact ⟨ps, e, ho.base hB, hm⟩
theorem QO.base {v : Value} {l : List Pnt} (h : QO w B v l) (hB : B' ≤ B) : QO w B' v l := by
  obtain ⟨ps, e, ho, hm⟩ := h
  exact ⟨ps, e, ho.base hB, hm⟩
theorem PO.form {v : Value} {l : List Plc} (h : PO w B v l) : ∃ A c ps, v = .slice A ps.length c ∧ ps.map Pp.d = l ∧ ps.length ≤ c ∧ (A = none → c = 0) ∧ TL w w.heap.size A ps := by
  obtain ⟨ps, e, ho, hm⟩ := h
  obtain ⟨A, c, e1, h1, h2, h3⟩ := ho.form
  exact ⟨A, c, ps, e1, e, h1, h2, h3.lies, fun p hp => (hm p hp).pl⟩
theorem QO.form {v : Value} {l : List Pnt} (h : QO w B v l) : ∃ A c ps, v = .slice A ps.length c ∧ ps.map Pq.d = l ∧ ps.length ≤ c ∧ (A = none → c = 0) ∧ UL w w.heap.size A ps := by
  obtain ⟨ps, e, ho, hm⟩ := h
  obtain ⟨A, c, e1, h1, h2, h3⟩ := ho.form
  exact ⟨A, c, ps, e1, e, h1, h2, h3.lies, fun p hp => (hm p hp).ql⟩
theorem rt_of_own {v : Value} {l : List Sp} (h : SpOwn w B v l) : ∃ r : Rs, v = rV r ∧ r.d = l ∧ RT w r := by
  obtain ⟨ps, e, ho, hm⟩ := h
  have ho' : ePs.Own w B v ps := ho
  obtain ⟨A, c, rfl, h1, h2, h3⟩ := ho'.form
  refine ⟨⟨ps, A, c⟩, rfl, e, ⟨h3, fun p hp => ?_⟩, h1, h2⟩
  have hq : eLc.Own w B (.slice p.A p.a.length p.c) p.a := hm p hp
  obtain ⟨A2, c2, q, k1, k2, k3⟩ := hq.form
  injection q with q1 _ q3
  unfold MnT
  rw [q1, q3]
  exact ⟨k1, k2, k3⟩
end
end Go.Proofs.YtbkfkdiadeaooaaGreat
