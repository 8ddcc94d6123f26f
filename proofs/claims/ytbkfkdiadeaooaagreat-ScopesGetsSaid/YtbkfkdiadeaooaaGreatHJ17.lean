/-
  Merged for a claim: S9R, S9T.
-/
import Derived.Test.YtbkfkdiadeaooaaGreatHJ16
import Derived.Test.YtbkfkdiadeaooaaGreatHS9C
namespace Go.Proofs.YtbkfkdiadeaooaaGreat
open Go Go.RowKit

def oxX (b : List UInt8) (s : RS) : Int := if s.no = true then 0 else if stV b.length s.at_ 1 = 0 then oneX b s.at_ else 0
def oxS (b : List UInt8) (s : RS) : RS := if s.no = true then s else tkS (stV b.length s.at_ 1) (oneN b s.at_) s.at_
theorem takeOne_any (gr : Nat) (A : Option Addr) (c : Nat) (b : List UInt8) (s : RS) (w : World) (hc : b.length ≤ c) (hbn : b.length ≤ 1099511627776) (hl : Lies w gr A b) (hr : RdAt w gr A c b s) :
    Calls Tryz.prog 60 #[.pointer (some ⟨gr, 0, none⟩), .func (.func 61) #[] #[]] w (TkR w gr A c b (.int .u8 (oxX b s)) (oxS b s)) := by
  obtain ⟨at_, no⟩ := s
  cases no
  · have ht := takeB_any gr A c b at_ w hc hbn hl hr
    have e : (if stV b.length at_ 1 = 0 then (.int .u8 (oneX b at_) : Value) else .int .u8 0) = .int .u8 (oxX b ⟨at_, false⟩) := by
      unfold oxX
      dsimp only
      rw [if_neg (show ¬ (false = true) by decide)]
      split <;> rfl
    rw [e] at ht
    unfold oxS
    dsimp only
    rw [if_neg (show ¬ (false = true) by decide)]
    exact ht
  · exact takeB_no gr A c b at_ _ w hr

/-- a variable's reading -/
def vaX (b : List UInt8) (s : RS) : Vr × RS :=
  if oxX b (txT b s) = 3 then (⟨txX b s, 3, nmX b (oxS b (txT b s)), [], nmX b (oxS b (txT b s)), []⟩, nmS b (oxS b (txT b s)))
  else if oxX b (txT b s) = 4 then (⟨txX b s, 4, 0, txX b (oxS b (txT b s)), (lsP b 8 (tx9 b) (txT b (oxS b (txT b s)), ())).1.length, (lsP b 8 (tx9 b) (txT b (oxS b (txT b s)), ())).1⟩, (lsP b 8 (tx9 b) (txT b (oxS b (txT b s)), ())).2.1)
  else (⟨txX b s, oxX b (txT b s), 0, [], 1, []⟩, oxS b (txT b s))
/-- a world on the way: the reader, what was turned, the variable in the making, the one that is to be answered -/
structure VarW (gr B : Nat) (A : Option Addr) (c : Nat) (b : List UInt8) (s : RS) (w W : World) (g2 g3 : Nat) (k : List Value) : Prop where
  i : InvB gr B A c b (s, ()) W
  o : OnlyS Sr w W
  l : Below B w W
  c3 : CAt W g3 67 k
  c2 : CAt W g2 67 [.string ⟨#[]⟩, .int .u8 0, .int .i64 0, .string ⟨#[]⟩, .int .i64 0, .slice none 0 0]
  n : w.heap.size ≤ g2 ∧ g2 < g3 ∧ gr < w.heap.size ∧ B ≤ gr
section
variable {gr B : Nat} {A : Option Addr} {c : Nat} {b : List UInt8} {s s' : RS} {w W w' : World} {g2 g3 : Nat} {k : List Value}
theorem VarW.after (h : VarW gr B A c b s w W g2 g3 k) (hi : InvB gr B A c b (s', ()) w') (ho : OnlyS Sr W w') (hb : Below B W w') : VarW gr B A c b s' w w' g2 g3 k :=
  ⟨hi, h.o.trans ho, h.l.trans hb, (ho g3 _ ⟨_, _, h.c3⟩ (by unfold Sr; decide)).trans h.c3, (ho g2 _ ⟨_, _, h.c2⟩ (by unfold Sr; decide)).trans h.c2, h.n⟩
theorem VarW.read (h : VarW gr B A c b s w W g2 g3 k) (hr : RdAt w' gr A c b s') (hg : W.grownBy w' (some gr)) : VarW gr B A c b s' w w' g2 g3 k := by
  have := h.l.size
  have := h.n
  exact h.after ⟨hr, h.i.2.below (below_gr hg this.2.2.2 (by omega))⟩ (OnlyS.grown hg h.i.1.has rfl) (below_gr hg this.2.2.2 (by omega))
theorem VarW.set (h : VarW gr B A c b s w W g2 g3 k) (j : Nat) (v : Value) : VarW gr B A c b s w (W.setCell ⟨g3, j, none⟩ v) g2 g3 (k.set j v) := by
  have := h.n
  exact ⟨h.i.set (by dsimp only; omega) this.2.2.2 v, h.o.set (by dsimp only; omega) v, h.l.setCell (by dsimp only; omega) v, h.c3.set j v, h.c2.other (by dsimp only; omega) v, h.n⟩
theorem VarW.num (h : VarW gr B A c b s w W g2 g3 k) (hc : b.length ≤ c) (hbn : b.length ≤ 1099511627776) :
    Calls Tryz.prog 33 #[.pointer (some ⟨gr, 0, none⟩)] W (fun e w' => e = .returned (.int .i64 (nmX b s)) ∧ VarW gr B A c b (nmS b s) w w' g2 g3 k) :=
  (number_any gr A c b s W hc hbn (h.i.2.more h.n.2.2.2) h.i.1).mono fun _ _ ⟨he, hr, hg⟩ => ⟨he, h.read hr hg⟩
theorem VarW.txt (h : VarW gr B A c b s w W g2 g3 k) (hc : b.length ≤ c) (hbn : b.length ≤ 1099511627776) :
    Calls Tryz.prog 34 #[.pointer (some ⟨gr, 0, none⟩)] W (fun e w' => e = .returned (.string (str (txX b s))) ∧ VarW gr B A c b (txT b s) w w' g2 g3 k) :=
  (text9_any gr A c b s W hc hbn (h.i.2.more h.n.2.2.2) h.i.1).mono fun _ _ ⟨he, hr, hg⟩ => ⟨he, h.read hr hg⟩
theorem VarW.one (h : VarW gr B A c b s w W g2 g3 k) (hc : b.length ≤ c) (hbn : b.length ≤ 1099511627776) :
    Calls Tryz.prog 60 #[.pointer (some ⟨gr, 0, none⟩), .func (.func 61) #[] #[]] W (fun e w' => e = .returned (.int .u8 (oxX b s)) ∧ VarW gr B A c b (oxS b s) w w' g2 g3 k) :=
  (takeOne_any gr A c b s W hc hbn (h.i.2.more h.n.2.2.2) h.i.1).mono fun _ _ ⟨he, hr, hg⟩ => ⟨he, h.read hr hg⟩
theorem VarW.list (h : VarW gr B A c b s w W g2 g3 k) (hc : b.length ≤ c) (hbn : b.length ≤ 1099511627776) :
    Calls Tryz.prog 62 #[.pointer (some ⟨gr, 0, none⟩), .int .i64 8, .func (.func 34) #[.pointer (some ⟨gr, 0, none⟩)] #[]] W
      (fun e w' => ∃ (xs : List (List UInt8)) (A6 : Option Addr) (c6 : Nat), e = .returned (.slice A6 xs.length c6) ∧ xs = (lsP b 8 (tx9 b) (s, ())).1 ∧ (eS.LiesT w' A6 xs ∧ xs.length ≤ c6 ∧ (A6 = none → c6 = 0)) ∧ VarW gr B A c b (lsP b 8 (tx9 b) (s, ())).2.1 w w' g2 g3 k) := by
  have hn := h.n
  have hz := h.l.size
  refine (listS_any (fun _ _ => True) (fun x => x) Sr gr B A c b (InvB gr B A c b) (tx9 b) (fun _ => 0) 34 #[.pointer (some ⟨gr, 0, none⟩)] #[] 8 (s, ()) W hc hbn (h.i.2.more hn.2.2.2) (by omega) (oneTxt (by omega) hc hbn hn.2.2.2) h.i (by omega) rfl).mono ?_
  rintro e w' ⟨v, xs, rfl, hx, ho, _, hi, hO, hB⟩
  rw [List.map_id'] at hx
  obtain ⟨A6, c6, rfl, hl6, hc6, hT6⟩ := ho.form
  exact ⟨xs, A6, c6, rfl, hx, ⟨hT6, hl6, hc6⟩, h.after hi hO hB⟩
theorem VarW.words (h : VarW gr B A c b s w W g2 g3 k) (p : Pv) (x : Int) (hx : wordsV p.d = x) : Calls Tryz.prog 63 #[.agg (vK p)] W (fun e w' => e = .returned (.int .i64 x) ∧ Below W.heap.size W w' ∧ VarW gr B A c b s w w' g2 g3 k) :=
  (words_any p W).mono fun _ _ ⟨he, hb⟩ => ⟨by rw [he, hx], hb, h.after ⟨h.i.1.below hb h.i.1.lt, h.i.2.below (hb.mono (by have := h.l.size; have := h.n; omega))⟩ (OnlyS.below hb) (hb.mono (by have := h.l.size; have := h.n; omega))⟩
end
theorem va_size : (Tryz.prog.info? 67).map (·.size) = some 6 := by kernel_rfl
theorem va_back {fn : Func} {p : Tmp} (h : fn.results = #[.cell p 67]) {tmps : Array Value} {w : World} {g : Nat} (hp : tmps.getD p undef = .pointer (some ⟨g, 0, none⟩))
    {x0 x1 x2 x3 x4 x5 : Value} (hg : CAt w g 67 [x0, x1, x2, x3, x4, x5]) : (results fn tmps).run Tryz.prog w = .ok (.agg #[x0, x1, x2, x3, x4, x5]) w :=
  results_cell_row h tmps w g _ _ _ _ hp hg Tryz.underlying67 rfl va_size
def VaR (gr B : Nat) (A : Option Addr) (c : Nat) (b : List UInt8) (x : Vr × RS) (w : World) (e : Ending) (w' : World) : Prop :=
  ∃ p : Pv, e = .returned (.agg (vK p)) ∧ p.d = x.1 ∧ VT w' p ∧ InvB gr B A c b (x.2, ()) w' ∧ OnlyS Sr w w' ∧ Below B w w'
/-- what is answered -/
theorem VarW.back {gr B : Nat} {A : Option Addr} {c : Nat} {b : List UInt8} {s : RS} {w W : World} {g2 g3 : Nat} {k : List Value} (h : VarW gr B A c b s w W g2 g3 k) (p : Pv) (hp : VT W p) (x : Vr × RS) (hx : p.d = x.1) (hs : s = x.2) (u0 u1 u2 u3 u4 u5 : Value) :
    VaR gr B A c b x w (.returned (.agg (vK p))) ((((((W.setCell ⟨g2, 0, none⟩ u0).setCell ⟨g2, 1, none⟩ u1).setCell ⟨g2, 2, none⟩ u2).setCell ⟨g2, 3, none⟩ u3).setCell ⟨g2, 4, none⟩ u4).setCell ⟨g2, 5, none⟩ u5) := by
  have hn := h.n
  have h1 : gr < g2 := by omega
  have h2 := hn.2.2.2
  have h3 : B ≤ g2 := by omega
  have t : HasT W g2 67 := ⟨_, _, h.c2⟩
  have hq := (((((ButT.set (p := ⟨g2, 0, none⟩) t u0).trans (ButT.set (p := ⟨g2, 1, none⟩) (t.set _ _) u1)).trans (ButT.set (p := ⟨g2, 2, none⟩) ((t.set _ _).set _ _) u2)).trans (ButT.set (p := ⟨g2, 3, none⟩) (((t.set _ _).set _ _).set _ _) u3)).trans (ButT.set (p := ⟨g2, 4, none⟩) ((((t.set _ _).set _ _).set _ _).set _ _) u4)).trans (ButT.set (p := ⟨g2, 5, none⟩) (((((t.set _ _).set _ _).set _ _).set _ _).set _ _) u5)
  subst hs
  exact ⟨p, rfl, hx, hp.but hq (by decide), (((((h.i.set h1 h2 _).set h1 h2 _).set h1 h2 _).set h1 h2 _).set h1 h2 _).set h1 h2 _, (((((h.o.set hn.1 _).set hn.1 _).set hn.1 _).set hn.1 _).set hn.1 _).set hn.1 _, (((((h.l.setCell h3 _).setCell h3 _).setCell h3 _).setCell h3 _).setCell h3 _).setCell h3 _⟩

set_option maxRecDepth 100000 in
set_option maxHeartbeats 8000000 in
theorem variable_any (gr B : Nat) (A : Option Addr) (c : Nat) (b : List UInt8) (s : RS) (w : World) (hc : b.length ≤ c) (hbn : b.length ≤ 1099511627776) (hB : B ≤ gr) (hi : InvB gr B A c b (s, ()) w) :
    Calls Tryz.prog 37 #[.pointer (some ⟨gr, 0, none⟩)] w (VaR gr B A c b (vaX b s) w) := by
  have hgr := hi.1.lt
  have hz : B ≤ w.heap.size := by omega
  have hb0 := below_lnew w (.cells #[.string ⟨#[]⟩, .int .u8 0, .int .i64 0, .string ⟨#[]⟩, .int .i64 0, .slice none 0 0] 67)
  have HI0 := Lib.hid (show InvB gr B A c b (s, ()) _ from ⟨hi.1.below hb0 hgr, hi.2.below (hb0.mono hz)⟩)
  have HO0 := Lib.hid (OnlyS.below (S := Sr) hb0)
  have HB0 := Lib.hid (hb0.mono hz)
  have HN1 := Lib.hid (text9_any gr A c b s _ hc hbn (HI0.out.2.more hB) HI0.out.1)
  have c0 := heap_alloc_new w (.cells #[.string ⟨#[]⟩, .int .u8 0, .int .i64 0, .string ⟨#[]⟩, .int .i64 0, .slice none 0 0] 67)
  have HZ0 := Lib.hid (show w.heap.size + 1 ≤ (w.alloc (.cells #[.string ⟨#[]⟩, .int .u8 0, .int .i64 0, .string ⟨#[]⟩, .int .i64 0, .slice none 0 0] 67)).heap.size by simp)
  have HZ := Lib.hid hz
  obtain ⟨r, hr⟩ : ∃ r, vaX b s = r := ⟨_, rfl⟩
  rw [hr]
  unfold vaX at hr
  have HR := Lib.hid hr.symm
  clear hi hb0 hz hr
  go_enter Tryz.func37, Tryz.ntmps37
  go_wp2_with fail
  refine HN1.out.mono ?_
  rintro e w2 ⟨rfl, hr2, hg2⟩
  have hz0 : B ≤ (w.alloc (.cells #[.string ⟨#[]⟩, .int .u8 0, .int .i64 0, .string ⟨#[]⟩, .int .i64 0, .slice none 0 0] 67)).heap.size := Nat.le_trans HZ.out (Nat.le_of_lt HZ0.out)
  have hb2 := below_gr hg2 hB hz0
  have HI2 := Lib.hid (show InvB gr B A c b (txT b s, ()) w2 from ⟨hr2, HI0.out.2.below hb2⟩)
  have HO2 := Lib.hid (HO0.out.trans (OnlyS.grown (S := Sr) hg2 HI0.out.1.has rfl))
  have HB2 := Lib.hid (HB0.out.trans hb2)
  have d0 := (hg2.block w.heap.size (by simp) (fun q => by injection q with q; omega)).trans c0
  have HZ2 := Lib.hid (Nat.le_trans HZ0.out hg2.size)
  generalize txX b s = nm at *
  generalize txT b s = s1 at *
  have HV0 := Lib.hid (show VarW gr B A c b s1 w (w2.alloc (.cells #[.string (str nm), .int .u8 0, .int .i64 0, .string ⟨#[]⟩, .int .i64 0, .slice none 0 0] 67)) w.heap.size w2.heap.size [.string (str nm), .int .u8 0, .int .i64 0, .string ⟨#[]⟩, .int .i64 0, .slice none 0 0] from by
    have hb := below_lnew w2 (.cells #[.string (str nm), .int .u8 0, .int .i64 0, .string ⟨#[]⟩, .int .i64 0, .slice none 0 0] 67)
    have hzz : B ≤ w2.heap.size := Nat.le_trans HZ.out (Nat.le_of_lt HZ2.out)
    exact ⟨⟨HI2.out.1.below hb HI2.out.1.lt, HI2.out.2.below (hb.mono hzz)⟩, HO2.out.trans (OnlyS.below hb), HB2.out.trans (hb.mono hzz), heap_alloc_new w2 _, (hb.block w.heap.size HZ2.out).trans d0, Nat.le_refl _, HZ2.out, hgr, hB⟩)
  have HN2 := Lib.hid (HV0.out.one hc hbn)
  have HG := Lib.hid HZ2.out
  clear hr2 hg2 hb2 HI0 HO0 HB0 HN1 hz0 c0 d0 HI2 HO2 HB2 HZ0 HZ2 HV0
  obtain ⟨g3, hg3⟩ : ∃ x, x = w2.heap.size := ⟨_, rfl⟩
  go_wp2_with fail
  refine HN2.out.mono ?_
  rintro e w3 ⟨rfl, hv3⟩
  generalize oxX b s1 = kd at *
  generalize oxS b s1 = s2 at *
  have HV3 := Lib.hid hv3
  clear hv3 HN2
  have y0 := HV3.out.c3.cell (j := 0) (by simp)
  have yf0 := HV3.out.c3.frozen 0
  have y1 := HV3.out.c3.cell (j := 1) (by simp)
  have yf1 := HV3.out.c3.frozen 1
  have y2 := HV3.out.c3.cell (j := 2) (by simp)
  have yf2 := HV3.out.c3.frozen 2
  have y3 := HV3.out.c3.cell (j := 3) (by simp)
  have yf3 := HV3.out.c3.frozen 3
  have y4 := HV3.out.c3.cell (j := 4) (by simp)
  have yf4 := HV3.out.c3.frozen 4
  have y5 := HV3.out.c3.cell (j := 5) (by simp)
  have yf5 := HV3.out.c3.frozen 5
  simp only [List.getElem_cons_zero, List.getElem_cons_succ] at y0 y1 y2 y3 y4 y5
  by_cases h3 : kd = 3
  · have HR3 := Lib.hid (show r = _ from by rw [HR.out, if_pos h3])
    clear HR
    subst h3
    have HV4 := Lib.hid (HV3.out.set 1 (.int .u8 3))
    have HN4 := Lib.hid (HV4.out.num hc hbn)
    go_wp2_with fail
    refine HN4.out.mono ?_
    rintro e w5 ⟨rfl, hv5⟩
    generalize nmX b s2 = n at *
    generalize nmS b s2 = s3 at *
    have HV5 := Lib.hid hv5
    clear y0 yf0 y1 yf1 y2 yf2 y3 yf3 y4 yf4 y5 yf5 
    clear hv5 HN4 HV4 HV3
    have y0 := HV5.out.c3.cell (j := 0) (by simp)
    have yf0 := HV5.out.c3.frozen 0
    have y1 := HV5.out.c3.cell (j := 1) (by simp)
    have yf1 := HV5.out.c3.frozen 1
    have y2 := HV5.out.c3.cell (j := 2) (by simp)
    have yf2 := HV5.out.c3.frozen 2
    have y3 := HV5.out.c3.cell (j := 3) (by simp)
    have yf3 := HV5.out.c3.frozen 3
    have y4 := HV5.out.c3.cell (j := 4) (by simp)
    have yf4 := HV5.out.c3.frozen 4
    have y5 := HV5.out.c3.cell (j := 5) (by simp)
    have yf5 := HV5.out.c3.frozen 5
    simp only [List.set_cons_zero, List.set_cons_succ, List.getElem_cons_zero, List.getElem_cons_succ] at y0 y1 y2 y3 y4 y5
    have HV8 := Lib.hid (HV5.out.set 2 (.int .i64 n))
    have HN8 := Lib.hid (HV8.out.words ⟨⟨nm, 3, n, [], 0, []⟩, none, 0⟩ n rfl)
    unfold vK at HN8
    go_wp2_with fail
    refine HN8.out.mono ?_
    rintro e w8 ⟨rfl, hb8, hv8⟩
    have HV9 := Lib.hid hv8
    have HB8 := Lib.hid hb8
    clear y0 yf0 y1 yf1 y2 yf2 y3 yf3 y4 yf4 y5 yf5 hb8 hv8 HN8
    have y0 := HV9.out.c3.cell (j := 0) (by simp)
    have yf0 := HV9.out.c3.frozen 0
    have y1 := HV9.out.c3.cell (j := 1) (by simp)
    have yf1 := HV9.out.c3.frozen 1
    have y2 := HV9.out.c3.cell (j := 2) (by simp)
    have yf2 := HV9.out.c3.frozen 2
    have y3 := HV9.out.c3.cell (j := 3) (by simp)
    have yf3 := HV9.out.c3.frozen 3
    have y4 := HV9.out.c3.cell (j := 4) (by simp)
    have yf4 := HV9.out.c3.frozen 4
    have y5 := HV9.out.c3.cell (j := 5) (by simp)
    have yf5 := HV9.out.c3.frozen 5
    have z0 := HV9.out.c2.cell (j := 0) (by simp)
    have zf0 := HV9.out.c2.frozen 0
    have z1 := HV9.out.c2.cell (j := 1) (by simp)
    have zf1 := HV9.out.c2.frozen 1
    have z2 := HV9.out.c2.cell (j := 2) (by simp)
    have zf2 := HV9.out.c2.frozen 2
    have z3 := HV9.out.c2.cell (j := 3) (by simp)
    have zf3 := HV9.out.c2.frozen 3
    have z4 := HV9.out.c2.cell (j := 4) (by simp)
    have zf4 := HV9.out.c2.frozen 4
    have z5 := HV9.out.c2.cell (j := 5) (by simp)
    have zf5 := HV9.out.c2.frozen 5
    have hne := HV9.out.n.2.1
    simp only [List.set_cons_zero, List.set_cons_succ, List.getElem_cons_zero, List.getElem_cons_succ] at y0 y1 y2 y3 y4 y5 z0 z1 z2 z3 z4 z5
    go_wp2_with fail
    have hva := HV9.out.set 4 (.int .i64 n)
    refine bodyPost_ret (va_back rfl rfl ((((((hva.c2.set 0 _).set 1 _).set 2 _).set 3 _).set 4 _).set 5 _)) rfl ?_
    exact hva.back ⟨⟨nm, 3, n, [], n, []⟩, none, 0⟩ ⟨El.LiesT.nil _ _, Nat.le_refl _, fun _ => rfl⟩ r (by rw [HR3.out]) (by rw [HR3.out]) _ _ _ _ _ _
  · by_cases h4 : kd = 4
    · have HR3 := Lib.hid (show r = _ from by rw [HR.out, if_neg h3, if_pos h4])
      clear HR
      subst h4
      have HV4 := Lib.hid (HV3.out.set 1 (.int .u8 4))
      have HN4 := Lib.hid (HV4.out.txt hc hbn)
      go_wp2_with fail
      refine HN4.out.mono ?_
      rintro e w5 ⟨rfl, hv5⟩
      generalize txX b s2 = tn at *
      generalize txT b s2 = s3 at *
      have HV5 := Lib.hid hv5
      clear y0 yf0 y1 yf1 y2 yf2 y3 yf3 y4 yf4 y5 yf5 
      clear hv5 HN4 HV4 HV3
      have y0 := HV5.out.c3.cell (j := 0) (by simp)
      have yf0 := HV5.out.c3.frozen 0
      have y1 := HV5.out.c3.cell (j := 1) (by simp)
      have yf1 := HV5.out.c3.frozen 1
      have y2 := HV5.out.c3.cell (j := 2) (by simp)
      have yf2 := HV5.out.c3.frozen 2
      have y3 := HV5.out.c3.cell (j := 3) (by simp)
      have yf3 := HV5.out.c3.frozen 3
      have y4 := HV5.out.c3.cell (j := 4) (by simp)
      have yf4 := HV5.out.c3.frozen 4
      have y5 := HV5.out.c3.cell (j := 5) (by simp)
      have yf5 := HV5.out.c3.frozen 5
      simp only [List.set_cons_zero, List.set_cons_succ, List.getElem_cons_zero, List.getElem_cons_succ] at y0 y1 y2 y3 y4 y5
      have HV6 := Lib.hid (HV5.out.set 3 (.string (str tn)))
      have HN6 := Lib.hid (HV6.out.list hc hbn)
      go_wp2_with fail
      refine HN6.out.mono ?_
      rintro e w6 ⟨xs, A6, c6, rfl, hx, hT6, hv6⟩
      rw [← hx] at HR3
      generalize (lsP b 8 (tx9 b) (s3, ())).2.1 = s4 at *
      have HT6 := Lib.hid hT6
      have HV7 := Lib.hid hv6
      clear y0 yf0 y1 yf1 y2 yf2 y3 yf3 y4 yf4 y5 yf5 
      clear hv6 HN6 HV6 HV5 hx hT6
      have y0 := HV7.out.c3.cell (j := 0) (by simp)
      have yf0 := HV7.out.c3.frozen 0
      have y1 := HV7.out.c3.cell (j := 1) (by simp)
      have yf1 := HV7.out.c3.frozen 1
      have y2 := HV7.out.c3.cell (j := 2) (by simp)
      have yf2 := HV7.out.c3.frozen 2
      have y3 := HV7.out.c3.cell (j := 3) (by simp)
      have yf3 := HV7.out.c3.frozen 3
      have y4 := HV7.out.c3.cell (j := 4) (by simp)
      have yf4 := HV7.out.c3.frozen 4
      have y5 := HV7.out.c3.cell (j := 5) (by simp)
      have yf5 := HV7.out.c3.frozen 5
      simp only [List.set_cons_zero, List.set_cons_succ, List.getElem_cons_zero, List.getElem_cons_succ] at y0 y1 y2 y3 y4 y5
      have HV8 := Lib.hid (HV7.out.set 5 (.slice A6 xs.length c6))
      have HN8 := Lib.hid (HV8.out.words ⟨⟨nm, 4, 0, tn, 0, xs⟩, A6, c6⟩ xs.length rfl)
      unfold vK at HN8
      go_wp2_with fail
      refine HN8.out.mono ?_
      rintro e w8 ⟨rfl, hb8, hv8⟩
      have HV9 := Lib.hid hv8
      have HB8 := Lib.hid hb8
      clear y0 yf0 y1 yf1 y2 yf2 y3 yf3 y4 yf4 y5 yf5 hb8 hv8 HN8
      have y0 := HV9.out.c3.cell (j := 0) (by simp)
      have yf0 := HV9.out.c3.frozen 0
      have y1 := HV9.out.c3.cell (j := 1) (by simp)
      have yf1 := HV9.out.c3.frozen 1
      have y2 := HV9.out.c3.cell (j := 2) (by simp)
      have yf2 := HV9.out.c3.frozen 2
      have y3 := HV9.out.c3.cell (j := 3) (by simp)
      have yf3 := HV9.out.c3.frozen 3
      have y4 := HV9.out.c3.cell (j := 4) (by simp)
      have yf4 := HV9.out.c3.frozen 4
      have y5 := HV9.out.c3.cell (j := 5) (by simp)
      have yf5 := HV9.out.c3.frozen 5
      have z0 := HV9.out.c2.cell (j := 0) (by simp)
      have zf0 := HV9.out.c2.frozen 0
      have z1 := HV9.out.c2.cell (j := 1) (by simp)
      have zf1 := HV9.out.c2.frozen 1
      have z2 := HV9.out.c2.cell (j := 2) (by simp)
      have zf2 := HV9.out.c2.frozen 2
      have z3 := HV9.out.c2.cell (j := 3) (by simp)
      have zf3 := HV9.out.c2.frozen 3
      have z4 := HV9.out.c2.cell (j := 4) (by simp)
      have zf4 := HV9.out.c2.frozen 4
      have z5 := HV9.out.c2.cell (j := 5) (by simp)
      have zf5 := HV9.out.c2.frozen 5
      have hne := HV9.out.n.2.1
      simp only [List.set_cons_zero, List.set_cons_succ, List.getElem_cons_zero, List.getElem_cons_succ] at y0 y1 y2 y3 y4 y5 z0 z1 z2 z3 z4 z5
      go_wp2_with fail
      have hva := HV9.out.set 4 (.int .i64 xs.length)
      refine bodyPost_ret (va_back rfl rfl ((((((hva.c2.set 0 _).set 1 _).set 2 _).set 3 _).set 4 _).set 5 _)) rfl ?_
      exact hva.back ⟨⟨nm, 4, 0, tn, xs.length, xs⟩, A6, c6⟩ ⟨((HT6.out.1.but (ButT.set (p := ⟨w2.heap.size, 5, none⟩) ⟨_, _, HV7.out.c3⟩ _) (by decide)).below HB8.out).but (ButT.set (p := ⟨w2.heap.size, 4, none⟩) ⟨_, _, HV9.out.c3⟩ _) (by decide), HT6.out.2⟩ r (by rw [HR3.out]) (by rw [HR3.out]) _ _ _ _ _ _
    · have HR3 := Lib.hid (show r = _ from by rw [HR.out, if_neg h3, if_neg h4])
      clear HR
      have HV5 := Lib.hid (HV3.out.set 1 (.int .u8 kd))
      have HV8 := Lib.hid HV5.out
      have HN8 := Lib.hid (HV8.out.words ⟨⟨nm, kd, 0, [], 0, []⟩, none, 0⟩ 1 (by unfold wordsV; rw [if_neg h3, if_neg h4]))
      unfold vK at HN8
      go_wp2_with fail
      refine HN8.out.mono ?_
      rintro e w8 ⟨rfl, hb8, hv8⟩
      have HV9 := Lib.hid hv8
      have HB8 := Lib.hid hb8
      clear y0 yf0 y1 yf1 y2 yf2 y3 yf3 y4 yf4 y5 yf5 hb8 hv8 HN8
      have y0 := HV9.out.c3.cell (j := 0) (by simp)
      have yf0 := HV9.out.c3.frozen 0
      have y1 := HV9.out.c3.cell (j := 1) (by simp)
      have yf1 := HV9.out.c3.frozen 1
      have y2 := HV9.out.c3.cell (j := 2) (by simp)
      have yf2 := HV9.out.c3.frozen 2
      have y3 := HV9.out.c3.cell (j := 3) (by simp)
      have yf3 := HV9.out.c3.frozen 3
      have y4 := HV9.out.c3.cell (j := 4) (by simp)
      have yf4 := HV9.out.c3.frozen 4
      have y5 := HV9.out.c3.cell (j := 5) (by simp)
      have yf5 := HV9.out.c3.frozen 5
      have z0 := HV9.out.c2.cell (j := 0) (by simp)
      have zf0 := HV9.out.c2.frozen 0
      have z1 := HV9.out.c2.cell (j := 1) (by simp)
      have zf1 := HV9.out.c2.frozen 1
      have z2 := HV9.out.c2.cell (j := 2) (by simp)
      have zf2 := HV9.out.c2.frozen 2
      have z3 := HV9.out.c2.cell (j := 3) (by simp)
      have zf3 := HV9.out.c2.frozen 3
      have z4 := HV9.out.c2.cell (j := 4) (by simp)
      have zf4 := HV9.out.c2.frozen 4
      have z5 := HV9.out.c2.cell (j := 5) (by simp)
      have zf5 := HV9.out.c2.frozen 5
      have hne := HV9.out.n.2.1
      simp only [List.set_cons_zero, List.set_cons_succ, List.getElem_cons_zero, List.getElem_cons_succ] at y0 y1 y2 y3 y4 y5 z0 z1 z2 z3 z4 z5
      go_wp2_with fail
      have hva := HV9.out.set 4 (.int .i64 1)
      refine bodyPost_ret (va_back rfl rfl ((((((hva.c2.set 0 _).set 1 _).set 2 _).set 3 _).set 4 _).set 5 _)) rfl ?_
      exact hva.back ⟨⟨nm, kd, 0, [], 1, []⟩, none, 0⟩ ⟨El.LiesT.nil _ _, Nat.le_refl _, fun _ => rfl⟩ r (by rw [HR3.out]) (by rw [HR3.out]) _ _ _ _ _ _
end Go.Proofs.YtbkfkdiadeaooaaGreat

namespace Go.Proofs.YtbkfkdiadeaooaaGreat
open Go Go.RowKit

def spX (b : List UInt8) (s : RS) : List Sp := if s.no = true then [] else gsL b s.at_
def spS (b : List UInt8) (s : RS) : RS := if s.no = true then s else tkS (gsE b s.at_) (gsN b s.at_) s.at_
theorem spans9_any (gr : Nat) (A : Option Addr) (c : Nat) (b : List UInt8) (s : RS) (w : World) (hbn : b.length ≤ 1099511627776) (hl : Lies w gr A b) (hr : RdAt w gr A c b s) :
    Calls Tryz.prog 38 #[.pointer (some ⟨gr, 0, none⟩), .func (.func 39) #[] #[]] w (TkP w gr A c b (spX b s) (spS b s)) := by
  obtain ⟨at_, no⟩ := s
  cases no
  · exact takeP_any gr A c b at_ w hbn hl hr
  · exact takeP_no gr A c b at_ _ w hr

/-- what is turned: the reader, the place, the lists of its lists of spans -/
def Sp9 (k : TypeId) : Prop := k = 44 ∨ k = 49 ∨ k = 69
theorem OnlyS.mono {S T : TypeId → Prop} {w w' : World} (h : OnlyS S w w') (hs : ∀ k, S k → T k) : OnlyS T w w' := fun k e hk he => h k e hk (fun q => he (hs e q))
theorem OnlyS.sp {w w' : World} (h : OnlyS Sr w w') : OnlyS Sp9 w w' := h.mono fun _ q => Or.inl q
section
variable {w w' : World} {B : Nat}
theorem RT.keep {r : Rs} (h : RT w r) (hk : ∀ k e, HasT w k e → e = 77 ∨ e = 74 → w'.heap[k]? = w.heap[k]?) : RT w' r :=
  ⟨⟨h.1.1.kept fun k q => hk k _ q (.inl rfl), fun p hp => ⟨(h.1.2 p hp).1, (h.1.2 p hp).2.1, (h.1.2 p hp).2.2.kept fun k q => hk k _ q (.inr rfl)⟩⟩, h.2⟩
theorem RO.keep {v : Value} {l : List (List Sp)} (h : RO w B v l) (hk : ∀ k e, HasT w k e → e = 69 ∨ e = 77 ∨ e = 74 → w'.heap[k]? = w.heap[k]?) : RO w' B v l := by
  obtain ⟨rs, e, ho, ht⟩ := h
  exact ⟨rs, e, ho.kept fun k q => hk k _ q (.inl rfl), fun r hr => (ht r hr).keep fun k e q he => hk k e q (.inr he)⟩
theorem VT.only {S : TypeId → Prop} {p : Pv} (h : VT w p) (ho : OnlyS S w w') (hS : ¬ S 9) : VT w' p := ⟨h.1.kept fun k q => ho k _ q hS, h.2⟩
theorem HasT.ne {g g' : Nat} {e e' : TypeId} (h : HasT w g e) (h' : HasT w g' e') (he : e ≠ e') : g ≠ g' := fun q => by
  subst q
  exact he (h.one h')
theorem CAt.has {g : Nat} {e : TypeId} {cs : List Value} (h : CAt w g e cs) : HasT w g e := ⟨_, _, h⟩
end
/-- the state between two variables -/
structure PlI (w0 : World) (gr B gx gp : Nat) (A : Option Addr) (c : Nat) (b : List UInt8) (nm : List UInt8) (fr tt : Int) (s : RS) (l : List (List Sp)) (v : Value) (W : World) : Prop where
  r : RdAt W gr A c b s
  b : Lies W B A b
  x : CAt W gx 42 [.pointer (some ⟨gr, 0, none⟩)]
  p : CAt W gp 49 [.string (str nm), .int .i64 fr, .int .i64 tt, .slice none 0 0, v]
  o : RO W w0.heap.size v l
  n : B ≤ gr ∧ B ≤ gp ∧ w0.heap.size ≤ gp ∧ B ≤ w0.heap.size
  k : OnlyS Sr w0 W
section
variable {w0 : World} {gr B gx gp : Nat} {A : Option Addr} {c : Nat} {b nm : List UInt8} {fr tt : Int} {s s' : RS} {l : List (List Sp)} {v : Value} {W w' : World}
/-- what turns no more than the reader -/
theorem PlI.after (h : PlI w0 gr B gx gp A c b nm fr tt s l v W) (hr : RdAt w' gr A c b s') (ho : OnlyS Sr W w') (hb : Below B W w') : PlI w0 gr B gx gp A c b nm fr tt s' l v w' :=
  ⟨hr, h.b.below hb, (ho gx _ h.x.has (by unfold Sr; decide)).trans h.x, (ho gp _ h.p.has (by unfold Sr; decide)).trans h.p, h.o.keep fun k e hk he => ho k e hk (by unfold Sr; rcases he with rfl | rfl | rfl <;> decide), h.n, h.k.trans ho⟩
theorem PlI.read (h : PlI w0 gr B gx gp A c b nm fr tt s l v W) (hr : RdAt w' gr A c b s') (hg : W.grownBy w' (some gr)) : PlI w0 gr B gx gp A c b nm fr tt s' l v w' :=
  h.after hr (OnlyS.grown hg h.r.has rfl) (below_gr hg h.n.1 (by have := h.r.lt; have := h.n; omega))
theorem PlI.below (h : PlI w0 gr B gx gp A c b nm fr tt s l v W) (hb : Below W.heap.size W w') : PlI w0 gr B gx gp A c b nm fr tt s l v w' :=
  h.after (h.r.below hb h.r.lt) (OnlyS.below hb) (hb.mono (by have := h.r.lt; have := h.n; omega))
/-- a list of variables grew -/
theorem PlI.but (h : PlI w0 gr B gx gp A c b nm fr tt s l v W) (hb : ButT 67 W w') (hB : Below w0.heap.size W w') : PlI w0 gr B gx gp A c b nm fr tt s l v w' :=
  ⟨h.r.but hb (by decide), h.b.below (hB.mono h.n.2.2.2), (hb gx _ h.x.has (by decide)).trans h.x, (hb gp _ h.p.has (by decide)).trans h.p, h.o.keep fun k e hk he => hb k e hk (by rcases he with rfl | rfl | rfl <;> decide), h.n, fun k e hk he => (hB.block k hk.lt).trans (h.k k e hk he)⟩
end
end Go.Proofs.YtbkfkdiadeaooaaGreat
