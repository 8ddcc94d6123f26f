/-
  Merged for a claim: S9V.
-/
import Derived.Test.YtbkfkdiadeaooaaGreatHS9U
namespace Go.Proofs.YtbkfkdiadeaooaaGreat
open Go Go.RowKit

def plc9 (b : List UInt8) (s : RS × List (List Sp)) : Vr × (RS × List (List Sp)) := ((vaX b s.1).1, (spS b (vaX b s.1).2, s.2 ++ [spX b (vaX b s.1).2]))
theorem onePlc {w0 : World} {gr B gx gp G : Nat} {A : Option Addr} {c : Nat} {b nm : List UInt8} {fr tt : Int} (hG : w0.heap.size ≤ G) (hc : b.length ≤ c) (hbn : b.length ≤ 1099511627776) (hB : B ≤ gr) :
    OneP eV (fun W x => VT W x) Pv.d (fun x => .agg (vK x)) Sp9 gr B G A c b (fun s W => ∃ v, PlI w0 gr B gx gp A c b nm fr tt s.1 s.2 v W) (plc9 b) List.length 36 #[.pointer (some ⟨gx, 0, none⟩), .pointer (some ⟨gp, 0, none⟩)] where
  enter := fun a w => run_enter9 Tryz.func36 (by kernel_rfl) (by kernel_rfl) a w
  call := fun s W hi hz hs => by
    obtain ⟨v, hi⟩ := hi
    exact (inplace_any w0 gr B gx gp A c b nm fr tt s.1 s.2 v W hc hbn hs hi).mono fun e w' ⟨x, v', he, hx, ht, hp, ho, hb⟩ => ⟨x, he, hx, ht, ⟨v', hp⟩, ho, hb⟩
  but := fun _ _ _ ⟨v, hi⟩ hb hB => ⟨v, hi.but hb (hB.mono hG)⟩
  dbut := fun _ _ _ h hb => h.but hb (by decide)
  donly := fun _ _ _ h ho => h.only ho (by unfold Sp9; decide)
  rd := fun _ _ ⟨_, hi⟩ => hi.r
  upd := fun _ _ _ _ ⟨v, hi⟩ hr hg => ⟨v, hi.read hr hg⟩
  grow := fun s => by simp [plc9]
  rin := .inl rfl
  kout := by unfold Sp9; decide
  base := hB
/-- a place's reading -/
def pcX (b : List UInt8) (a : Int) (s : RS) : Plc × RS :=
  (⟨txX b s, a + nmX b (txT b s), a + nmX b (txT b s) + nmX b (nmS b (txT b s)), (lsP b 64 (plc9 b) (nmS b (nmS b (txT b s)), [])).1, (lsP b 64 (plc9 b) (nmS b (nmS b (txT b s)), [])).2.2⟩, (lsP b 64 (plc9 b) (nmS b (nmS b (txT b s)), [])).2.1)
def PlcA (gr B : Nat) (A : Option Addr) (c : Nat) (b : List UInt8) (x : Plc × RS) (w : World) (e : Ending) (w' : World) : Prop :=
  ∃ p : Pp, e = .returned (.agg (lK p)) ∧ p.d = x.1 ∧ PT w' p ∧ InvB gr B A c b (x.2, ()) w' ∧ OnlyS Sr w w' ∧ Below B w w'
/-- a world on the way -/
structure PcW (w0 : World) (gr B gp : Nat) (A : Option Addr) (c : Nat) (b : List UInt8) (s : RS) (cs : List Value) (W : World) : Prop where
  r : RdAt W gr A c b s
  b : Lies W B A b
  q : CAt W gp 49 cs
  k : OnlyS Sr w0 W
  l : Below B w0 W
  n : B ≤ gr ∧ w0.heap.size ≤ gp ∧ B ≤ w0.heap.size
section
variable {w0 : World} {gr B gp : Nat} {A : Option Addr} {c : Nat} {b : List UInt8} {s s' : RS} {cs : List Value} {W w' : World}
theorem PcW.after (h : PcW w0 gr B gp A c b s cs W) (hr : RdAt w' gr A c b s') (ho : OnlyS Sr W w') (hb : Below B W w') : PcW w0 gr B gp A c b s' cs w' :=
  ⟨hr, h.b.below hb, (ho gp _ h.q.has (by unfold Sr; decide)).trans h.q, h.k.trans ho, h.l.trans hb, h.n⟩
theorem PcW.read (h : PcW w0 gr B gp A c b s cs W) (hr : RdAt w' gr A c b s') (hg : W.grownBy w' (some gr)) : PcW w0 gr B gp A c b s' cs w' :=
  h.after hr (OnlyS.grown hg h.r.has rfl) (below_gr hg h.n.1 (by have := h.r.lt; have := h.n; omega))
theorem PcW.below (h : PcW w0 gr B gp A c b s cs W) (hb : Below W.heap.size W w') : PcW w0 gr B gp A c b s cs w' :=
  h.after (h.r.below hb h.r.lt) (OnlyS.below hb) (hb.mono (by have := h.r.lt; have := h.n; omega))
theorem PcW.set (h : PcW w0 gr B gp A c b s cs W) (j : Nat) (v : Value) : PcW w0 gr B gp A c b s (cs.set j v) (W.setCell ⟨gp, j, none⟩ v) :=
  ⟨(Below.heap_setCell W ⟨gp, j, none⟩ v gr (h.r.has.ne h.q.has (by decide))).trans h.r, h.b.below ((Below.refl B W).setCell (p := ⟨gp, j, none⟩) (by have := h.n; dsimp only; omega) v), h.q.set j v, h.k.set (p := ⟨gp, j, none⟩) h.n.2.1 v, h.l.setCell (p := ⟨gp, j, none⟩) (by have := h.n; dsimp only; omega) v, h.n⟩
theorem PcW.num (h : PcW w0 gr B gp A c b s cs W) (hc : b.length ≤ c) (hbn : b.length ≤ 1099511627776) :
    Calls Tryz.prog 33 #[.pointer (some ⟨gr, 0, none⟩)] W (fun e w' => e = .returned (.int .i64 (nmX b s)) ∧ PcW w0 gr B gp A c b (nmS b s) cs w') :=
  (number_any gr A c b s W hc hbn (h.b.more h.n.1) h.r).mono fun _ _ ⟨he, hr, hg⟩ => ⟨he, h.read hr hg⟩
theorem PcW.box (h : PcW w0 gr B gp A c b s cs W) {gx : Nat} {y : Value} (hx : CAt w0 gx 42 [y]) : W.cell? ⟨gx, 0, none⟩ = some y :=
  (show CAt W gx 42 [y] from (h.k gx _ hx.has (by unfold Sr; decide)).trans hx).cell (j := 0) (by simp)
theorem PlI.back {gr B gx gp g4 : Nat} {A : Option Addr} {c : Nat} {b nm : List UInt8} {fr tt : Int} {s : RS} {l : List (List Sp)} {v : Value} {w w0 W : World} (h : PlI w0 gr B gx gp A c b nm fr tt s l v W) (ho : OnlyS Sr w w0) (hl : Below B w W) (hw : w.heap.size ≤ w0.heap.size) (hB : B ≤ w.heap.size) (h4 : HasT W g4 49) (hg4 : w.heap.size ≤ g4) (hgr : gr < w.heap.size) (p : Pp) (hp : PT W p) (u u0 u1 u2 u3 u4 : Value) :
    PT ((((((W.setCell ⟨gp, 3, none⟩ u).setCell ⟨g4, 0, none⟩ u0).setCell ⟨g4, 1, none⟩ u1).setCell ⟨g4, 2, none⟩ u2).setCell ⟨g4, 3, none⟩ u3).setCell ⟨g4, 4, none⟩ u4) p ∧ InvB gr B A c b (s, ()) ((((((W.setCell ⟨gp, 3, none⟩ u).setCell ⟨g4, 0, none⟩ u0).setCell ⟨g4, 1, none⟩ u1).setCell ⟨g4, 2, none⟩ u2).setCell ⟨g4, 3, none⟩ u3).setCell ⟨g4, 4, none⟩ u4) ∧ OnlyS Sr w ((((((W.setCell ⟨gp, 3, none⟩ u).setCell ⟨g4, 0, none⟩ u0).setCell ⟨g4, 1, none⟩ u1).setCell ⟨g4, 2, none⟩ u2).setCell ⟨g4, 3, none⟩ u3).setCell ⟨g4, 4, none⟩ u4) ∧ Below B w ((((((W.setCell ⟨gp, 3, none⟩ u).setCell ⟨g4, 0, none⟩ u0).setCell ⟨g4, 1, none⟩ u1).setCell ⟨g4, 2, none⟩ u2).setCell ⟨g4, 3, none⟩ u3).setCell ⟨g4, 4, none⟩ u4) := by
  have hn := h.n
  have t : HasT W gp 49 := h.p.has
  have hq := (((((ButT.set (p := ⟨gp, 3, none⟩) t u).trans (ButT.set (p := ⟨g4, 0, none⟩) (h4.set _ _) u0)).trans (ButT.set (p := ⟨g4, 1, none⟩) ((h4.set _ _).set _ _) u1)).trans (ButT.set (p := ⟨g4, 2, none⟩) (((h4.set _ _).set _ _).set _ _) u2)).trans (ButT.set (p := ⟨g4, 3, none⟩) ((((h4.set _ _).set _ _).set _ _).set _ _) u3)).trans (ButT.set (p := ⟨g4, 4, none⟩) (((((h4.set _ _).set _ _).set _ _).set _ _).set _ _) u4)
  have e1 : gr < gp := by omega
  have e2 : gr < g4 := by omega
  have e3 : B ≤ g4 := by omega
  have e4 : w.heap.size ≤ gp := by omega
  have hi : InvB gr B A c b (s, ()) W := ⟨h.r, h.b⟩
  exact ⟨hp.but hq (by decide) (by decide) (by decide) (by decide) (by decide), (((((hi.set e1 hn.1 _).set e2 hn.1 _).set e2 hn.1 _).set e2 hn.1 _).set e2 hn.1 _).set e2 hn.1 _, ((((((ho.trans h.k).set e4 _).set hg4 _).set hg4 _).set hg4 _).set hg4 _).set hg4 _, (((((hl.setCell hn.2.1 _).setCell e3 _).setCell e3 _).setCell e3 _).setCell e3 _).setCell e3 _⟩
end
theorem heap9 (w : World) (o o2 : Obj) : ((w.alloc o).alloc o2).heap[w.heap.size + 1]? = some o2 := by
  have := heap_alloc_new (w.alloc o) o2
  simpa using this
theorem pc_size : (Tryz.prog.info? 49).map (·.size) = some 5 := by kernel_rfl
theorem pc_back {fn : Func} {p : Tmp} (h : fn.results = #[.cell p 49]) {tmps : Array Value} {w : World} {g : Nat} (hp : tmps.getD p undef = .pointer (some ⟨g, 0, none⟩))
    {x0 x1 x2 x3 x4 : Value} (hg : CAt w g 49 [x0, x1, x2, x3, x4]) : (results fn tmps).run Tryz.prog w = .ok (.agg #[x0, x1, x2, x3, x4]) w :=
  results_cell_row h tmps w g _ _ _ _ hp hg Tryz.underlying49 rfl pc_size

set_option maxRecDepth 100000 in
set_option maxHeartbeats 8000000 in
theorem place9_any (gr B : Nat) (A : Option Addr) (c : Nat) (b : List UInt8) (s : RS) (a : Int) (w : World) (hc : b.length ≤ c) (hbn : b.length ≤ 1099511627776) (hB : B ≤ gr) (ha : 0 ≤ a ∧ a ≤ 1125899906842624) (hi : InvB gr B A c b (s, ()) w) :
    Calls Tryz.prog 17 #[.pointer (some ⟨gr, 0, none⟩), .int .i64 a] w (PlcA gr B A c b (pcX b a s) w) := by
  have hgr := hi.1.lt
  have hz : B ≤ w.heap.size := by omega
  have hb0 := below_lnew2 w (.cells #[.pointer (some ⟨gr, 0, none⟩)] 42) (.cells #[.string ⟨#[]⟩, .int .i64 0, .int .i64 0, .slice none 0 0, .slice none 0 0] 49)
  have hx0 : CAt ((w.alloc (.cells #[.pointer (some ⟨gr, 0, none⟩)] 42)).alloc (.cells #[.string ⟨#[]⟩, .int .i64 0, .int .i64 0, .slice none 0 0, .slice none 0 0] 49)) w.heap.size 42 [.pointer (some ⟨gr, 0, none⟩)] := ((below_lnew _ _).block w.heap.size (by simp)).trans (heap_alloc_new w _)
  have h40 : CAt ((w.alloc (.cells #[.pointer (some ⟨gr, 0, none⟩)] 42)).alloc (.cells #[.string ⟨#[]⟩, .int .i64 0, .int .i64 0, .slice none 0 0, .slice none 0 0] 49)) (w.heap.size + 1) 49 [.string ⟨#[]⟩, .int .i64 0, .int .i64 0, .slice none 0 0, .slice none 0 0] := heap9 _ _ _
  have hz0 : ((w.alloc (.cells #[.pointer (some ⟨gr, 0, none⟩)] 42)).alloc (.cells #[.string ⟨#[]⟩, .int .i64 0, .int .i64 0, .slice none 0 0, .slice none 0 0] 49)).heap.size = w.heap.size + 2 := by simp
  have HX0 := Lib.hid hx0
  have H40 := Lib.hid h40
  have HZ0 := Lib.hid hz0
  have HB0 := Lib.hid hb0
  have HI0 := Lib.hid (show InvB gr B A c b (s, ()) _ from ⟨hi.1.below hb0 hgr, hi.2.below (hb0.mono hz)⟩)
  have HN1 := Lib.hid (text9_any gr A c b s _ hc hbn (HI0.out.2.more hB) HI0.out.1)
  have HZ := Lib.hid hz
  have xw := hx0.cell (j := 0) (by simp)
  simp only [List.getElem_cons_zero] at xw
  obtain ⟨r, hr⟩ : ∃ r, pcX b a s = r := ⟨_, rfl⟩
  rw [hr]
  unfold pcX at hr
  have HR := Lib.hid hr.symm
  clear hi hb0 hz hx0 h40 hz0 hr
  go_enter Tryz.func17, Tryz.ntmps17
  go_wp2_with fail
  obtain ⟨w0, hw0⟩ : ∃ w0, ((w.alloc (.cells #[.pointer (some ⟨gr, 0, none⟩)] 42)).alloc (.cells #[.string ⟨#[]⟩, .int .i64 0, .int .i64 0, .slice none 0 0, .slice none 0 0] 49)) = w0 := ⟨_, rfl⟩
  rw [hw0] at HX0 H40 HZ0 HB0 HI0 HN1 xw ⊢
  clear hw0 xw
  refine HN1.out.mono ?_
  rintro e w2 ⟨rfl, hr2, hg2⟩
  have hz0 : B ≤ w0.heap.size := by have := HZ0.out; have := HZ.out; omega
  have hb2 := below_gr hg2 hB hz0
  have hz2 := hg2.size
  generalize txX b s = nm at *
  generalize txT b s = s1 at *
  have HV := Lib.hid (show PcW w0 gr B w2.heap.size A c b s1 [.string (str nm), .int .i64 0, .int .i64 0, .slice none 0 0, .slice none 0 0] (w2.alloc (.cells #[.string (str nm), .int .i64 0, .int .i64 0, .slice none 0 0, .slice none 0 0] 49)) from by
    have hb := below_lnew w2 (.cells #[.string (str nm), .int .i64 0, .int .i64 0, .slice none 0 0, .slice none 0 0] 49)
    exact ⟨hr2.below hb hr2.lt, (HI0.out.2.below hb2).below (hb.mono (Nat.le_trans hz0 hz2)), heap_alloc_new w2 _, (OnlyS.grown (S := Sr) hg2 HI0.out.1.has rfl).trans (OnlyS.below hb), hb2.trans (hb.mono (Nat.le_trans hz0 hz2)), hB, hz2, hz0⟩)
  have HN2 := Lib.hid (HV.out.num hc hbn)
  have HZB := Lib.hid hz0
  have xv := HV.out.box HX0.out
  have y0 := HV.out.q.cell (j := 0) (by simp)
  have yf0 := HV.out.q.frozen 0
  have y1 := HV.out.q.cell (j := 1) (by simp)
  have yf1 := HV.out.q.frozen 1
  have y2 := HV.out.q.cell (j := 2) (by simp)
  have yf2 := HV.out.q.frozen 2
  have y3 := HV.out.q.cell (j := 3) (by simp)
  have yf3 := HV.out.q.frozen 3
  have y4 := HV.out.q.cell (j := 4) (by simp)
  have yf4 := HV.out.q.frozen 4
  simp only [List.getElem_cons_zero, List.getElem_cons_succ] at y0 y1 y2 y3 y4
  have hne : w.heap.size + 2 ≤ w2.heap.size := by have := HZ0.out; omega
  clear hr2 hg2 hb2 hz0 hz2 HI0 HN1
  go_wp2_with fail
  refine HN2.out.mono ?_
  rintro e w3 ⟨rfl, hv3⟩
  have hrf := nmX_rng b s1
  generalize nmX b s1 = f at *
  generalize nmS b s1 = s2 at *
  have HV3 := Lib.hid hv3
  clear y0 yf0 y1 yf1 y2 yf2 y3 yf3 y4 yf4 xv hv3 HN2 HV
  have xv := HV3.out.box HX0.out
  have y0 := HV3.out.q.cell (j := 0) (by simp)
  have yf0 := HV3.out.q.frozen 0
  have y1 := HV3.out.q.cell (j := 1) (by simp)
  have yf1 := HV3.out.q.frozen 1
  have y2 := HV3.out.q.cell (j := 2) (by simp)
  have yf2 := HV3.out.q.frozen 2
  have y3 := HV3.out.q.cell (j := 3) (by simp)
  have yf3 := HV3.out.q.frozen 3
  have y4 := HV3.out.q.cell (j := 4) (by simp)
  have yf4 := HV3.out.q.frozen 4
  simp only [List.getElem_cons_zero, List.getElem_cons_succ] at y0 y1 y2 y3 y4
  have HV4 := Lib.hid (HV3.out.set 1 (.int .i64 (a + f)))
  go_wp2_with fail
  obtain ⟨W4, hW4⟩ : ∃ W4, w3.setCell ⟨w2.heap.size, 1, none⟩ (.int .i64 (a + f)) = W4 := ⟨_, rfl⟩
  rw [hW4] at HV4 ⊢
  clear y0 yf0 y1 yf1 y2 yf2 y3 yf3 y4 yf4 xv hW4 HV3
  have xv := HV4.out.box HX0.out
  have y0 := HV4.out.q.cell (j := 0) (by simp)
  have yf0 := HV4.out.q.frozen 0
  have y1 := HV4.out.q.cell (j := 1) (by simp)
  have yf1 := HV4.out.q.frozen 1
  simp only [List.set_cons_zero, List.set_cons_succ, List.getElem_cons_zero, List.getElem_cons_succ] at y0 y1
  have HVd := Lib.hid (HV4.out.below ((Below.refl _ _).drew))
  refine wp_region_held_drew (S := fun W9 => W9.cell? ⟨w.heap.size, 0, none⟩ = some (.pointer (some ⟨gr, 0, none⟩)) ∧ W9.cell? ⟨w2.heap.size, 1, none⟩ = some (.int .i64 (a + f))) (by kernel_rfl) ⟨xv, y1⟩ (fun hHeld => ?_)
  generalize W4.drew = Wd at *
  have HC := Lib.hid (HVd.out.num hc hbn)
  clear xv y0 yf0 y1 yf1 HV4
  refine heldTake (i := 0) (d := some 14) (v := ?_) rfl rfl (by kernel_rfl) (by kernel_rfl) (by kernel_rfl) (fun _ _ _ h => h) (by kernel_rfl) ?hyq_1 (by assumption) ?restq_1
  case hyq_1 => (intro W9 hSw; (try dsimp only at hSw); go_simp; try (with_reducible rfl))
  (try simp only [Act.put, List.setIfInBounds_toArray, List.set_cons_zero, List.set_cons_succ])
  refine heldTake (i := 1) (d := some 15) (v := ?_) rfl rfl (by kernel_rfl) (by kernel_rfl) (by kernel_rfl) (fun _ _ _ h => h) (by kernel_rfl) ?hyq_2 (by assumption) ?restq_2
  case hyq_2 => (intro W9 hSw; (try dsimp only at hSw); go_simp; try (with_reducible rfl))
  (try simp only [Act.put, List.setIfInBounds_toArray, List.set_cons_zero, List.set_cons_succ])
  refine heldTake (i := 2) (d := some 16) (v := ?_) rfl rfl (by kernel_rfl) (by kernel_rfl) (by kernel_rfl) (fun _ _ _ h => h) (by kernel_rfl) ?hyq_3 (by assumption) ?restq_3
  case hyq_3 => (intro W9 hSw; (try dsimp only at hSw); go_simp; try (with_reducible rfl))
  (try simp only [Act.put, List.setIfInBounds_toArray, List.set_cons_zero, List.set_cons_succ])
  refine wpAnyH_ready (rs := [3]) (by kernel_rfl) (by simp) ?_
  refine AllReadyH.cons rfl (fun K hK => ?_) AllReadyH.nil
  go_simp
  go_at_call 33
  refine HC.out.mono ?_
  rintro e9 X ⟨rfl, hvX⟩
  have HVX := Lib.hid hvX
  have hrt := nmX_rng b s2
  generalize nmX b s2 = t at *
  generalize nmS b s2 = s3 at *
  have xX := hvX.box HX0.out
  have y0 := hvX.q.cell (j := 0) (by simp)
  have yf0 := hvX.q.frozen 0
  have y1 := hvX.q.cell (j := 1) (by simp)
  have yf1 := hvX.q.frozen 1
  have y2 := hvX.q.cell (j := 2) (by simp)
  have yf2 := hvX.q.frozen 2
  have y3 := hvX.q.cell (j := 3) (by simp)
  have yf3 := hvX.q.frozen 3
  have y4 := hvX.q.cell (j := 4) (by simp)
  have yf4 := hvX.q.frozen 4
  simp only [List.set_cons_zero, List.set_cons_succ, List.getElem_cons_zero, List.getElem_cons_succ] at y0 y1 y2 y3 y4
  clear hvX HC HVd
  go_wp2_with fail
  refine hK.out _ _ ⟨xX, y1⟩ (fun hHeld => ?_)
  clear hK K
  (try simp only [Act.put, List.setIfInBounds_toArray, List.set_cons_zero, List.set_cons_succ])
  refine heldTake (i := 4) (d := some 18) (v := ?_) rfl rfl (by kernel_rfl) (by kernel_rfl) (by kernel_rfl) (fun _ _ _ h => h) (by kernel_rfl) ?hyq_4 (by assumption) ?restq_4
  case hyq_4 => (intro W9 hSw; (try dsimp only at hSw); go_simp; try (with_reducible rfl))
  (try simp only [Act.put, List.setIfInBounds_toArray, List.set_cons_zero, List.set_cons_succ])
  have hwr : (Value.int .i64 (IntKind.i64.wrap (a + f + t))) = .int .i64 (a + f + t) := by rw [IntWalk.i64_in _ (by omega)]
  rw [hwr]
  refine heldTake (i := 5) (d := some 19) (v := ?_) rfl rfl (by kernel_rfl) (by kernel_rfl) (by kernel_rfl) (fun _ _ _ h => h) (by kernel_rfl) ?hyq_5 (by assumption) ?restq_5
  case hyq_5 => (intro W9 hSw; (try dsimp only at hSw); go_simp; try (with_reducible rfl))
  (try simp only [Act.put, List.setIfInBounds_toArray, List.set_cons_zero, List.set_cons_succ])
  refine wpAnyH_ready (rs := [6]) (by kernel_rfl) (by simp) ?_
  refine AllReadyH.cons rfl (fun K hK => ?_) AllReadyH.nil
  have HV5 := Lib.hid (HVX.out.set 2 (.int .i64 (a + f + t)))
  have xZ := HV5.out.box HX0.out
  have z0 := HV5.out.q.cell (j := 0) (by simp)
  have zf0 := HV5.out.q.frozen 0
  have z1 := HV5.out.q.cell (j := 1) (by simp)
  have zf1 := HV5.out.q.frozen 1
  have z2 := HV5.out.q.cell (j := 2) (by simp)
  have zf2 := HV5.out.q.frozen 2
  simp only [List.set_cons_zero, List.set_cons_succ, List.getElem_cons_zero, List.getElem_cons_succ] at z0 z1 z2
  go_simp
  refine hK.out _ _ ⟨xZ, z1⟩ (fun hHeld => ?_)
  clear hK K
  (try simp only [Act.put, List.setIfInBounds_toArray, List.set_cons_zero, List.set_cons_succ])
  refine wpAnyH_done (by kernel_rfl) ?_ _
  obtain ⟨W5, hW5⟩ : ∃ W5, X.setCell ⟨w2.heap.size, 2, none⟩ (.int .i64 (a + f + t)) = W5 := ⟨_, rfl⟩
  rw [hW5] at HV5 xZ ⊢
  have HP := Lib.hid (show PlI w0 gr B w.heap.size w2.heap.size A c b nm (a + f) (a + f + t) s3 [] (.slice none 0 0) W5 from ⟨HV5.out.r, HV5.out.b, (HV5.out.k w.heap.size _ HX0.out.has (by unfold Sr; decide)).trans HX0.out, HV5.out.q, RO.nil _ _, ⟨hB, by have := HV5.out.n; omega, HV5.out.n.2.1, HV5.out.n.2.2⟩, HV5.out.k⟩)
  have hzz : w0.heap.size ≤ W5.heap.size := HV5.out.l.size
  have HL := Lib.hid (listV_any (fun W x => VT W x) Pv.d Sp9 gr B A c b (fun s W => ∃ v, PlI w0 gr B w.heap.size w2.heap.size A c b nm (a + f) (a + f + t) s.1 s.2 v W) (plc9 b) List.length 36 #[] #[.pointer (some ⟨w.heap.size, 0, none⟩), .pointer (some ⟨w2.heap.size, 0, none⟩)] 64 (s3, []) W5 hc hbn (HV5.out.b.more hB) (by omega) (onePlc hzz hc hbn hB) ⟨_, HP.out⟩ (Nat.le_trans HZB.out hzz) rfl)
  have HL5 := Lib.hid HV5.out.l
  clear hW5 HV5 HP hzz y0 yf0 y1 yf1 y2 yf2 y3 yf3 y4 yf4 z0 zf0 z1 zf1 z2 zf2
  go_wp2_with fail
  refine HL.out.mono ?_
  rintro e w6 ⟨v, xs, rfl, hx, hO, hD, ⟨vv, hP⟩, hS6, hB6⟩
  obtain ⟨A6, c6, rfl, hl6, hc6, hT6⟩ := hO.form
  obtain ⟨rs, hrs, hor, htr⟩ := hP.o
  obtain ⟨A7, c7, rfl, hl7, hc7, hT7⟩ := hor.form
  have HPT := Lib.hid (show PT w6 ⟨nm, a + f, a + f + t, xs, A6, c6, rs, A7, c7⟩ from ⟨hT6, hD, ⟨hl6, hc6⟩, hT7, htr, ⟨hl7, hc7⟩⟩)
  have HPP := Lib.hid hP
  have h46 : CAt w6 (w.heap.size + 1) 49 _ := (hP.k (w.heap.size + 1) _ H40.out.has (by unfold Sr; decide)).trans H40.out
  have H46 := Lib.hid h46
  have HB6 := Lib.hid (((HB0.out.mono HZ.out).trans HL5.out).trans hB6)
  have HXX := Lib.hid hx
  have HRS := Lib.hid hrs
  have y0 := hP.p.cell (j := 0) (by simp)
  have y1 := hP.p.cell (j := 1) (by simp)
  have y2 := hP.p.cell (j := 2) (by simp)
  have y3 := hP.p.cell (j := 3) (by simp)
  have y4 := hP.p.cell (j := 4) (by simp)
  have yf0 := hP.p.frozen 0
  have yf1 := hP.p.frozen 1
  have yf2 := hP.p.frozen 2
  have yf3 := hP.p.frozen 3
  have yf4 := hP.p.frozen 4
  have z0 := h46.cell (j := 0) (by simp)
  have z1 := h46.cell (j := 1) (by simp)
  have z2 := h46.cell (j := 2) (by simp)
  have z3 := h46.cell (j := 3) (by simp)
  have z4 := h46.cell (j := 4) (by simp)
  have zf0 := h46.frozen 0
  have zf1 := h46.frozen 1
  have zf2 := h46.frozen 2
  have zf3 := h46.frozen 3
  have zf4 := h46.frozen 4
  simp only [List.getElem_cons_zero, List.getElem_cons_succ] at y0 y1 y2 y3 y4 z0 z1 z2 z3 z4
  clear hO hD hP hS6 hB6 hor htr hT6 hT7 hx hrs h46 HL
  go_wp2_with fail
  refine bodyPost_ret (pc_back rfl rfl (((((((H46.out.other (by dsimp only; omega) _).set 0 _).set 1 _).set 2 _).set 3 _).set 4 _))) rfl ?_
  obtain ⟨q1, q2, q3, q4⟩ := HPP.out.back (OnlyS.below HB0.out) HB6.out HB0.out.size HZ.out H46.out.has (by omega) hgr _ HPT.out (.slice A6 xs.length c6) (.string (str nm)) (.int .i64 (a + f)) (.int .i64 (a + f + t)) (.slice A6 xs.length c6) (.slice A7 rs.length c7)
  exact ⟨_, rfl, by rw [HR.out, ← HXX.out, ← HRS.out]; rfl, q1, by rw [HR.out]; exact q2, q3, q4⟩
end Go.Proofs.YtbkfkdiadeaooaaGreat
