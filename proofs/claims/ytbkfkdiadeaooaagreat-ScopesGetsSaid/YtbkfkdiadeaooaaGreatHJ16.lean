/-
  Merged for a claim: GB, S9Q.
-/
import Derived.Test.YtbkfkdiadeaooaaGreatHGA
import Derived.Test.YtbkfkdiadeaooaaGreatHS9P
import Derived.Laws.Rows
namespace Go.Proofs.YtbkfkdiadeaooaaGreat
open Go Go.RowKit

def CAt (w : World) (g : Nat) (e : TypeId) (cs : List Value) : Prop := w.heap[g]? = some (.cells cs.toArray e (0, 0))
theorem CAt.lt {w : World} {g : Nat} {e : TypeId} {cs : List Value} (h : CAt w g e cs) : g < w.heap.size := (Array.getElem?_eq_some_iff.1 h).1
theorem CAt.below {B : Nat} {w w' : World} {g : Nat} {e : TypeId} {cs : List Value} (h : CAt w g e cs) (hb : Below B w w') (hg : g < B) : CAt w' g e cs := (hb.block g hg).trans h
theorem CAt.cell {w : World} {g : Nat} {e : TypeId} {cs : List Value} (h : CAt w g e cs) {j : Nat} (hj : j < cs.length) : w.cell? ⟨g, j, none⟩ = some cs[j] := by
  unfold CAt at h
  simp [World.cell?, h, hj]
theorem CAt.frozen {w : World} {g : Nat} {e : TypeId} {cs : List Value} (h : CAt w g e cs) (j : Nat) : w.frozen? ⟨g, j, none⟩ = false := by
  unfold CAt at h
  simp [World.frozen?, h]
theorem CAt.set {w : World} {g : Nat} {e : TypeId} {cs : List Value} (h : CAt w g e cs) (j : Nat) (u : Value) : CAt (w.setCell ⟨g, j, none⟩ u) g e (cs.set j u) := by
  unfold CAt at h ⊢
  simp only [World.setCell, Array.getElem?_modify, h]
  simp
theorem CAt.other {w : World} {g : Nat} {e : TypeId} {cs : List Value} (h : CAt w g e cs) {p : Addr} (hp : g ≠ p.block) (u : Value) : CAt (w.setCell p u) g e cs := (Below.heap_setCell w p u g hp).trans h
end Go.Proofs.YtbkfkdiadeaooaaGreat

namespace Go.Proofs.YtbkfkdiadeaooaaGreat
open Go Go.RowKit

/-- only the reader's block is turned -/
def Sr (k : TypeId) : Prop := k = 44
/-- where a reading stands, and the bytes that it reads -/
def InvB (gr B : Nat) (A : Option Addr) (c : Nat) (b : List UInt8) (s : RS × Unit) (W : World) : Prop := RdAt W gr A c b s.1 ∧ Lies W B A b
def nm9 (b : List UInt8) (s : RS × Unit) : Int × (RS × Unit) := (nmX b s.1, (nmS b s.1, ()))
def tx9 (b : List UInt8) (s : RS × Unit) : List UInt8 × (RS × Unit) := (txX b s.1, (txT b s.1, ()))
section
variable {gr B : Nat} {A : Option Addr} {c : Nat} {b : List UInt8} {w w' : World} {s : RS}
theorem RdAt.only {S : TypeId → Prop} (h : RdAt w gr A c b s) (ho : OnlyS S w w') (hS : ¬ S 44) : RdAt w' gr A c b s := (ho _ _ h.has hS).trans h
theorem RdAt.but {T : TypeId} (h : RdAt w gr A c b s) (ho : ButT T w w') (hT : 44 ≠ T) : RdAt w' gr A c b s := (ho _ _ h.has hT).trans h
theorem OnlyS.set {S : TypeId → Prop} {w5 : World} {p : Addr} (h : OnlyS S w w5) (hp : w.heap.size ≤ p.block) (v : Value) : OnlyS S w (w5.setCell p v) := fun k e hk he => (Below.heap_setCell w5 p v k (fun q => by have := hk.lt; omega)).trans (h k e hk he)
theorem InvB.set {s : RS × Unit} {p : Addr} (h : InvB gr B A c b s w) (hp : gr < p.block) (hB : B ≤ gr) (v : Value) : InvB gr B A c b s (w.setCell p v) :=
  ⟨(Below.heap_setCell w p v gr (by omega)).trans h.1, h.2.below ((Below.refl B w).setCell (by omega) v)⟩
theorem below_gr (hg : w.grownBy w' (some gr)) (hB : B ≤ gr) (hz : B ≤ w.heap.size) : Below B w w' := (Below.refl B w).grown hg hz (fun k e => by injection e with e; subst e; exact hB)
theorem oneNum {G : Nat} (hG : B ≤ G) (hc : b.length ≤ c) (hbn : b.length ≤ 1099511627776) (hB : B ≤ gr) : OneP eI (fun _ _ => True) (fun x => x) (fun x => .int .i64 x) Sr gr B G A c b (InvB gr B A c b) (nm9 b) (fun _ => 0) 33 #[.pointer (some ⟨gr, 0, none⟩)] where
  enter := fun a w => run_enter9 Tryz.func33 (by kernel_rfl) (by kernel_rfl) a w
  call := fun s W hi hz _ => (number_any gr A c b s.1 W hc hbn (hi.2.more hB) hi.1).mono fun e w' ⟨he, hr, hg⟩ => ⟨nmX b s.1, he, rfl, trivial, ⟨hr, hi.2.below (below_gr hg hB hz)⟩, OnlyS.grown hg hi.1.has rfl, below_gr hg hB hz⟩
  but := fun _ _ _ hi hb hB => ⟨hi.1.but hb (by decide), hi.2.below (hB.mono hG)⟩
  dbut := fun _ _ _ _ _ => trivial
  donly := fun _ _ _ _ _ => trivial
  rd := fun _ _ hi => hi.1
  upd := fun _ _ _ _ hi hr hg => ⟨hr, hi.2.below (below_gr hg hB (by have := hi.1.lt; omega))⟩
  grow := fun _ => by omega
  rin := rfl
  kout := by unfold Sr; decide
  base := hB
theorem oneTxt {G : Nat} (hG : B ≤ G) (hc : b.length ≤ c) (hbn : b.length ≤ 1099511627776) (hB : B ≤ gr) : OneP eS (fun _ _ => True) (fun x => x) (fun x => tv x) Sr gr B G A c b (InvB gr B A c b) (tx9 b) (fun _ => 0) 34 #[.pointer (some ⟨gr, 0, none⟩)] where
  enter := fun a w => run_enter9 Tryz.func34 (by kernel_rfl) (by kernel_rfl) a w
  call := fun s W hi hz _ => (text9_any gr A c b s.1 W hc hbn (hi.2.more hB) hi.1).mono fun e w' ⟨he, hr, hg⟩ => ⟨txX b s.1, he, rfl, trivial, ⟨hr, hi.2.below (below_gr hg hB hz)⟩, OnlyS.grown hg hi.1.has rfl, below_gr hg hB hz⟩
  but := fun _ _ _ hi hb hB => ⟨hi.1.but hb (by decide), hi.2.below (hB.mono hG)⟩
  dbut := fun _ _ _ _ _ => trivial
  donly := fun _ _ _ _ _ => trivial
  rd := fun _ _ hi => hi.1
  upd := fun _ _ _ _ hi hr hg => ⟨hr, hi.2.below (below_gr hg hB (by have := hi.1.lt; omega))⟩
  grow := fun _ => by omega
  rin := rfl
  kout := by unfold Sr; decide
  base := hB
end
theorem pt_size : (Tryz.prog.info? 55).map (·.size) = some 3 := by kernel_rfl
theorem pt_back {fn : Func} {p : Tmp} (h : fn.results = #[.cell p 55]) {tmps : Array Value} {w : World} {g : Nat} (hp : tmps.getD p undef = .pointer (some ⟨g, 0, none⟩))
    {x y z : Value} (hg : CAt w g 55 [x, y, z]) : (results fn tmps).run Tryz.prog w = .ok (.agg #[x, y, z]) w :=
  results_cell_row h tmps w g _ _ _ _ hp hg Tryz.underlying55 rfl pt_size
/-- a point's reading -/
def ptX (b : List UInt8) (s : RS) : Pnt × RS :=
  (⟨nmX b s, nmX b (nmS b s), (lsP b 64 (nm9 b) (nmS b (nmS b s), ())).1⟩, (lsP b 64 (nm9 b) (nmS b (nmS b s), ())).2.1)
def PtR (gr B : Nat) (A : Option Addr) (c : Nat) (b : List UInt8) (x : Pnt × RS) (w : World) (e : Ending) (w' : World) : Prop :=
  ∃ p : Pq, e = .returned (.agg (qK p)) ∧ p.d = x.1 ∧ QT w' p ∧ InvB gr B A c b (x.2, ()) w' ∧ OnlyS Sr w w' ∧ Below B w w'
set_option maxRecDepth 100000 in
set_option maxHeartbeats 4000000 in
theorem point_any (gr B : Nat) (A : Option Addr) (c : Nat) (b : List UInt8) (s : RS) (w : World) (hc : b.length ≤ c) (hbn : b.length ≤ 1099511627776) (hB : B ≤ gr) (hi : InvB gr B A c b (s, ()) w) :
    Calls Tryz.prog 19 #[.pointer (some ⟨gr, 0, none⟩)] w (PtR gr B A c b (ptX b s) w) := by
  have hgr := hi.1.lt
  have hz : B ≤ w.heap.size := by omega
  have hb0 := below_lnew w (.cells #[.int .i64 0, .int .i64 0, .slice none 0 0] 55)
  have HI0 := Lib.hid (show InvB gr B A c b (s, ()) _ from ⟨hi.1.below hb0 hgr, hi.2.below (hb0.mono hz)⟩)
  have HO0 := Lib.hid (OnlyS.below (S := Sr) hb0)
  have HB0 := Lib.hid (hb0.mono hz)
  have HN1 := Lib.hid (number_any gr A c b s _ hc hbn (HI0.out.2.more hB) HI0.out.1)
  have HZ0 := Lib.hid (show w.heap.size + 1 ≤ (w.alloc (.cells #[.int .i64 0, .int .i64 0, .slice none 0 0] 55)).heap.size by simp)
  have c0 := heap_alloc_new w (.cells #[.int .i64 0, .int .i64 0, .slice none 0 0] 55)
  have HZ := Lib.hid hz
  clear hi hb0 hz
  obtain ⟨r, hr⟩ : ∃ r, ptX b s = r := ⟨_, rfl⟩
  rw [hr]
  unfold ptX at hr
  have HR := Lib.hid hr.symm
  clear hr
  unfold PtR
  go_enter Tryz.func19, Tryz.ntmps19
  go_wp2_with fail
  refine HN1.out.mono ?_
  rintro e w2 ⟨rfl, hr2, hg2⟩
  have hz0 : B ≤ (w.alloc (.cells #[.int .i64 0, .int .i64 0, .slice none 0 0] 55)).heap.size := Nat.le_trans HZ.out (Nat.le_of_lt HZ0.out)
  have hb2 := below_gr hg2 hB hz0
  have HI2 := Lib.hid (show InvB gr B A c b (nmS b s, ()) w2 from ⟨hr2, HI0.out.2.below hb2⟩)
  have HO2 := Lib.hid (HO0.out.trans (OnlyS.grown (S := Sr) hg2 HI0.out.1.has rfl))
  have HB2 := Lib.hid (HB0.out.trans hb2)
  have d0 := (hg2.block w.heap.size (by simp) (fun q => by injection q with q; omega)).trans c0
  have HZ2 := Lib.hid (Nat.le_trans HZ0.out hg2.size)
  have HN2 := Lib.hid (number_any gr A c b (nmS b s) w2 hc hbn (HI2.out.2.more hB) hr2)
  generalize nmX b s = f at *
  clear hr2 hg2 hb2 HI0 HO0 HB0 HN1 hz0 c0
  go_wp2_with fail
  refine HN2.out.mono ?_
  rintro e w3 ⟨rfl, hr3, hg3⟩
  have hz2 : B ≤ w2.heap.size := Nat.le_trans HZ.out (Nat.le_of_lt HZ2.out)
  have hb3 := below_gr hg3 hB hz2
  have HI3 := Lib.hid (show InvB gr B A c b (nmS b (nmS b s), ()) w3 from ⟨hr3, HI2.out.2.below hb3⟩)
  have HO3 := Lib.hid (HO2.out.trans (OnlyS.grown (S := Sr) hg3 HI2.out.1.has rfl))
  have HB3 := Lib.hid (HB2.out.trans hb3)
  have e0 := (hg3.block w.heap.size HZ2.out (fun q => by injection q with q; omega)).trans d0
  have HZ3 := Lib.hid (Nat.le_trans HZ2.out hg3.size)
  generalize nmX b (nmS b s) = l at *
  generalize nmS b (nmS b s) = s2 at *
  clear hr3 hg3 hb3 HI2 HO2 HB2 HN2 hz2 d0
  have hb4 := below_lnew w3 (.cells #[.int .i64 f, .int .i64 l, .slice none 0 0] 55)
  have hz3 : B ≤ w3.heap.size := Nat.le_trans HZ.out (Nat.le_of_lt HZ3.out)
  have hI4 : InvB gr B A c b (s2, ()) _ := ⟨HI3.out.1.below hb4 HI3.out.1.lt, HI3.out.2.below (hb4.mono hz3)⟩
  have HL := Lib.hid (listI_any (fun _ _ => True) (fun x => x) Sr gr B A c b (InvB gr B A c b) (nm9 b) (fun _ => 0) 33 #[.pointer (some ⟨gr, 0, none⟩)] #[] 64 (s2, ()) _ hc hbn (hI4.2.more hB) (by omega) (oneNum (Nat.le_trans hz3 hb4.size) hc hbn hB) hI4 (Nat.le_trans hz3 hb4.size) rfl)
  have HO4 := Lib.hid (HO3.out.trans (OnlyS.below (S := Sr) hb4))
  have HB4 := Lib.hid (HB3.out.trans (hb4.mono hz3))
  have e4 := (hb4.block w.heap.size HZ3.out).trans e0
  have f4 := heap_alloc_new w3 (.cells #[.int .i64 f, .int .i64 l, .slice none 0 0] 55)
  have HZ4 := Lib.hid (show w3.heap.size + 1 ≤ (w3.alloc (.cells #[.int .i64 f, .int .i64 l, .slice none 0 0] 55)).heap.size by simp)
  clear HI3 HO3 HB3 hb4 hI4 hz3 e0
  go_wp2_with fail
  refine HL.out.mono ?_
  rintro e w5 ⟨v, xs, rfl, hx, ho5, _, hi5, hO5, hB5⟩
  rw [List.map_id'] at hx
  have e5 := (hO5 w.heap.size _ ⟨_, _, e4⟩ (by unfold Sr; decide)).trans e4
  have f5 := (hO5 w3.heap.size _ ⟨_, _, f4⟩ (by unfold Sr; decide)).trans f4
  have HO5 := Lib.hid (HO4.out.trans hO5)
  have HB5 := Lib.hid (HB4.out.trans hB5)
  have HI5 := Lib.hid hi5
  have HZ5 := Lib.hid (Nat.le_trans HZ4.out hB5.size)
  have HX := Lib.hid hx
  obtain ⟨A6, c6, rfl, hl6, hc6, hT6⟩ := ho5.form
  have HT6 := Lib.hid (show QT w5 ⟨⟨f, l, xs⟩, A6, c6⟩ from ⟨hT6, hl6, hc6⟩)
  clear HL HO4 HB4 e4 f4 hx ho5 hi5 hO5 hB5 HZ4 hl6 hc6 hT6
  have hC : CAt w5 w3.heap.size 55 [.int .i64 f, .int .i64 l, .slice none 0 0] := f5
  have hD : CAt w5 w.heap.size 55 [.int .i64 0, .int .i64 0, .slice none 0 0] := e5
  have y0 := hC.cell (j := 0) (by simp)
  have y1 := hC.cell (j := 1) (by simp)
  have y2 := hC.cell (j := 2) (by simp)
  have yf0 := hC.frozen 0
  have yf1 := hC.frozen 1
  have yf2 := hC.frozen 2
  have x0 := hD.cell (j := 0) (by simp)
  have x1 := hD.cell (j := 1) (by simp)
  have x2 := hD.cell (j := 2) (by simp)
  have xf0 := hD.frozen 0
  have xf1 := hD.frozen 1
  have xf2 := hD.frozen 2
  have HC := Lib.hid hC
  have HD := Lib.hid hD
  simp only [List.getElem_cons_zero, List.getElem_cons_succ] at y0 y1 y2 x0 x1 x2
  have hne : w.heap.size < w3.heap.size := HZ3.out
  clear e5 f5 hC hD
  go_wp2_with fail
  refine bodyPost_ret (pt_back rfl rfl ((((HD.out.other (by dsimp only; omega) _).set 0 _).set 1 _).set 2 _)) rfl ?_
  have h1 : HasT w5 w3.heap.size 55 := ⟨_, _, HC.out⟩
  have h2 : HasT w5 w.heap.size 55 := ⟨_, _, HD.out⟩
  have hq := ((((ButT.set (p := ⟨w3.heap.size, 2, none⟩) h1 (.slice A6 xs.length c6)).trans (ButT.set (p := ⟨w.heap.size, 0, none⟩) (h2.set _ _) (.int .i64 f))).trans (ButT.set (p := ⟨w.heap.size, 1, none⟩) ((h2.set _ _).set _ _) (.int .i64 l))).trans (ButT.set (p := ⟨w.heap.size, 2, none⟩) (((h2.set _ _).set _ _).set _ _) (.slice A6 xs.length c6)))
  have hz : B ≤ w.heap.size := HZ.out
  exact ⟨⟨⟨f, l, xs⟩, A6, c6⟩, rfl, by rw [HR.out, HX.out], HT6.out.but hq (by decide), by rw [HR.out]; exact (((HI5.out.set (by dsimp only; omega) hB _).set (by dsimp only; omega) hB _).set (by dsimp only; omega) hB _).set (by dsimp only; omega) hB _, (((HO5.out.set (by dsimp only; omega) _).set (Nat.le_refl _) _).set (Nat.le_refl _) _).set (Nat.le_refl _) _, (((HB5.out.setCell (by dsimp only; omega) _).setCell hz _).setCell hz _).setCell hz _⟩
end Go.Proofs.YtbkfkdiadeaooaaGreat
