/-
  Views in memory; contract of unwind.frame.
-/
import Derived.Test.YtpbopehhalicjaaU8R
namespace Go.Proofs.Ytpbopehhalicjaa
open Go Go.RowKit

/-- a view of sixteen registers, and where its lists lie -/
structure Vw where
  a1 : Addr
  c1 : Nat
  a2 : Addr
  c2 : Nat
  B : Int
  A3 : Option Addr
  c3 : Nat
  K : List Bool
  R : List Int
  W : List Int
def vC (V : Vw) : Array Value := #[.slice (some V.a1) 16 V.c1, .slice (some V.a2) 16 V.c2, .int .i64 V.B, .slice V.A3 V.W.length V.c3]
def ViewAt (w : World) (g : Nat) (V : Vw) : Prop := w.heap[g]? = some (.cells (vC V) 34 (0, 0))
theorem viewAt_new (w : World) (V : Vw) : ViewAt (w.alloc (.cells (vC V) 34)) w.heap.size V := heap_alloc_new w _
section
variable {w w' : World} {g B : Nat} {V : Vw}
theorem ViewAt.lt (h : ViewAt w g V) : g < w.heap.size := (Array.getElem?_eq_some_iff.1 h).1
theorem ViewAt.below (h : ViewAt w g V) (hb : Below B w w') (hg : g < B) : ViewAt w' g V := (hb.block g hg).trans h
theorem ViewAt.other (h : ViewAt w g V) {p : Addr} (hp : g ≠ p.block) (u : Value) : ViewAt (w.setCell p u) g V := (Below.heap_setCell w p u g hp).trans h
theorem ViewAt.k (h : ViewAt w g V) : w.cell? ⟨g, 0, none⟩ = some (.slice (some V.a1) 16 V.c1) := by
  unfold ViewAt at h
  simp [World.cell?, h, vC]
theorem ViewAt.r (h : ViewAt w g V) : w.cell? ⟨g, 1, none⟩ = some (.slice (some V.a2) 16 V.c2) := by
  unfold ViewAt at h
  simp [World.cell?, h, vC]
theorem ViewAt.b (h : ViewAt w g V) : w.cell? ⟨g, 2, none⟩ = some (.int .i64 V.B) := by
  unfold ViewAt at h
  simp [World.cell?, h, vC]
theorem ViewAt.wd (h : ViewAt w g V) : w.cell? ⟨g, 3, none⟩ = some (.slice V.A3 V.W.length V.c3) := by
  unfold ViewAt at h
  simp [World.cell?, h, vC]
theorem ViewAt.frozen (h : ViewAt w g V) (j : Nat) : w.frozen? ⟨g, j, none⟩ = false := by
  unfold ViewAt at h
  simp [World.frozen?, h]
end
structure VL (w : World) (B : Nat) (V : Vw) : Prop where
  hK : V.K.length = 16
  hR : V.R.length = 16
  h1 : 16 ≤ V.c1
  h2 : 16 ≤ V.c2
  k : CLies w B (some V.a1) (V.K.map bV)
  r : CLies w B (some V.a2) (V.R.map n7)
  ww : CLies w B V.A3 (V.W.map n7)
  nil : V.A3 = none → V.W.length = 0
  nW : V.W.length ≤ 1000000
theorem VL.below {w w' : World} {B : Nat} {V : Vw} (h : VL w B V) (hb : Below B w w') : VL w' B V := ⟨h.hK, h.hR, h.h1, h.h2, h.k.below hb, h.r.below hb, h.ww.below hb, h.nil, h.nW⟩
theorem VL.more {w : World} {B B' : Nat} {V : Vw} (h : VL w B V) (hB : B ≤ B') : VL w B' V := ⟨h.hK, h.hR, h.h1, h.h2, h.k.more hB, h.r.more hB, h.ww.more hB, h.nil, h.nW⟩
theorem VL.next {w w' : World} {V : Vw} (h : VL w w.heap.size V) (hb : Below w.heap.size w w') : VL w' w'.heap.size V := (h.below hb).more hb.size
theorem VL.known {w : World} {B : Nat} {V : Vw} (h : VL w B V) : ∃ g o, V.a1 = ⟨g, o, none⟩ ∧ g < B ∧ ∀ j (hj : j < 16), w.cell? ⟨g, o + j, none⟩ = some (.bool (V.K[j]'(by have := h.hK; omega))) := by
  have hK := h.hK
  obtain ⟨g, o, e, hg, hc⟩ := h.k (by simp [hK])
  refine ⟨g, o, by injection e, hg, fun j hj => ?_⟩
  have := hc j (by simp [hK, hj])
  simpa [bV] using this
theorem VL.regs {w : World} {B : Nat} {V : Vw} (h : VL w B V) : ∃ g o, V.a2 = ⟨g, o, none⟩ ∧ g < B ∧ ∀ j (hj : j < 16), w.cell? ⟨g, o + j, none⟩ = some (.int .i64 (V.R[j]'(by have := h.hR; omega))) := by
  have hR := h.hR
  obtain ⟨g, o, e, hg, hc⟩ := h.r (by simp [hR])
  refine ⟨g, o, by injection e, hg, fun j hj => ?_⟩
  have := hc j (by simp [hR, hj])
  simpa [n7] using this
theorem LOwn.all4 {W : World} {B g : Nat} {v : Value} {l : List Lc} (h : LOwn W B v l) (hg : g < B) (u0 u1 u2 u3 : Value) : LOwn ((((W.setCell ⟨g, 0, none⟩ u0).setCell ⟨g, 1, none⟩ u1).setCell ⟨g, 2, none⟩ u2).setCell ⟨g, 3, none⟩ u3) B v l :=
  (((h.set8 (p := ⟨g, 0, none⟩) u0 hg).set8 (p := ⟨g, 1, none⟩) u1 hg).set8 (p := ⟨g, 2, none⟩) u2 hg).set8 (p := ⟨g, 3, none⟩) u3 hg
def FramedR (p : Ps) (b : Int) (w : World) (e : Ending) (w' : World) : Prop :=
  ∃ A c, e = .returned (.tuple #[.agg #[.int .i64 p.f, .int .i64 p.t, .int .i64 p.u, .slice A p.a.length c], .int .i64 b, .bool true]) ∧ LOwn w' w.heap.size (.slice A p.a.length c) p.a ∧ Below w.heap.size w w'

set_option maxRecDepth 100000 in
set_option maxHeartbeats 2000000 in
theorem frame8_any (A : Option Addr) (c : Nat) (ps : List Ps) (pc : Int) (n : Nat) (V : Vw) (w : World) (hn : n < ps.length) (hls : ps.length ≤ 1000000) (hal : ps[n].a.length ≤ 1000000) (hyes : hasP pc ps[n]) (hno : ∀ j (hj : j < n), ¬ hasP pc ps[j]) (h : SLies w w.heap.size A ps)
    (hV : VL w w.heap.size V) (hk : ∀ h, V.K[15]'h = true) (r15 : Int) (hr : ∀ h, V.R[15]'h = r15) (h0 : 0 ≤ r15) (h1 : r15 ≤ 1000000) (hu0 : 0 ≤ ps[n].u) (hu1 : ps[n].u ≤ 65536) :
    Calls Try.prog 11 #[.slice A ps.length c, .int .i64 pc, .agg (vC V)] w (FramedR ps[n] (r15 + ps[n].u) w) := by
  have hb1 := below_lnew w (.cells (vC V) 34)
  have hb2 := below_lnew (w.alloc (.cells (vC V) 34)) (.cells (pK ⟨0, 0, 0, [], none, 0⟩) 29)
  have HV2 := Lib.hid ((viewAt_new w V).below hb2 (by simp))
  have hX2 := spAt_new (w.alloc (.cells (vC V) 34)) ⟨0, 0, 0, [], none, 0⟩
  rw [World.size_alloc] at hX2
  have HX2 := Lib.hid hX2
  have HB2 := Lib.hid (hb1.trans (hb2.mono hb1.size))
  have HF := Lib.hid (find8_any A c ps pc n _ hn hls hal hyes hno ((h.below HB2.out).more HB2.out.size))
  have HL2 := Lib.hid (hV.below HB2.out)
  have hz2 : w.heap.size + 2 ≤ ((w.alloc (.cells (vC V) 34)).alloc (.cells (pK ⟨0, 0, 0, [], none, 0⟩) 29)).heap.size := by simp
  obtain ⟨g1, o1, e1, hg1, k1⟩ := hV.known
  obtain ⟨g2, o2, e2, hg2, k2⟩ := hV.regs
  have q1 := (HB2.out.cell (p := ⟨g1, o1 + 15, none⟩) hg1).trans (k1 15 (by omega))
  have q2 := (HB2.out.cell (p := ⟨g2, o2 + 15, none⟩) hg2).trans (k2 15 (by omega))
  rw [hk] at q1
  rw [hr] at q2
  have hc1 := hV.h1
  have hc2 := hV.h2
  clear hb1 hb2 hX2 h hV k1 k2 hk hr hyes hno
  obtain ⟨a1, c1, a2, c2, Bs, A3, c3, K, R, Ws⟩ := V
  dsimp only at e1 e2 hc1 hc2
  subst e1
  subst e2
  unfold vC pK at HV2 HX2 HB2 HF HL2 hz2 q1 q2
  unfold vC
  simp only [List.length_nil] at HV2 HX2 HB2 HF HL2 hz2 q1 q2
  dsimp only
  unfold FoundR at HF
  go_enter Try.func11, Try.ntmps11
  go_wp2_with fail
  generalize ((w.alloc (.cells #[.slice (some ⟨g1, o1, none⟩) 16 c1, .slice (some ⟨g2, o2, none⟩) 16 c2, .int .i64 Bs, .slice A3 Ws.length c3] 34)).alloc (.cells #[.int .i64 0, .int .i64 0, .int .i64 0, .slice none 0 0] 29)) = W at *
  refine HF.out.mono ?_
  rintro e w3 ⟨A5, c5, rfl, ho3, hb3⟩
  have hV3 := HV2.out.below hb3 (by omega)
  have hX3 := HX2.out.below hb3 (by omega)
  have v0 := hV3.k
  have v1 := hV3.r
  have x0 := hX3.frozen
  have x1 := hX3.fr
  have x2 := hX3.to
  have x3 := hX3.up
  have x4 := hX3.at_
  have s1 := (hb3.cell (p := ⟨g1, o1 + 15, none⟩) (by dsimp only; omega)).trans q1
  have s2 := (hb3.cell (p := ⟨g2, o2 + 15, none⟩) (by dsimp only; omega)).trans q2
  have HB3 := Lib.hid (HB2.out.trans (hb3.mono (by omega)))
  have HO3 := Lib.hid ho3
  have HX3 := Lib.hid hX3
  dsimp only [List.length_nil] at v0 v1 x1 x2 x3 x4
  clear hb3 ho3 hV3 hX3 q1 q2 HF HL2 HV2 HX2
  generalize hp : ps[n] = p at *
  obtain ⟨pf, pt, pu, pa, pA, pc'⟩ := p
  have HP := Lib.hid hp
  clear hp
  dsimp only at hu0 hu1 hal HO3
  go_wp2_with fail
  refine bodyPost_ret (spAt_res rfl _ _ (w.heap.size + 1) _ rfl ((HX3.out.setAll ⟨pf, pt, pu, pa, A5, c5⟩).setAll ⟨pf, pt, pu, pa, A5, c5⟩)) rfl ?_
  unfold FramedR
  rw [HP.out]
  exact ⟨A5, c5, rfl, ((HO3.out.all4 (show w.heap.size + 1 < _ by omega) _ _ _ _).all4 (show w.heap.size + 1 < _ by omega) _ _ _ _).base (by omega), below_all (below_all HB3.out (Nat.le_succ _) _ _ _ _) (Nat.le_succ _) _ _ _ _⟩
end Go.Proofs.Ytpbopehhalicjaa
