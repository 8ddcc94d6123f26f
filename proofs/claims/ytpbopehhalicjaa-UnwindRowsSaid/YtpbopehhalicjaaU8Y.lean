/-
  Unwind law's anchor (works answers true), and the contract of Vast for a view of nothing.
-/
import Derived.Test.YtpbopehhalicjaaU8V
import Derived.Test.YtpbopehhalicjaaU8W
import Derived.Test.YtpbopehhalicjaaU8P
import Derived.Test.YtpbopehhalicjaaU8N
import Derived.Test.YtpbopehhalicjaaU8I
namespace Go.Proofs.Ytpbopehhalicjaa
open Go Go.RowKit

def wS8 : List Sp := [⟨10, 20, 3, [⟨7, -2⟩]⟩]
def wB8 : List UInt8 := [1, 10, 10, 3, 1, 7, 2]
def wP8 (g : Nat) : List Ps := [⟨10, 20, 3, [⟨7, -2⟩], some ⟨g, 0, none⟩, 1⟩]
theorem w8_right : rightL wS8 = true := by decide +kernel
theorem w8_own : ownS wS8 = wB8 := by decide +kernel
theorem w8_got : gotS true wB8 0 = some (wS8, 7) := by decide +kernel
theorem w8_sp (g : Nat) : (wP8 g).map Ps.sp = wS8 := rfl
theorem w8_sm (g : Nat) : Sm (wP8 g) := ⟨by simp [wP8], fun p hp => by
  simp only [wP8, List.mem_cons, List.not_mem_nil, or_false] at hp
  subst hp
  simp⟩
def wW8 (w : World) : World := (w.alloc (.cells #[.int .i64 7, .int .i64 (-2)] 31)).alloc
  (.cells #[.int .i64 10, .int .i64 20, .int .i64 3, .slice (some ⟨w.heap.size, 0, none⟩) 1 1] 29)
theorem w8_one (w : World) (g : Nat) (x : Lc) (h : LocAt w g x) : LLies w w.heap.size (some ⟨g, 0, none⟩) [x] := by
  intro _
  refine ⟨g, 0, rfl, h.lt, fun j hj f u hu => ?_⟩
  obtain rfl : j = 0 := by simp at hj; omega
  have hf : f < 2 := by have := (List.getElem?_eq_some_iff.1 hu).1; simpa [cC_len] using this
  unfold LocAt at h
  simp only [World.cell?, h]
  rw [← hu]
  have hf' : f = 0 ∨ f = 1 := by omega
  rcases hf' with rfl | rfl <;> rfl
theorem w8_lies (w : World) : SLies (wW8 w) (wW8 w).heap.size (some ⟨w.heap.size + 1, 0, none⟩) (wP8 w.heap.size) := by
  have h1 : LocAt (wW8 w) w.heap.size ⟨7, -2⟩ := (locAt_new w ⟨7, -2⟩).below (below_lnew _ _) (by simp)
  refine ⟨fun _ => ⟨w.heap.size + 1, 0, rfl, by simp [wW8], fun j hj f u hu => ?_⟩, fun p hp => ?_⟩
  · have hh := heap_alloc_new (w.alloc (.cells #[.int .i64 7, .int .i64 (-2)] 31)) (.cells #[.int .i64 10, .int .i64 20, .int .i64 3, .slice (some ⟨w.heap.size, 0, none⟩) 1 1] 29)
    simp only [World.size_alloc] at hh
    have hf : f < 4 := by have := (List.getElem?_eq_some_iff.1 hu).1; simpa [pC_len] using this
    unfold wW8
    simp only [World.cell?, hh]
    rw [← hu]
    have hj' : j = 0 := by simp [wP8] at hj; omega
    have hf' : f = 0 ∨ f = 1 ∨ f = 2 ∨ f = 3 := by omega
    subst hj'
    rcases hf' with rfl | rfl | rfl | rfl <;> rfl
  · simp only [wP8, List.mem_cons, List.not_mem_nil, or_false] at hp
    subst hp
    exact ⟨by simp, by simp, w8_one _ _ _ h1⟩
theorem w8_put (w : World) (A : Option Addr) (c g : Nat) (h : SLies w w.heap.size A (wP8 g)) : Calls Try.prog 7 #[.slice none 0 0, .slice A 1 c] w fun e w' => ∃ A2 c2, e = .returned (.tuple #[.slice A2 7 c2, .int .i64 0]) ∧ Lies w' w'.heap.size A2 wB8 ∧ Below w.heap.size w w' := by
  refine (put8_any none A 0 c [] (wP8 g) w (fun _ => rfl) (w8_sm g) (by simp) (Lies.empty _ _ _) h).mono ?_
  rintro e w' ⟨v, rfl, ho, hb⟩
  rw [w8_sp, (pt_yes (b := []) w8_right).2, List.nil_append, w8_own] at ho
  rw [w8_sp, (pt_yes (b := []) w8_right).1]
  obtain ⟨A2, c2, rfl, h1, h2, h3⟩ := ho.form
  exact ⟨A2, c2, rfl, h3, hb⟩
theorem w8_get (w : World) (A : Option Addr) (c : Nat) (h : Lies w w.heap.size A wB8) : Calls Try.prog 8 #[.slice A 7 c, .int .i64 0] w fun e w' => ∃ A2 c2 q, e = .returned (.tuple #[.slice A2 1 c2, .int .i64 7, .int .i64 0]) ∧ q.sp = ⟨10, 20, 3, [⟨7, -2⟩]⟩ ∧ SLies w' w'.heap.size A2 [q] ∧ Below w.heap.size w w' := by
  refine (get8_all A c wB8 0 w (by decide) h).mono ?_
  rintro e w' ⟨v, rfl, ho, hb⟩
  obtain ⟨h1, h2, h3⟩ := gs_some (b := wB8) (k := 0) (by decide) w8_got
  rw [show gsL wB8 0 = wS8 from h2] at ho
  rw [show gsN wB8 0 = 7 from h3, show gsE wB8 0 = 0 from h1]
  obtain ⟨A2, c2, qs, rfl, e2, _, _, h4⟩ := ho.form
  cases qs with
  | nil => simp [wS8] at e2
  | cons q t =>
    cases t with
    | cons q2 t => simp [wS8] at e2
    | nil => exact ⟨A2, c2, q, rfl, by simpa [wS8] using e2, h4, hb⟩
theorem w8_r7 : ((savR ((List.range 10).map (fun (i : Nat) => (i : Int))) 8 (keptL 0 ((List.replicate 16 (0 : Int)).set 15 5)) [⟨7, -2⟩]).set 15 8)[7]? = some 6 := by decide +kernel
theorem w8_r15 : ((savR ((List.range 10).map (fun (i : Nat) => (i : Int))) 8 (keptL 0 ((List.replicate 16 (0 : Int)).set 15 5)) [⟨7, -2⟩]).set 15 8)[15]? = some 8 := by decide +kernel
theorem w8_up (w : World) (A : Option Addr) (c : Nat) (q : Ps) (V : Vw) (hq : q.sp = ⟨10, 20, 3, [⟨7, -2⟩]⟩) (h : SLies w w.heap.size A [q]) (hV : VL w w.heap.size V) (hK : V.K = List.replicate 16 true) (hR : V.R = (List.replicate 16 0).set 15 5) (hW : V.W = (List.range 10).map (fun (i : Nat) => (i : Int))) :
    Calls Try.prog 6 #[.slice A 1 c, .int .i64 12, .agg (vC V)] w fun e w' => ∃ V2 : Vw, e = .returned (.tuple #[.int .i64 7, .agg (vC V2), .int .i64 0]) ∧ VL w' w'.heap.size V2 ∧ V2.K[7]? = some true ∧ V2.K[0]? = some false ∧ V2.R[7]? = some 6 ∧ V2.R[15]? = some 8 ∧ Below w.heap.size w w' := by
  obtain ⟨pf, pt, pu, pa, pA, pc⟩ := q
  simp only [Ps.sp, Sp.mk.injEq] at hq
  obtain ⟨rfl, rfl, rfl, rfl⟩ := hq
  have hl : V.W.length = 10 := by rw [hW]; rfl
  refine (up8_any A c [⟨10, 20, 3, [⟨7, -2⟩], pA, pc⟩] 12 0 V w (by simp) (by simp) (by simp) ⟨by simp, by simp⟩ (fun j hj => absurd hj (by omega)) h hV (fun _ => by simp [hK]) 5 (fun _ => by simp [hR]) (by omega) (by omega) (show rightL wS8 = true from w8_right) (fun j hj _ _ => by simp only [hK, List.getElem_replicate]) 7 7 (by simp) (by omega) (by simp [hW]) (by omega) (by omega) (fun x hx => ?_)).mono ?_
  · simp only [List.getElem_cons_zero, List.mem_cons, List.not_mem_nil, or_false] at hx
    subst hx
    rw [hl]
    simp
  · rintro e w' ⟨V2, rfl, h1, h2, h3, h4, h5⟩
    refine ⟨V2, rfl, h1, by rw [h2]; rfl, by rw [h2]; rfl, ?_, ?_, h5⟩
    · rw [h3, hR, hW]; exact w8_r7
    · rw [h3, hR, hW]; exact w8_r15
theorem w8_same (w : World) (A A2 : Option Addr) (c c2 g : Nat) (q : Ps) (he : q.sp = ⟨10, 20, 3, [⟨7, -2⟩]⟩) (h : SLies w w.heap.size A (wP8 g)) (h2 : SLies w w.heap.size A2 [q]) :
    Calls Try.prog 10 #[.slice A 1 c, .slice A2 1 c2] w (BoolR true w) := same8_any A A2 c c2 (wP8 g) [q] w (by rw [w8_sp]; simp [wS8, he]) (w8_sm g) h h2
theorem VL.cells {w : World} {B : Nat} {V : Vw} (h : VL w B V) (k0 k7 : Bool) (r7 r15 : Int) (h1 : V.K[7]? = some k7) (h2 : V.K[0]? = some k0) (h3 : V.R[7]? = some r7) (h4 : V.R[15]? = some r15) :
    ∃ g1 o1 g2 o2, V.a1 = ⟨g1, o1, none⟩ ∧ V.a2 = ⟨g2, o2, none⟩ ∧ g1 < B ∧ g2 < B ∧ w.cell? ⟨g1, o1, none⟩ = some (.bool k0) ∧ w.cell? ⟨g1, o1 + 7, none⟩ = some (.bool k7) ∧ w.cell? ⟨g2, o2 + 7, none⟩ = some (.int .i64 r7) ∧ w.cell? ⟨g2, o2 + 15, none⟩ = some (.int .i64 r15) := by
  obtain ⟨g1, o1, e1, hg1, c1⟩ := h.known
  obtain ⟨g2, o2, e2, hg2, c2⟩ := h.regs
  have hK := h.hK
  have hR := h.hR
  refine ⟨g1, o1, g2, o2, e1, e2, hg1, hg2, ?_, ?_, ?_, ?_⟩
  · rw [List.getElem?_eq_getElem (by omega), Option.some.injEq] at h2
    rw [← h2]
    exact c1 0 (by omega)
  · rw [List.getElem?_eq_getElem (by omega), Option.some.injEq] at h1
    rw [← h1]
    exact c1 7 (by omega)
  · rw [List.getElem?_eq_getElem (by omega), Option.some.injEq] at h3
    rw [← h3]
    exact c2 7 (by omega)
  · rw [List.getElem?_eq_getElem (by omega), Option.some.injEq] at h4
    rw [← h4]
    exact c2 15 (by omega)

set_option maxRecDepth 100000 in
set_option maxHeartbeats 2000000 in
theorem works8_any (w : World) : Calls Try.prog 4 #[] w (BoolR true w) := by
  have hb0 : Below w.heap.size w (wW8 w) := below_lnew2 w _ _
  have hR0 := w8_lies w
  have hz0 : (wW8 w).heap.size = w.heap.size + 2 := by simp [wW8]
  have HD := Lib.hid (show wW8 w = _ from rfl)
  unfold wW8 at HD
  go_enter Try.func4, Try.ntmps4
  go_wp2_with fail
  rw [show (w.alloc (.cells #[.int .i64 7, .int .i64 (-2)] 31)).alloc
    (.cells #[.int .i64 10, .int .i64 20, .int .i64 3, .slice (some ⟨w.heap.size, 0, none⟩) 1 1] 29) = wW8 w from rfl]
  clear HD
  generalize wW8 w = W at *
  refine (w8_put W _ 1 _ hR0).mono ?_
  rintro e w1 ⟨A1, c1, rfl, hL1, hb1⟩
  have HB1 := Lib.hid hb1
  have HL1 := Lib.hid hL1
  clear hL1 hb1
  go_wp2_with fail
  refine (w8_get w1 _ c1 HL1.out).mono ?_
  rintro e w2 ⟨A2, c2, q, rfl, he2, hL2, hb2⟩
  have HB2 := Lib.hid (HB1.out.trans (hb2.mono HB1.out.size))
  have HL2 := Lib.hid hL2
  have HE2 := Lib.hid he2
  clear hL2 hb2 he2
  go_wp2_with fail
  refine (plain8_any w2).mono ?_
  rintro e w3 ⟨V, rfl, hV3, hK3, hRR3, hW3, hb3⟩
  have HB3 := Lib.hid (HB2.out.trans (hb3.mono HB2.out.size))
  have HL3 := Lib.hid (HL2.out.next hb3)
  have HU3 := Lib.hid (fun c => w8_up w3 A2 c q V HE2.out (HL2.out.next hb3) hV3 hK3 hRR3 hW3)
  clear hb3 hV3 hK3 hRR3 hW3
  go_wp2_with fail
  refine (HU3.out _).mono ?_
  rintro e w4 ⟨V2, rfl, hV4, hk7, hk0, hr7, hr15, hb4⟩
  have HB4 := Lib.hid (HB3.out.trans (hb4.mono HB3.out.size))
  have HL4 := Lib.hid (HL3.out.next hb4)
  obtain ⟨g1, o1, g2, o2, e1, e2, hg1, hg2, x0, x7, y7, y15⟩ := hV4.cells _ _ _ _ hk7 hk0 hr7 hr15
  have hc1 := hV4.h1
  have hc2 := hV4.h2
  have hb5 := below_lnew w4 (.cells (vC V2) 34)
  have HB5 := Lib.hid (HB4.out.trans (hb5.mono HB4.out.size))
  have HL5 := Lib.hid (HL4.out.next hb5)
  have hv5 := viewAt_new w4 V2
  have HV5 := Lib.hid (And.intro hv5.k (And.intro hv5.r (hv5.lt)))
  have HC5 := Lib.hid (And.intro ((hb5.cell (p := ⟨g1, o1, none⟩) hg1).trans x0) (And.intro ((hb5.cell (p := ⟨g1, o1 + 7, none⟩) hg1).trans x7) (And.intro ((hb5.cell (p := ⟨g2, o2 + 7, none⟩) hg2).trans y7) ((hb5.cell (p := ⟨g2, o2 + 15, none⟩) hg2).trans y15))))
  clear hb4 hV4 hk7 hk0 hr7 hr15 HU3 HL3 x0 x7 y7 y15 hb5 hv5
  obtain ⟨a1, d1, a2, d2, Bs2, B3, d3, K2, R2, W2⟩ := V2
  dsimp only at e1 e2 hc1 hc2
  subst e1
  subst e2
  unfold vC at HB5 HL5 HV5 HC5
  unfold vC
  dsimp only at HB5 HL5 HV5 HC5 ⊢
  go_wp2_with fail
  generalize w4.alloc (.cells #[.slice (some ⟨g1, o1, none⟩) 16 d1, .slice (some ⟨g2, o2, none⟩) 16 d2, .int .i64 Bs2, .slice B3 W2.length d3] 34) = W5 at *
  refine (w8_same W5 _ A2 1 c2 _ q HE2.out (hR0.next HB5.out) HL5.out).mono ?_
  rintro e w6 ⟨rfl, hb6⟩
  have HB6 := Lib.hid (HB5.out.trans (hb6.mono HB5.out.size))
  have hz5 := hb6.size
  obtain ⟨v0, v1, hgv⟩ := HV5.out
  obtain ⟨x0, x7, y7, y15⟩ := HC5.out
  replace v0 := (hb6.cell (p := ⟨w4.heap.size, 0, none⟩) hgv).trans v0
  replace v1 := (hb6.cell (p := ⟨w4.heap.size, 1, none⟩) hgv).trans v1
  have hs4 : w4.heap.size ≤ W5.heap.size := by omega
  replace x0 := (hb6.cell (p := ⟨g1, o1, none⟩) (by dsimp only; omega)).trans x0
  replace x7 := (hb6.cell (p := ⟨g1, o1 + 7, none⟩) (by dsimp only; omega)).trans x7
  replace y7 := (hb6.cell (p := ⟨g2, o2 + 7, none⟩) (by dsimp only; omega)).trans y7
  replace y15 := (hb6.cell (p := ⟨g2, o2 + 15, none⟩) (by dsimp only; omega)).trans y15
  clear hb6 HV5 HC5
  go_wp2_with fail
  go_ret
  exact ⟨rfl, hb0.trans (HB6.out.mono (by omega))⟩

/-- few and short enough for a law -/
def Few (ps : List Ps) : Prop := ps.length ≤ 5000 ∧ ∀ p ∈ ps, p.a.length ≤ 1000
theorem Few.sm {ps : List Ps} (h : Few ps) : Sm ps := ⟨by have := h.1; omega, fun p hp => by have := h.2 p hp; omega⟩
def VastR8 (ps : List Ps) (w : World) (e : Ending) (w' : World) : Prop := ∃ b : Bool, e = .returned (.bool b) ∧ Below w.heap.size w w' ∧ (b = false → Few ps)
end Go.Proofs.Ytpbopehhalicjaa
