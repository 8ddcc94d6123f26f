/-
  What is told of one frame out of what was laid.
-/
import Derived.Test.YtpbopehhalicjaaV8G
namespace Go.Proofs.Ytpbopehhalicjaa
open Go Go.RowKit

structure Told (i : Nat) (pst : List Ps) (hp : i < pst.length) (V : Vw) (b : Nat) (Ri : List Int) (rs : List (List Int)) : Prop where
  yes : hasP (10 * (i : Int) + 5) pst[i]
  no : ∀ j (hj : j < i), ¬ hasP (10 * (i : Int) + 5) (pst[j]'(by omega))
  al : pst[i].a.length ≤ 1000000
  right : rightL [pst[i].sp] = true
  u0 : 0 ≤ pst[i].u
  u1 : pst[i].u ≤ 65536
  v15 : ∀ h, V.R[15]'h = (b : Int) - pst[i].u
  l0 : 0 ≤ (b : Int) - pst[i].u
  l1 : (b : Int) - pst[i].u ≤ 1000000
  b1 : 1 ≤ b
  bl : b - 1 < V.W.length
  bw : V.W[b - 1]'bl = backI i
  inn : ∀ x ∈ pst[i].a, 0 ≤ (b : Int) + x.n ∧ (b : Int) + x.n < V.W.length
  ri : rs[i]? = some Ri
  r15 : Ri[15]? = some (b : Int)
  r16 : Ri.length = 16
  rk : ∀ k : Nat, 6 ≤ k → k ≤ 11 → ((savR V.W b (keptL 0 V.R) pst[i].a).set 15 (b : Int))[k]? = Ri[k]?
  k6 : ∀ j (hj : j < V.K.length), 6 ≤ j → j ≤ 11 → V.K[j] = true
  k15 : ∀ h, V.K[15]'h = true
theorem get_of {α : Type} {l : List α} {j : Nat} {x : α} (h : l[j]? = some x) (hj : j < l.length) : l[j] = x := by
  rw [List.getElem?_eq_getElem hj] at h
  injection h
theorem row_told {n : Nat} {W : List Int} {rs : List (List Int)} {ls : List Sp} {bs : List Nat} (hL : Laid n W rs ls bs) (hn : n ≤ 20) {pst : List Ps} (hpe : pst.map Ps.sp = ls) {i : Nat} (hi : i < n) {V : Vw}
    (hR : V.R.length = 16) (hW : V.W = W) {Rm : List Int} (hRm : rs[i + 1]? = some Rm) (h6 : ∀ j, 6 ≤ j → j ≤ 11 → V.R[j]? = Rm[j]?) (h15 : V.R[15]? = Rm[15]?) (k6 : ∀ j, 6 ≤ j → j ≤ 11 → V.K[j]? = some true) (k15 : V.K[15]? = some true) :
    ∃ (hp : i < pst.length) (b : Nat) (Ri : List Int), Told i pst hp V b Ri rs := by
  have hll := hL.ll
  have hlr := hL.lr
  have hlb := hL.lb
  have hlen : pst.length = n := by rw [← hll, ← hpe, List.length_map]
  have hp : i < pst.length := by omega
  have sp_at : ∀ j (hj : j < pst.length), ls[j]'(by omega) = pst[j].sp := fun j hj => by
    subst hpe
    rw [List.getElem_map]
  have hf := hL.each i hi
  rw [sp_at i hp] at hf
  have hRm' : rs[i + 1]'(by omega) = Rm := get_of hRm (by omega)
  rw [hRm'] at hf
  have hmem := riseL_mem hf.rise
  have hlow := hf.low
  have h0 := hf.b0
  have h1 := hf.b1
  have hu0 := hf.u0
  have hu1 := hf.u1
  have hff := hf.f
  have hft := hf.t
  simp only [Ps.sp] at hmem hlow hu0 hu1 hff hft
  have h16 := hL.l16 _ (List.getElem_mem (show i < rs.length by omega))
  have hWl : V.W.length = 600 := by rw [hW]; exact hL.lW
  refine ⟨hp, bs[i]'(by omega), rs[i]'(by omega), ?_⟩
  refine ⟨⟨by omega, by omega⟩, fun j hj q => ?_, ?_, ?_, by omega, by omega, fun h => ?_, by omega, by omega, by omega, by omega, ?_, fun x hx => ?_, List.getElem?_eq_getElem (by omega), hf.top, h16, ?_, fun j hj a b => get_of (k6 j a b) hj, fun h => get_of k15 h⟩
  · have hj2 := hL.each j (by omega)
    rw [sp_at j (by omega)] at hj2
    have t2 := hj2.t
    have q2 := q.2
    simp only [Ps.sp] at t2
    omega
  · have := riseL_len hf.rise (by omega)
    simp only [Ps.sp] at this
    omega
  · unfold rightL
    rw [decide_eq_true (by simp), Bool.true_and]
    show (okE 0 _ && true) = true
    rw [Bool.and_true, okE_rise (by simp only [Ps.sp]; omega) (by simp only [Ps.sp]; omega) (by simp only [Ps.sp]; omega) (by simp only [Ps.sp]; omega) (by simp only [Ps.sp]; omega)]
    exact hf.rise
  · have e1 := hf.top'
    rw [← h15] at e1
    exact get_of e1 h
  · have e1 := hf.back
    exact get_of (by rw [hW]; exact e1) (by omega)
  · have a1 := hmem x hx
    have a2 := hlow x hx
    rw [hWl]
    omega
  · rw [hW]
    exact (hf.told h16 V.R hR h6).1
theorem view_no_k {w : World} {g B : Nat} {V V2 : Vw} (h : ViewAt w g V) (h2 : VL w B V2) : V2.a1.block ≠ g := fun e => by
  obtain ⟨g1, o1, q, _, hc⟩ := h2.known
  have c0 := hc 0 (by omega)
  rw [q] at e
  dsimp only at e
  subst e
  unfold ViewAt at h
  simp only [World.cell?, h, Nat.add_zero] at c0
  rcases (by omega : o1 = 0 ∨ o1 = 1 ∨ o1 = 2 ∨ o1 = 3 ∨ 4 ≤ o1) with q | q | q | q | q
  · subst q; simp [vC] at c0
  · subst q; simp [vC] at c0
  · subst q; simp [vC] at c0
  · subst q; simp [vC] at c0
  · simp [vC, show ¬ o1 < 4 by omega] at c0
theorem view_no_n {w : World} {g B : Nat} {V : Vw} {A : Option Addr} {l : List Int} (h : ViewAt w g V) (h2 : CLies w B A (l.map n7)) (hl : 2 ≤ l.length) : ∀ a, A = some a → a.block ≠ g := fun a ea e => by
  obtain ⟨g1, o1, q, _, hc⟩ := h2 (by simp; omega)
  have c0 := hc 0 (by simp; omega)
  have c1 := hc 1 (by simp; omega)
  rw [ea] at q
  injection q with q
  rw [q] at e
  dsimp only at e
  subst e
  unfold ViewAt at h
  simp only [World.cell?, h, Nat.add_zero, List.getElem_map, n7] at c0 c1
  rcases (by omega : o1 = 0 ∨ o1 = 1 ∨ o1 = 2 ∨ o1 = 3 ∨ 4 ≤ o1) with q | q | q | q | q
  · subst q; simp [vC] at c0
  · subst q; simp [vC] at c0
  · subst q; simp [vC] at c1
  · subst q; simp [vC] at c0
  · simp [vC, show ¬ o1 < 4 by omega] at c0
theorem view_set4 {w : World} {g : Nat} {V : Vw} (h : ViewAt w g V) (V2 : Vw) : ViewAt ((((w.setCell ⟨g, 0, none⟩ (.slice (some V2.a1) 16 V2.c1)).setCell ⟨g, 1, none⟩ (.slice (some V2.a2) 16 V2.c2)).setCell ⟨g, 2, none⟩ (.int .i64 V2.B)).setCell ⟨g, 3, none⟩ (.slice V2.A3 V2.W.length V2.c3)) g V2 := by
  have h' : CAt w g 34 [.slice (some V.a1) 16 V.c1, .slice (some V.a2) 16 V.c2, .int .i64 V.B, .slice V.A3 V.W.length V.c3] := h
  have := ((((h'.set 0 (.slice (some V2.a1) 16 V2.c1)).set 1 (.slice (some V2.a2) 16 V2.c2)).set 2 (.int .i64 V2.B)).set 3 (.slice V2.A3 V2.W.length V2.c3))
  exact this
theorem call_k6 {k : Nat} (h1 : 6 ≤ k) (h2 : k ≤ 11) : (callK.set 15 true)[k]? = some true := by
  have : k = 6 ∨ k = 7 ∨ k = 8 ∨ k = 9 ∨ k = 10 ∨ k = 11 := by omega
  rcases this with rfl | rfl | rfl | rfl | rfl | rfl <;> rfl
theorem call_k0 {k : Nat} (h : k < 6) : (callK.set 15 true)[k]? = some false ∧ (callK.set 15 true)[12 + k % 3]? = some false := by
  have : k = 0 ∨ k = 1 ∨ k = 2 ∨ k = 3 ∨ k = 4 ∨ k = 5 := by omega
  rcases this with rfl | rfl | rfl | rfl | rfl | rfl <;> exact ⟨rfl, rfl⟩
theorem cl_at {w : World} {B : Nat} {g o : Nat} {l : List Int} (h : CLies w B (some ⟨g, o, none⟩) (l.map n7)) {j : Nat} {x : Int} (hl : l[j]? = some x) : w.cell? ⟨g, o + j, none⟩ = some (.int .i64 x) := by
  obtain ⟨hj, rfl⟩ := List.getElem?_eq_some_iff.1 hl
  obtain ⟨g', o', e, _, hc⟩ := h (by simp; omega)
  injection e with e
  injection e with e1 e2 _
  subst e1
  subst e2
  have := hc j (by simpa using hj)
  simpa [n7] using this
end Go.Proofs.Ytpbopehhalicjaa
