/-
  Merged for a claim: S0H.
-/
import Derived.Test.YtjllbacefbjjaaaZS0G
namespace Go.Proofs.Ytjllbacefbjjaaa
open Go Go.RowKit

def putSt (W : World) (g o : Nat) : XS → World
 | .mk kd ln nm fl cl ty kA kc ks bA bc bd eA ec el => (((((((((((W.setCell ⟨g, o, none⟩ (.int .u8 kd)).setCell ⟨g, o + 1, none⟩ (.int .i64 ln)).setCell ⟨g, o + 2, none⟩ (.string (str nm))).setCell ⟨g, o + 3, none⟩ (.string (str fl))).setCell ⟨g, o + 4, none⟩ (.string (str cl))).setCell ⟨g, o + 5, none⟩ (.int .u8 ty.kd)).setCell ⟨g, o + 6, none⟩ (.int .i64 ty.n)).setCell ⟨g, o + 7, none⟩ (.string (str ty.nm))).setCell ⟨g, o + 8, none⟩ (.slice kA ks.length kc)).setCell ⟨g, o + 9, none⟩ (.slice bA bd.length bc)).setCell ⟨g, o + 10, none⟩ (.slice eA el.length ec))
section
variable {w W Z : World} {gp : Nat} {A : Option Addr} {c : Nat} {l u : List To} {v : Value} {mc m : LvM} {rows : List XS} {rest : List LvM} {xs : List XS}
theorem putSt_own {B g cp : Nat} {y : XS} (h : eSt.Own W B (.slice (some ⟨g, 0, none⟩) (xs.length + 1) cp) (xs ++ [y])) (x : XS) : eSt.Own (putSt W g (xs.length * 11) x) B (.slice (some ⟨g, 0, none⟩) (xs.length + 1) cp) (xs ++ [x]) := by
 have e : (xs ++ [x]).length = xs.length + 1 := by simp
 have e2 : (xs ++ [y]).length = xs.length + 1 := by simp
 have hf : (xs.flatMap eSt.f).length = xs.length * 11 := El.flat_len eSt xs
 have h0 : W.ownsRow B eSt.e eSt.sz (.slice (some ⟨g, 0, none⟩) (xs.length + 1) cp) (xs.length + 1) ((xs ++ [y]).flatMap eSt.f) := by
  have := h
  unfold El.Own at this
  rwa [e2] at this
 obtain ⟨kd, ln, nm, fl, cl, ty, kA, kc, ks, bA, bc, bd, eA, ec, el⟩ := x
 obtain ⟨kd', ln', nm', fl', cl', ty', kA', kc', ks', bA', bc', bd', eA', ec', el'⟩ := y
 have h1 := (World.ownsRow.stored (World.ownsRow.stored (World.ownsRow.stored (World.ownsRow.stored (World.ownsRow.stored (World.ownsRow.stored (World.ownsRow.stored (World.ownsRow.stored (World.ownsRow.stored (World.ownsRow.stored (World.ownsRow.stored h0 (xs.length * 11) (.int .u8 kd)).1 (xs.length * 11 + 1) (.int .i64 ln)).1 (xs.length * 11 + 2) (.string (str nm))).1 (xs.length * 11 + 3) (.string (str fl))).1 (xs.length * 11 + 4) (.string (str cl))).1 (xs.length * 11 + 5) (.int .u8 ty.kd)).1 (xs.length * 11 + 6) (.int .i64 ty.n)).1 (xs.length * 11 + 7) (.string (str ty.nm))).1 (xs.length * 11 + 8) (.slice kA ks.length kc)).1 (xs.length * 11 + 9) (.slice bA bd.length bc)).1 (xs.length * 11 + 10) (.slice eA el.length ec)).1
 have hl : (((((((((((((xs ++ [XS.mk kd' ln' nm' fl' cl' ty' kA' kc' ks' bA' bc' bd' eA' ec' el']).flatMap eSt.f).set (xs.length * 11) (.int .u8 kd)).set (xs.length * 11 + 1) (.int .i64 ln)).set (xs.length * 11 + 2) (.string (str nm))).set (xs.length * 11 + 3) (.string (str fl))).set (xs.length * 11 + 4) (.string (str cl))).set (xs.length * 11 + 5) (.int .u8 ty.kd)).set (xs.length * 11 + 6) (.int .i64 ty.n)).set (xs.length * 11 + 7) (.string (str ty.nm))).set (xs.length * 11 + 8) (.slice kA ks.length kc)).set (xs.length * 11 + 9) (.slice bA bd.length bc)).set (xs.length * 11 + 10) (.slice eA el.length ec)) = (xs ++ [XS.mk kd ln nm fl cl ty kA kc ks bA bc bd eA ec el]).flatMap eSt.f := by
  rw [List.flatMap_append, List.flatMap_append]
  have hs : ∀ (a : List Value) (n : Nat) (v : Value), (xs.flatMap eSt.f ++ a).set (xs.length * 11 + n) v = xs.flatMap eSt.f ++ a.set n v := fun a n v => by
   rw [List.set_append_right _ _ (by rw [hf]; omega), hf, Nat.add_sub_cancel_left]
  have hs0 := fun a v => hs a 0 v
  simp only [Nat.add_zero] at hs0
  rw [hs0, hs, hs, hs, hs, hs, hs, hs, hs, hs, hs]
  rfl
 rw [hl] at h1
 unfold El.Own
 rw [e]
 exact h1
theorem putSt_grown (W : World) (g o : Nat) (x : XS) : W.grownBy (putSt W g o x) (some g) := by
 obtain ⟨kd, ln, nm, fl, cl, ty, kA, kc, ks, bA, bc, bd, eA, ec, el⟩ := x
 exact grown_trans (grown_trans (grown_trans (grown_trans (grown_trans (grown_trans (grown_trans (grown_trans (grown_trans (grown_trans (grown_set _ _ _ _) (grown_set _ _ _ _)) (grown_set _ _ _ _)) (grown_set _ _ _ _)) (grown_set _ _ _ _)) (grown_set _ _ _ _)) (grown_set _ _ _ _)) (grown_set _ _ _ _)) (grown_set _ _ _ _)) (grown_set _ _ _ _)) (grown_set _ _ _ _)
theorem BlZ.putSt {g cp : Nat} {y t : XS} (h : BlZ w gp A c l v mc (xs ++ [y]) m rest W u) (hv : m.v = .slice (some ⟨g, 0, none⟩) (xs.length + 1) cp) : BlZ w gp A c l v mc (xs ++ [t]) m rest (Go.Proofs.Ytjllbacefbjjaaa.putSt W g (xs.length * 11) t) u := by
 have ho := h.o0
 rw [hv] at ho
 refine h.turn (by rw [hv]; exact putSt_grown _ _ _ _) ?_
 rw [hv]
 exact putSt_own ho t
theorem BlZ.newer (h : BlZ w gp A c l v mc rows m rest W u) {g : Nat} (hg : W.heap.size ≤ g) : w.heap.size ≤ g ∧ ¬ OwnB (m :: rest) g := by
 have hz : w.heap.size ≤ W.heap.size := h.g.size
 refine ⟨by omega, fun ⟨a, ha, e⟩ => ?_⟩
 rcases List.mem_cons.1 ha with rfl | ha
 · have := (h.o0.lt g e).2.1
   omega
 · have := ((h.o a ha).lt g e).2.1
   omega
end
def xsZ : XS := .mk 0 0 [] [] [] ⟨0, 0, []⟩ none 0 [] none 0 [] none 0 []
def addP (t : Lv) (o : List Lv) (u : List To) : R (List Lv) :=
 (hdP u).bind fun s v => if s.kd = 6 ∨ s.kd = 7 then takeS [123] v fun w => .ok (⟨[], false⟩ :: t.add s :: o) w else .ok (t.add s :: o) v
end Go.Proofs.Ytjllbacefbjjaaa
