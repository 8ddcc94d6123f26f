/-
  Merged for a claim: R3U.
-/
import Derived.Test.YtnffiaphpcopjaaFR3Q
import Derived.Test.YtnffiaphpcopjaaFR3P
import Derived.Test.YtnffiaphpcopjaaFJ4
import Derived.Test.YtnffiaphpcopjaaFKJ
import Derived.Test.YtnffiaphpcopjaaFI3M
import Derived.Deep.RegionHeld3
namespace Go.Proofs.Ytnffiaphpcopjaa
open Go.RowKit

section
variable {w : World} {g : Nat} {i : Ins} (h : InsAt w g i) (z : Int)
include h
theorem set_o : InsAt (w.setCell ⟨g, 1, none⟩ (.int .u8 z)) g { i with o := z } := by unfold InsAt ic at *; simp [World.setCell, Array.getElem?_modify, h]
theorem set_r : InsAt (w.setCell ⟨g, 2, none⟩ (.int .i64 z)) g { i with r := z } := by unfold InsAt ic at *; simp [World.setCell, Array.getElem?_modify, h]
theorem set_s : InsAt (w.setCell ⟨g, 3, none⟩ (.int .i64 z)) g { i with s := z } := by unfold InsAt ic at *; simp [World.setCell, Array.getElem?_modify, h]
theorem set_t : InsAt (w.setCell ⟨g, 4, none⟩ (.int .i64 z)) g { i with t := z } := by unfold InsAt ic at *; simp [World.setCell, Array.getElem?_modify, h]
theorem set_n : InsAt (w.setCell ⟨g, 5, none⟩ (.int .i64 z)) g { i with n := z } := by unfold InsAt ic at *; simp [World.setCell, Array.getElem?_modify, h]
theorem set_m : InsAt (w.setCell ⟨g, 6, none⟩ (.int .i64 z)) g { i with m := z } := by unfold InsAt ic at *; simp [World.setCell, Array.getElem?_modify, h]
end

theorem lies_sub {w : World} {B g o k : Nat} {l P : List UInt8} (h : Lies w B (some ⟨g, o, none⟩) l) (hp : P <+: l.drop k) : Lies w B (some ⟨g, o + k, none⟩) P := by
  intro hP
  have hle := hp.length_le
  rw [List.length_drop] at hle
  obtain ⟨g', o', e, hg, hc⟩ := h (by omega)
  cases e
  refine ⟨g, o + k, rfl, hg, fun j hj => ?_⟩
  obtain ⟨t, ht⟩ := hp
  have hb := hc (k + j) (by omega)
  have e : l[k + j]'(by omega) = P[j] := by
    have h1 : (l.drop k)[j]? = P[j]? := by rw [← ht, List.getElem?_append_left hj]
    rw [List.getElem?_drop, List.getElem?_eq_getElem (show k + j < l.length by omega), List.getElem?_eq_getElem hj] at h1
    exact Option.some.inj h1
  rw [e] at hb
  rw [Nat.add_assoc]
  exact hb

/-- with a place that there is, and a first byte, what Get comes to -/
theorem got_yes {l : List UInt8} {k : Nat} {i : Ins} {n : Int} (hk : k < l.length) (h : lenP l (ptsOf (oneX l k)) (insOf (oneX l k), (k : Int) + 1) = some (i, n)) (hr : rightB i = true) :
    gI l k = i ∧ gN l k = n ∧ gE l k = 0 ∧ i.Rng ∧ ownB i <+: l.drop k ∧ n = ((k + (ownB i).length : Nat) : Int) := by
  obtain ⟨e1, e2, e3⟩ := one_at hk
  have hik : i.k = oneX l k := (len_keeps l _ _ _ h).1.1
  have hK : isK (oneX l k) = true := by rw [← hik]; exact (right_parts hr).1
  have hg : gR l k = some (i, n) := by
    unfold gR
    rw [if_pos ⟨e1, hK⟩, e3]
    exact len_right hK h hr
  obtain ⟨f1, f2⟩ := gI_some hg
  have f3 : gE l k = 0 := by simp [gE, e1, hg]
  obtain ⟨k', g1, _, g3, _, g5, g6⟩ := get_got f3
  have : k' = k := by omega
  subst this
  rw [f1] at g3 g5 g6
  rw [f2] at g6
  exact ⟨f1, f2, f3, g3, g5, g6⟩
theorem got_no {l : List UInt8} {k : Nat} (hk : k < l.length) (hg : gR l k = none) : gI l k = insOf 0 ∧ gN l k = 0 ∧ gE l k = 5 :=
  get_none hg (by unfold gE; rw [if_pos (one_at hk).1])
theorem got_wrong {l : List UInt8} {k : Nat} {i : Ins} {n : Int} (hk : k < l.length) (h : lenP l (ptsOf (oneX l k)) (insOf (oneX l k), (k : Int) + 1) = some (i, n)) (hr : rightB i = false) : gI l k = insOf 0 ∧ gN l k = 0 ∧ gE l k = 5 := by
  obtain ⟨e1, e2, e3⟩ := one_at hk
  have hu := oneX_u8 l k
  refine got_no hk ?_
  unfold gR
  by_cases hK : isK (oneX l k) = true
  · rw [if_pos ⟨e1, hK⟩, e3]
    exact len_wrong hK h hr (insOf_rng hu.1 hu.2) ⟨k + 1, by omega, by omega⟩
  · rw [if_neg (fun q => hK q.2)]
theorem got_fail {l : List UInt8} {k : Nat} (hk : k < l.length) (h : lenP l (ptsOf (oneX l k)) (insOf (oneX l k), (k : Int) + 1) = none) : gI l k = insOf 0 ∧ gN l k = 0 ∧ gE l k = 5 := by
  obtain ⟨e1, e2, e3⟩ := one_at hk
  refine got_no hk ?_
  unfold gR
  rw [e3, len_fail h, ite_self]
theorem got_right {l : List UInt8} {k : Nat} {i : Ins} {n : Int} (h : lenP l (ptsOf (oneX l k)) (insOf (oneX l k), (k : Int) + 1) = some (i, n)) : RightsR i := by
  have hu := oneX_u8 l k
  rcases hK : isK (oneX l k) with _ | _
  · have hp : ptsOf (oneX l k) = [] := by
      have : ¬ (1 ≤ oneX l k ∧ oneX l k ≤ 18) := of_decide_eq_false hK
      unfold ptsOf
      repeat (first | rw [if_neg (by omega)] | rfl)
    rw [hp] at h
    cases h
    exact rnone hu.1 hu.2 hK
  · exact rgot hK h

/-- what Get holds between its parts -/
def GotI (l : List UInt8) (K x0 : Int) (w : World) (q : Nat) (y : Int) (wr : World) : Prop :=
  ∃ i, lenP l ((ptsOf K).take q) (insOf K, x0) = some (i, y) ∧ InsAt wr (w.heap.size + 1 + 1) i ∧ InsAt wr w.heap.size (insOf 0) ∧ InsAt wr (w.heap.size + 1) (insOf 0) ∧ Below w.heap.size w wr
theorem goti_step {l : List UInt8} {K x0 y : Int} {w wr : World} {q : Nat} {i : Ins} {p : Pt} (hp : (ptsOf K)[q]? = some p) (h1 : lenP l ((ptsOf K).take q) (insOf K, x0) = some (i, y))
    (h3 : InsAt wr w.heap.size (insOf 0)) (h4 : InsAt wr (w.heap.size + 1) (insOf 0)) (h5 : Below w.heap.size w wr) (he : getE p l y = 0) (W : World)
    (hg : wr.grownBy W (some (w.heap.size + 1 + 1))) (hi : InsAt W (w.heap.size + 1 + 1) (getI p i l y)) : GotI l K x0 w (q + 1) (getN p l y) W := by
  refine ⟨getI p i l y, ?_, hi, h3.kept hg (by simp <;> omega), h4.kept hg (by simp <;> omega), h5.grown hg h5.size (fun k e => by cases e; omega)⟩
  rw [lenP_take hp h1, lenS, if_pos he]
theorem goti_fail {l : List UInt8} {K x0 y : Int} {q : Nat} {i : Ins} {p : Pt} (hp : (ptsOf K)[q]? = some p) (h1 : lenP l ((ptsOf K).take q) (insOf K, x0) = some (i, y))
    (he : ¬ getE p l y = 0) : lenP l (ptsOf K) (insOf K, x0) = none :=
  lenP_none (k := q + 1) (by rw [lenP_take hp h1, lenS, if_neg he])
theorem got_out {w wr W : World} {i : Ins} (h3 : InsAt wr w.heap.size (insOf 0)) (h5 : Below w.heap.size w wr) (hg : wr.grownBy W (some (w.heap.size + 1 + 1))) :
    InsAt (put7 W w.heap.size i) w.heap.size i ∧ Below w.heap.size w (put7 W w.heap.size i) :=
  ⟨put7_at (h3.kept hg (by simp <;> omega)) i, below_ins (h5.grown hg h5.size (fun k e => by cases e; omega)) (Nat.le_refl _) _ _ _ _ _ _ _⟩
def Cells0 (w : World) (g : Nat) : Prop := w.cell? ⟨g, 0, none⟩ = some (.int .u8 0) ∧ w.cell? ⟨g, 1, none⟩ = some (.int .u8 0) ∧ w.cell? ⟨g, 2, none⟩ = some (.int .i64 0) ∧ w.cell? ⟨g, 3, none⟩ = some (.int .i64 0) ∧ w.cell? ⟨g, 4, none⟩ = some (.int .i64 0) ∧ w.cell? ⟨g, 5, none⟩ = some (.int .i64 0) ∧ w.cell? ⟨g, 6, none⟩ = some (.int .i64 0)
theorem cells0 {w : World} {g : Nat} (h : InsAt w g (insOf 0)) : Cells0 w g := (ins_cells (show w.heap[g]? = some (.cells #[.int .u8 0, .int .u8 0, .int .i64 0, .int .i64 0, .int .i64 0, .int .i64 0, .int .i64 0] 24 (0, 0)) from h)).1
theorem three (w : World) (a b c : Obj) : (((w.alloc a).alloc b).alloc c).heap[w.heap.size]? = some a ∧ (((w.alloc a).alloc b).alloc c).heap[w.heap.size + 1]? = some b ∧ (((w.alloc a).alloc b).alloc c).heap[w.heap.size + 1 + 1]? = some c :=
  ⟨hk2 w a b c, by have := hk1 (w.alloc a) b c; rwa [show (w.alloc a).heap.size = w.heap.size + 1 from by simp] at this, by have := hk0 ((w.alloc a).alloc b) c; rwa [show ((w.alloc a).alloc b).heap.size = w.heap.size + 1 + 1 from by simp] at this⟩
theorem below3 (w : World) (a b c : Obj) : Below w.heap.size w (((w.alloc a).alloc b).alloc c) := (below_box2 w _ _).alloc (by simp; omega) _

end Go.Proofs.Ytnffiaphpcopjaa
