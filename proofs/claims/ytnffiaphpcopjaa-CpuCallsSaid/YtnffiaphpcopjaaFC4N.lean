/-
  Merged for a claim: C4N.
-/
import Derived.Test.YtnffiaphpcopjaaFC4M
namespace Go.Proofs.Ytnffiaphpcopjaa
open Go Go.RowKit

def Yes4 (w : World) (e : Ending) (w' : World) : Prop := e = .returned (.bool true) ∧ Below w.heap.size w w'
def wkC : List UInt8 := [2, 1, 7, 16, 1, 17, 1]
def wkM : Mc := m0 wkC 0 10 []
theorem wk_a : (runM 2 wkM).1.how = 0 ∧ (runM 2 wkM).2 = 0 := by decide +kernel
theorem wk_b : (runM 5 (runM 2 wkM).1).1.how = 1 ∧ (runM 5 (runM 2 wkM).1).2 = 4 ∧ haltV (runM 5 (runM 2 wkM).1).1 = 7 ∧ haltB (runM 5 (runM 2 wkM).1).1 = true ∧ (runM 5 (runM 2 wkM).1).1.out = [7] := by decide +kernel
theorem wk_ok : Okm wkM 2 := ⟨by decide, by decide, by decide⟩
theorem wk_ok2 : Okm (runM 2 wkM).1 5 := ⟨by decide +kernel, by decide +kernel, by decide +kernel⟩

set_option maxRecDepth 100000 in
set_option maxHeartbeats 1000000 in
theorem works4_any (w : World) : Calls Try.prog 23 #[] w (Yes4 w) := by
  have hb0 := below_box w (.cells #[.int .u8 2, .int .u8 1, .int .u8 7, .int .u8 16, .int .u8 1, .int .u8 17, .int .u8 1] 5)
  have HN := Lib.hid (new_good (some ⟨w.heap.size, 0, none⟩) none 7 0 wkC [] 0 10 _ (lies_lit w 5 wkC #[.int .u8 2, .int .u8 1, .int .u8 7, .int .u8 16, .int .u8 1, .int .u8 17, .int .u8 1] rfl) (fun h => absurd h (by simp)) (by simp) (by decide) (by decide) (by decide) (by decide) (by decide))
  have HB0 := Lib.hid hb0
  clear hb0
  unfold NewR at HN
  simp only [wkC, List.length_cons, List.length_nil, Nat.reduceAdd] at HN
  go_enter Try.func23, Try.ntmps23
  go_wp2_with fail
  refine HN.out.mono ?_
  rintro e w1 ⟨g, p, rfl, hM, hb1⟩
  have HM : Hid (MIn w1 (grow none_ (w.alloc (.cells #[.int .u8 2, .int .u8 1, .int .u8 7, .int .u8 16, .int .u8 1, .int .u8 17, .int .u8 1] 5)) w1) g wkM p) := hM
  have HB1 := Lib.hid (HB0.out.trans (hb1.mono HB0.out.size))
  have hz0 : w.heap.size ≤ (w.alloc (.cells #[.int .u8 2, .int .u8 1, .int .u8 7, .int .u8 16, .int .u8 1, .int .u8 17, .int .u8 1] 5)).heap.size := HB0.out.size
  generalize (w.alloc (.cells #[.int .u8 2, .int .u8 1, .int .u8 7, .int .u8 16, .int .u8 1, .int .u8 17, .int .u8 1] 5)) = w0 at HM hz0
  have HR := Lib.hid (run_any HM.out 2 wk_ok)
  have HS0 : Hid (∀ k, grow none_ w0 w1 k → w.heap.size ≤ k) := fun k hk => by
    rcases hk with h | h
    · exact absurd h (fun h => h)
    · have := h.1; omega
  clear hM hb1 HN hz0
  generalize hS : grow none_ w0 w1 = S at HR HS0 HM
  clear hS HM HB0
  unfold RunR at HR
  simp only [show (2 : Int).toNat = 2 from rfl] at HR
  rw [wk_a.1, wk_a.2] at HR
  go_wp2_with fail
  refine HR.out.mono ?_
  rintro e w2 ⟨rfl, p2, hM2, hk2⟩
  have HB2 := Lib.hid (HB1.out.trans (hk2.below HS0.out HB1.out.size))
  have HS2 : Hid (∀ k, grow S w1 w2 k → w.heap.size ≤ k) := fun k hk => by
    rcases hk with h | h
    · exact HS0.out k h
    · have := h.1; have := HB1.out.size; omega
  have HR2 := Lib.hid (run_any hM2 5 wk_ok2)
  clear hM2 hk2 HR
  generalize grow S w1 w2 = S2 at HR2 HS2
  unfold RunR at HR2
  simp only [show (5 : Int).toNat = 5 from rfl] at HR2
  rw [wk_b.1, wk_b.2.1] at HR2
  go_wp2_with fail
  refine HR2.out.mono ?_
  rintro e w3 ⟨rfl, p3, hM3, hk3⟩
  have HB3 := Lib.hid (HB2.out.trans (hk3.below HS2.out HB2.out.size))
  have HH := Lib.hid (halted_any hM3)
  have HO := Lib.hid (out_any hM3 (by rw [wk_b.2.2.2.2]; decide))
  rw [wk_b.2.2.1, wk_b.2.2.2.1] at HH
  unfold MadeI at HO
  rw [wk_b.2.2.2.2] at HO
  clear hM3 hk3 HR2
  go_wp2_with fail
  refine HH.out.mono ?_
  rintro e w' ⟨rfl, rfl⟩
  go_wp2_with fail
  refine HO.out.mono ?_
  rintro e w4 ⟨v, rfl, h1, h2, -⟩
  obtain ⟨A, c, rfl, hc, hls⟩ := h1.ils
  obtain ⟨g4, o4, rfl, -, q4⟩ := hls (by simp)
  have c4 := q4 0 (by simp)
  have HB4 := Lib.hid (HB3.out.trans (h2.mono HB3.out.size))
  simp only [List.getD_cons_zero, Nat.add_zero] at c4
  clear h1 h2 hls q4 HO HH
  go_wp2_with fail
  go_ret
  exact ⟨rfl, HB4.out⟩

end Go.Proofs.Ytnffiaphpcopjaa
