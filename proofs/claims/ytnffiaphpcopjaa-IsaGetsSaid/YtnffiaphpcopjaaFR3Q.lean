/-
  Merged for a claim: R3Q.
-/
import Derived.Test.YtnffiaphpcopjaaFR3B1
import Derived.Test.YtnffiaphpcopjaaFR3B2
import Derived.Test.YtnffiaphpcopjaaFR3B3
import Derived.Test.YtnffiaphpcopjaaFR3B4
import Derived.Test.YtnffiaphpcopjaaFR3L
namespace Go.Proofs.Ytnffiaphpcopjaa
open Go.RowKit

theorem ox1 (l : List UInt8) (x : Int) : 0 ≤ oneX l x / 16 := by have := oneX_u8 l x; omega
theorem ox2 (l : List UInt8) (x : Int) : oneX l x / 16 < 16 := by have := oneX_u8 l x; omega
theorem ox3 (l : List UInt8) (x : Int) : 0 ≤ oneX l x % 16 := by have := oneX_u8 l x; omega
theorem ox4 (l : List UInt8) (x : Int) : oneX l x % 16 < 16 := by have := oneX_u8 l x; omega

def RightsR (i : Ins) : Prop := ∀ w, Calls Try.prog 10 #[iv i] w (RR i w)
theorem rgot_1 {l : List UInt8} {x n : Int} {i : Ins} (h : lenP l (ptsOf 1) (insOf 1, x) = some (i, n)) : RightsR i := by
  intro w
  have h : lenP l [] (insOf 1, x) = some (i, n) := h
  cases h
  exact refRight_1 w 
theorem rgot_2 {l : List UInt8} {x n : Int} {i : Ins} (h : lenP l (ptsOf 2) (insOf 2, x) = some (i, n)) : RightsR i := by
  intro w
  have h : lenP l [.reg, .num] (insOf 2, x) = some (i, n) := h
  have h := (lenP_cons h).2
  have h := (lenP_cons h).2
  cases h
  exact refRight_2 _ _ w ((oneX_u8 l _).1)
theorem rgot_3 {l : List UInt8} {x n : Int} {i : Ins} (h : lenP l (ptsOf 3) (insOf 3, x) = some (i, n)) : RightsR i := by
  intro w
  have h : lenP l [.both] (insOf 3, x) = some (i, n) := h
  have h := (lenP_cons h).2
  cases h
  exact refRight_3 _ _ w (ox1 l _) (ox2 l _) (ox3 l _) (ox4 l _)
theorem rgot_4 {l : List UInt8} {x n : Int} {i : Ins} (h : lenP l (ptsOf 4) (insOf 4, x) = some (i, n)) : RightsR i := by
  intro w
  have h : lenP l [.op, .both, .third] (insOf 4, x) = some (i, n) := h
  have h := (lenP_cons h).2
  have h := (lenP_cons h).2
  have h := (lenP_cons h).2
  cases h
  exact refRight_4 _ _ _ _ w ((oneX_u8 l _).1) ((oneX_u8 l _).2) (ox1 l _) (ox2 l _) (ox3 l _) (ox4 l _) ((oneX_u8 l _).1)
theorem rgot_5 {l : List UInt8} {x n : Int} {i : Ins} (h : lenP l (ptsOf 5) (insOf 5, x) = some (i, n)) : RightsR i := by
  intro w
  have h : lenP l [.op, .both] (insOf 5, x) = some (i, n) := h
  have h := (lenP_cons h).2
  have h := (lenP_cons h).2
  cases h
  exact refRight_5 _ _ _ w ((oneX_u8 l _).1) ((oneX_u8 l _).2) (ox1 l _) (ox2 l _) (ox3 l _) (ox4 l _)
theorem rgot_6 {l : List UInt8} {x n : Int} {i : Ins} (h : lenP l (ptsOf 6) (insOf 6, x) = some (i, n)) : RightsR i := by
  intro w
  have h : lenP l [.both, .num] (insOf 6, x) = some (i, n) := h
  have h := (lenP_cons h).2
  have h := (lenP_cons h).2
  cases h
  exact refRight_6 _ _ _ w (ox1 l _) (ox2 l _) (ox3 l _) (ox4 l _)
theorem rgot_7 {l : List UInt8} {x n : Int} {i : Ins} (h : lenP l (ptsOf 7) (insOf 7, x) = some (i, n)) : RightsR i := by
  intro w
  have h : lenP l [.both, .num] (insOf 7, x) = some (i, n) := h
  have h := (lenP_cons h).2
  have h := (lenP_cons h).2
  cases h
  exact refRight_7 _ _ _ w (ox1 l _) (ox2 l _) (ox3 l _) (ox4 l _)
theorem rgot_8 {l : List UInt8} {x n : Int} {i : Ins} (h : lenP l (ptsOf 8) (insOf 8, x) = some (i, n)) : RightsR i := by
  intro w
  have h : lenP l [.both, .third, .num, .many] (insOf 8, x) = some (i, n) := h
  have h := (lenP_cons h).2
  have h := (lenP_cons h).2
  have h := (lenP_cons h).2
  have h := (lenP_cons h).2
  cases h
  exact refRight_8 _ _ _ _ _ w (ox1 l _) (ox2 l _) (ox3 l _) (ox4 l _) ((oneX_u8 l _).1)
theorem rgot_9 {l : List UInt8} {x n : Int} {i : Ins} (h : lenP l (ptsOf 9) (insOf 9, x) = some (i, n)) : RightsR i := by
  intro w
  have h : lenP l [.both, .third, .num, .many] (insOf 9, x) = some (i, n) := h
  have h := (lenP_cons h).2
  have h := (lenP_cons h).2
  have h := (lenP_cons h).2
  have h := (lenP_cons h).2
  cases h
  exact refRight_9 _ _ _ _ _ w (ox1 l _) (ox2 l _) (ox3 l _) (ox4 l _) ((oneX_u8 l _).1)
theorem rgot_10 {l : List UInt8} {x n : Int} {i : Ins} (h : lenP l (ptsOf 10) (insOf 10, x) = some (i, n)) : RightsR i := by
  intro w
  have h : lenP l [.to] (insOf 10, x) = some (i, n) := h
  have h := (lenP_cons h).2
  cases h
  exact refRight_10 _ w ((plX_rng l _).1) ((plX_rng l _).2)
theorem rgot_11 {l : List UInt8} {x n : Int} {i : Ins} (h : lenP l (ptsOf 11) (insOf 11, x) = some (i, n)) : RightsR i := by
  intro w
  have h : lenP l [.reg, .to] (insOf 11, x) = some (i, n) := h
  have h := (lenP_cons h).2
  have h := (lenP_cons h).2
  cases h
  exact refRight_11 _ _ w ((oneX_u8 l _).1) ((plX_rng l _).1) ((plX_rng l _).2)
theorem rgot_12 {l : List UInt8} {x n : Int} {i : Ins} (h : lenP l (ptsOf 12) (insOf 12, x) = some (i, n)) : RightsR i := by
  intro w
  have h : lenP l [.to] (insOf 12, x) = some (i, n) := h
  have h := (lenP_cons h).2
  cases h
  exact refRight_12 _ w ((plX_rng l _).1) ((plX_rng l _).2)
theorem rgot_13 {l : List UInt8} {x n : Int} {i : Ins} (h : lenP l (ptsOf 13) (insOf 13, x) = some (i, n)) : RightsR i := by
  intro w
  have h : lenP l [] (insOf 13, x) = some (i, n) := h
  cases h
  exact refRight_13 w 
theorem rgot_14 {l : List UInt8} {x n : Int} {i : Ins} (h : lenP l (ptsOf 14) (insOf 14, x) = some (i, n)) : RightsR i := by
  intro w
  have h : lenP l [.num] (insOf 14, x) = some (i, n) := h
  have h := (lenP_cons h).2
  cases h
  exact refRight_14 _ w 
theorem rgot_15 {l : List UInt8} {x n : Int} {i : Ins} (h : lenP l (ptsOf 15) (insOf 15, x) = some (i, n)) : RightsR i := by
  intro w
  have h : lenP l [.reg] (insOf 15, x) = some (i, n) := h
  have h := (lenP_cons h).2
  cases h
  exact refRight_15 _ w ((oneX_u8 l _).1)
theorem rgot_16 {l : List UInt8} {x n : Int} {i : Ins} (h : lenP l (ptsOf 16) (insOf 16, x) = some (i, n)) : RightsR i := by
  intro w
  have h : lenP l [.reg] (insOf 16, x) = some (i, n) := h
  have h := (lenP_cons h).2
  cases h
  exact refRight_16 _ w ((oneX_u8 l _).1)
theorem rgot_17 {l : List UInt8} {x n : Int} {i : Ins} (h : lenP l (ptsOf 17) (insOf 17, x) = some (i, n)) : RightsR i := by
  intro w
  have h : lenP l [.reg] (insOf 17, x) = some (i, n) := h
  have h := (lenP_cons h).2
  cases h
  exact refRight_17 _ w ((oneX_u8 l _).1)
theorem rgot_18 {l : List UInt8} {x n : Int} {i : Ins} (h : lenP l (ptsOf 18) (insOf 18, x) = some (i, n)) : RightsR i := by
  intro w
  have h : lenP l [.how] (insOf 18, x) = some (i, n) := h
  have h := (lenP_cons h).2
  cases h
  exact refRight_18 _ w ((oneX_u8 l _).1)
theorem rgot {l : List UInt8} {K x n : Int} {i : Ins} (hK : isK K = true) (h : lenP l (ptsOf K) (insOf K, x) = some (i, n)) : RightsR i := by
  have hk : 1 ≤ K ∧ K ≤ 18 := of_decide_eq_true hK
  have : K = 1 ∨ K = 2 ∨ K = 3 ∨ K = 4 ∨ K = 5 ∨ K = 6 ∨ K = 7 ∨ K = 8 ∨ K = 9 ∨ K = 10 ∨ K = 11 ∨ K = 12 ∨ K = 13 ∨ K = 14 ∨ K = 15 ∨ K = 16 ∨ K = 17 ∨ K = 18 := by omega
  rcases this with rfl | rfl | rfl | rfl | rfl | rfl | rfl | rfl | rfl | rfl | rfl | rfl | rfl | rfl | rfl | rfl | rfl | rfl
  · exact rgot_1 h
  · exact rgot_2 h
  · exact rgot_3 h
  · exact rgot_4 h
  · exact rgot_5 h
  · exact rgot_6 h
  · exact rgot_7 h
  · exact rgot_8 h
  · exact rgot_9 h
  · exact rgot_10 h
  · exact rgot_11 h
  · exact rgot_12 h
  · exact rgot_13 h
  · exact rgot_14 h
  · exact rgot_15 h
  · exact rgot_16 h
  · exact rgot_17 h
  · exact rgot_18 h

set_option maxRecDepth 100000 in
set_option maxHeartbeats 1000000 in
theorem rnone {K : Int} (k0 : 0 ≤ K) (k1 : K < 256) (hK : isK K = false) : RightsR (insOf K) := by
  intro w
  have HQ := Lib.hid (show rightB (insOf K) = false by simp [rightB, insOf, hK])
  have HP := Lib.hid (fun w => parts_at (k := K) (s := sOf K) (b := false) k0 k1 rfl hK w)
  have HI := Lib.hid (show InsAt (w.alloc (.cells (ic (insOf K)) 24)) w.heap.size (insOf K) from heap_alloc_new _ _)
  have HB := Lib.hid (below_box w (.cells (ic (insOf K)) 24))
  unfold ic insOf at HI HB
  unfold iv ic insOf
  go_enter Try.func10, Try.ntmps10
  go_wp2_with fail
  refine (HP.out _).mono ?_
  rintro e w1 ⟨rfl, hb1⟩
  have hi1 := HI.out.below hb1 (by simp)
  obtain ⟨⟨c0, c1, c2, c3, c4, c5, c6⟩, _⟩ := ins_cells hi1
  have HB1 := Lib.hid (HB.out.trans (hb1.mono (by simp)))
  clear hb1 hi1 HI HB HP
  go_wp2_with fail
  go_quiet (fail)
  go_wp2_with fail
  go_ret
  have hq := HQ.out
  unfold insOf at hq
  exact ⟨by rw [hq]; rfl, HB1.out.trans (below_draws nq)⟩

end Go.Proofs.Ytnffiaphpcopjaa
