/-
  Merged for a claim: I3E0.
-/
import Derived.Test.YtdnpoeegefkoiaaGreatFI3E1
import Derived.Test.YtdnpoeegefkoiaaGreatFI3E2
import Derived.Test.YtdnpoeegefkoiaaGreatFI3E3
import Derived.Test.YtdnpoeegefkoiaaGreatFI3E4
namespace Go.Proofs.YtdnpoeegefkoiaaGreat
open Go.RowKit

set_option maxRecDepth 100000 in
set_option maxHeartbeats 400000 in
theorem parts_no (k : Int) (w : World) (h : ¬ (1 ≤ k ∧ k ≤ 18)) : Calls Tryz.prog 68 #[.int .u8 k] w (PartsR k w) := by
  have HP := Lib.hid (show ptsOf k = [] from by
    unfold ptsOf
    repeat (first | rw [if_neg (by omega)] | rfl))
  have HK := Lib.hid (show isK k = false from decide_eq_false h)
  have b1 : (k == 1) = false := nbeq_of (by omega)
  have b2 : (k == 2) = false := nbeq_of (by omega)
  have b3 : (k == 3) = false := nbeq_of (by omega)
  have b4 : (k == 4) = false := nbeq_of (by omega)
  have b5 : (k == 5) = false := nbeq_of (by omega)
  have b6 : (k == 6) = false := nbeq_of (by omega)
  have b7 : (k == 7) = false := nbeq_of (by omega)
  have b8 : (k == 8) = false := nbeq_of (by omega)
  have b9 : (k == 9) = false := nbeq_of (by omega)
  have b10 : (k == 10) = false := nbeq_of (by omega)
  have b11 : (k == 11) = false := nbeq_of (by omega)
  have b12 : (k == 12) = false := nbeq_of (by omega)
  have b13 : (k == 13) = false := nbeq_of (by omega)
  have b14 : (k == 14) = false := nbeq_of (by omega)
  have b15 : (k == 15) = false := nbeq_of (by omega)
  have b16 : (k == 16) = false := nbeq_of (by omega)
  have b17 : (k == 17) = false := nbeq_of (by omega)
  have b18 : (k == 18) = false := nbeq_of (by omega)
  clear h
  go_enter Tryz.func68, Tryz.ntmps68
  go_wp2_with fail
  refine bodyPost_ret (parts_back rfl rfl rfl (hk0 _ _)) rfl ?_
  exact ⟨by rw [HP.out, HK.out]; rfl, bk0 _ _⟩

theorem parts_any (k : Int) (w : World) : Calls Tryz.prog 68 #[.int .u8 k] w (PartsR k w) := by
  by_cases h : 1 ≤ k ∧ k ≤ 18
  · have : k = 1 ∨ k = 2 ∨ k = 3 ∨ k = 4 ∨ k = 5 ∨ k = 6 ∨ k = 7 ∨ k = 8 ∨ k = 9 ∨ k = 10 ∨ k = 11 ∨ k = 12 ∨ k = 13 ∨ k = 14 ∨ k = 15 ∨ k = 16 ∨ k = 17 ∨ k = 18 := by omega
    rcases this with rfl | rfl | rfl | rfl | rfl | rfl | rfl | rfl | rfl | rfl | rfl | rfl | rfl | rfl | rfl | rfl | rfl | rfl
    · exact parts_1 w
    · exact parts_2 w
    · exact parts_3 w
    · exact parts_4 w
    · exact parts_5 w
    · exact parts_6 w
    · exact parts_7 w
    · exact parts_8 w
    · exact parts_9 w
    · exact parts_10 w
    · exact parts_11 w
    · exact parts_12 w
    · exact parts_13 w
    · exact parts_14 w
    · exact parts_15 w
    · exact parts_16 w
    · exact parts_17 w
    · exact parts_18 w
  · exact parts_no k w h

end Go.Proofs.YtdnpoeegefkoiaaGreat
