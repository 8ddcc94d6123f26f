/-
  Merged for a claim: I3E3.
-/
import Derived.Test.YtdnpoeegefkoiaaGreatFI3E
namespace Go.Proofs.YtdnpoeegefkoiaaGreat
open Go.RowKit

set_option maxRecDepth 100000 in
set_option maxHeartbeats 400000 in
theorem parts_10 (w : World) : Calls Tryz.prog 68 #[.int .u8 10] w (PartsR 10 w) := by
  go_enter Tryz.func68, Tryz.ntmps68
  go_wp2_with fail
  refine (mk_to _).mono ?_
  rintro e w' ⟨rfl, rfl⟩
  unfold pv pc fF dF pF gF
  go_wp2_with fail
  refine bodyPost_ret (parts_back rfl rfl rfl (hk1 _ _ _)) rfl ?_
  exact ⟨by rw [show ptsOf 10 = [.to] from by decide, show isK 10 = true from by decide]; rfl, bk1 _ _ _⟩
set_option maxRecDepth 100000 in
set_option maxHeartbeats 400000 in
theorem parts_11 (w : World) : Calls Tryz.prog 68 #[.int .u8 11] w (PartsR 11 w) := by
  go_enter Tryz.func68, Tryz.ntmps68
  go_wp2_with fail
  refine (mk_reg _).mono ?_
  rintro e w' ⟨rfl, rfl⟩
  unfold pv pc fF dF pF gF
  go_wp2_with fail
  refine (mk_to _).mono ?_
  rintro e w' ⟨rfl, rfl⟩
  unfold pv pc fF dF pF gF
  go_wp2_with fail
  refine bodyPost_ret (parts_back rfl rfl rfl (hk2 _ _ _ _)) rfl ?_
  exact ⟨by rw [show ptsOf 11 = [.reg, .to] from by decide, show isK 11 = true from by decide]; rfl, bk2 _ _ _ _⟩
set_option maxRecDepth 100000 in
set_option maxHeartbeats 400000 in
theorem parts_12 (w : World) : Calls Tryz.prog 68 #[.int .u8 12] w (PartsR 12 w) := by
  go_enter Tryz.func68, Tryz.ntmps68
  go_wp2_with fail
  refine (mk_to _).mono ?_
  rintro e w' ⟨rfl, rfl⟩
  unfold pv pc fF dF pF gF
  go_wp2_with fail
  refine bodyPost_ret (parts_back rfl rfl rfl (hk1 _ _ _)) rfl ?_
  exact ⟨by rw [show ptsOf 12 = [.to] from by decide, show isK 12 = true from by decide]; rfl, bk1 _ _ _⟩
set_option maxRecDepth 100000 in
set_option maxHeartbeats 400000 in
theorem parts_13 (w : World) : Calls Tryz.prog 68 #[.int .u8 13] w (PartsR 13 w) := by
  go_enter Tryz.func68, Tryz.ntmps68
  go_wp2_with fail
  refine bodyPost_ret (parts_back rfl rfl rfl (hk0 _ _)) rfl ?_
  exact ⟨by rw [show ptsOf 13 = [] from by decide, show isK 13 = true from by decide]; rfl, bk0 _ _⟩
set_option maxRecDepth 100000 in
set_option maxHeartbeats 400000 in
theorem parts_14 (w : World) : Calls Tryz.prog 68 #[.int .u8 14] w (PartsR 14 w) := by
  go_enter Tryz.func68, Tryz.ntmps68
  go_wp2_with fail
  refine (mk_num _).mono ?_
  rintro e w' ⟨rfl, rfl⟩
  unfold pv pc fF dF pF gF
  go_wp2_with fail
  refine bodyPost_ret (parts_back rfl rfl rfl (hk1 _ _ _)) rfl ?_
  exact ⟨by rw [show ptsOf 14 = [.num] from by decide, show isK 14 = true from by decide]; rfl, bk1 _ _ _⟩

end Go.Proofs.YtdnpoeegefkoiaaGreat
