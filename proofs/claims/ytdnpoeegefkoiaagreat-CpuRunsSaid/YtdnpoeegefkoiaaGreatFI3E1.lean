/-
  Merged for a claim: I3E1.
-/
import Derived.Test.YtdnpoeegefkoiaaGreatFI3E
namespace Go.Proofs.YtdnpoeegefkoiaaGreat
open Go.RowKit

set_option maxRecDepth 100000 in
set_option maxHeartbeats 400000 in
theorem parts_1 (w : World) : Calls Tryz.prog 68 #[.int .u8 1] w (PartsR 1 w) := by
  go_enter Tryz.func68, Tryz.ntmps68
  go_wp2_with fail
  refine bodyPost_ret (parts_back rfl rfl rfl (hk0 _ _)) rfl ?_
  exact ⟨by rw [show ptsOf 1 = [] from by decide, show isK 1 = true from by decide]; rfl, bk0 _ _⟩
set_option maxRecDepth 100000 in
set_option maxHeartbeats 400000 in
theorem parts_2 (w : World) : Calls Tryz.prog 68 #[.int .u8 2] w (PartsR 2 w) := by
  go_enter Tryz.func68, Tryz.ntmps68
  go_wp2_with fail
  refine (mk_reg _).mono ?_
  rintro e w' ⟨rfl, rfl⟩
  unfold pv pc fF dF pF gF
  go_wp2_with fail
  refine (mk_num _).mono ?_
  rintro e w' ⟨rfl, rfl⟩
  unfold pv pc fF dF pF gF
  go_wp2_with fail
  refine bodyPost_ret (parts_back rfl rfl rfl (hk2 _ _ _ _)) rfl ?_
  exact ⟨by rw [show ptsOf 2 = [.reg, .num] from by decide, show isK 2 = true from by decide]; rfl, bk2 _ _ _ _⟩
set_option maxRecDepth 100000 in
set_option maxHeartbeats 400000 in
theorem parts_3 (w : World) : Calls Tryz.prog 68 #[.int .u8 3] w (PartsR 3 w) := by
  go_enter Tryz.func68, Tryz.ntmps68
  go_wp2_with fail
  refine (mk_both _).mono ?_
  rintro e w' ⟨rfl, rfl⟩
  unfold pv pc fF dF pF gF
  go_wp2_with fail
  refine bodyPost_ret (parts_back rfl rfl rfl (hk1 _ _ _)) rfl ?_
  exact ⟨by rw [show ptsOf 3 = [.both] from by decide, show isK 3 = true from by decide]; rfl, bk1 _ _ _⟩
set_option maxRecDepth 100000 in
set_option maxHeartbeats 400000 in
theorem parts_4 (w : World) : Calls Tryz.prog 68 #[.int .u8 4] w (PartsR 4 w) := by
  go_enter Tryz.func68, Tryz.ntmps68
  go_wp2_with fail
  refine (mk_op _).mono ?_
  rintro e w' ⟨rfl, rfl⟩
  unfold pv pc fF dF pF gF
  go_wp2_with fail
  refine (mk_both _).mono ?_
  rintro e w' ⟨rfl, rfl⟩
  unfold pv pc fF dF pF gF
  go_wp2_with fail
  refine (mk_third _).mono ?_
  rintro e w' ⟨rfl, rfl⟩
  unfold pv pc fF dF pF gF
  go_wp2_with fail
  refine bodyPost_ret (parts_back rfl rfl rfl (hk3 _ _ _ _ _)) rfl ?_
  exact ⟨by rw [show ptsOf 4 = [.op, .both, .third] from by decide, show isK 4 = true from by decide]; rfl, bk3 _ _ _ _ _⟩
set_option maxRecDepth 100000 in
set_option maxHeartbeats 400000 in
theorem parts_5 (w : World) : Calls Tryz.prog 68 #[.int .u8 5] w (PartsR 5 w) := by
  go_enter Tryz.func68, Tryz.ntmps68
  go_wp2_with fail
  refine (mk_op _).mono ?_
  rintro e w' ⟨rfl, rfl⟩
  unfold pv pc fF dF pF gF
  go_wp2_with fail
  refine (mk_both _).mono ?_
  rintro e w' ⟨rfl, rfl⟩
  unfold pv pc fF dF pF gF
  go_wp2_with fail
  refine bodyPost_ret (parts_back rfl rfl rfl (hk2 _ _ _ _)) rfl ?_
  exact ⟨by rw [show ptsOf 5 = [.op, .both] from by decide, show isK 5 = true from by decide]; rfl, bk2 _ _ _ _⟩

end Go.Proofs.YtdnpoeegefkoiaaGreat
