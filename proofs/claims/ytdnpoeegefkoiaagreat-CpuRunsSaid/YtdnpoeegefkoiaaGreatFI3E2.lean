/-
  Merged for a claim: I3E2.
-/
import Derived.Test.YtdnpoeegefkoiaaGreatFI3E
namespace Go.Proofs.YtdnpoeegefkoiaaGreat
open Go.RowKit

set_option maxRecDepth 100000 in
set_option maxHeartbeats 400000 in
theorem parts_6 (w : World) : Calls Tryz.prog 68 #[.int .u8 6] w (PartsR 6 w) := by
  go_enter Tryz.func68, Tryz.ntmps68
  go_wp2_with fail
  refine (mk_both _).mono ?_
  rintro e w' ⟨rfl, rfl⟩
  unfold pv pc fF dF pF gF
  go_wp2_with fail
  refine (mk_num _).mono ?_
  rintro e w' ⟨rfl, rfl⟩
  unfold pv pc fF dF pF gF
  go_wp2_with fail
  refine bodyPost_ret (parts_back rfl rfl rfl (hk2 _ _ _ _)) rfl ?_
  exact ⟨by rw [show ptsOf 6 = [.both, .num] from by decide, show isK 6 = true from by decide]; rfl, bk2 _ _ _ _⟩
set_option maxRecDepth 100000 in
set_option maxHeartbeats 400000 in
theorem parts_7 (w : World) : Calls Tryz.prog 68 #[.int .u8 7] w (PartsR 7 w) := by
  go_enter Tryz.func68, Tryz.ntmps68
  go_wp2_with fail
  refine (mk_both _).mono ?_
  rintro e w' ⟨rfl, rfl⟩
  unfold pv pc fF dF pF gF
  go_wp2_with fail
  refine (mk_num _).mono ?_
  rintro e w' ⟨rfl, rfl⟩
  unfold pv pc fF dF pF gF
  go_wp2_with fail
  refine bodyPost_ret (parts_back rfl rfl rfl (hk2 _ _ _ _)) rfl ?_
  exact ⟨by rw [show ptsOf 7 = [.both, .num] from by decide, show isK 7 = true from by decide]; rfl, bk2 _ _ _ _⟩
set_option maxRecDepth 100000 in
set_option maxHeartbeats 400000 in
theorem parts_8 (w : World) : Calls Tryz.prog 68 #[.int .u8 8] w (PartsR 8 w) := by
  go_enter Tryz.func68, Tryz.ntmps68
  go_wp2_with fail
  refine (mk_both _).mono ?_
  rintro e w' ⟨rfl, rfl⟩
  unfold pv pc fF dF pF gF
  go_wp2_with fail
  refine (mk_third _).mono ?_
  rintro e w' ⟨rfl, rfl⟩
  unfold pv pc fF dF pF gF
  go_wp2_with fail
  refine (mk_num _).mono ?_
  rintro e w' ⟨rfl, rfl⟩
  unfold pv pc fF dF pF gF
  go_wp2_with fail
  refine (mk_many _).mono ?_
  rintro e w' ⟨rfl, rfl⟩
  unfold pv pc fF dF pF gF
  go_wp2_with fail
  refine bodyPost_ret (parts_back rfl rfl rfl (hk4 _ _ _ _ _ _)) rfl ?_
  exact ⟨by rw [show ptsOf 8 = [.both, .third, .num, .many] from by decide, show isK 8 = true from by decide]; rfl, bk4 _ _ _ _ _ _⟩
set_option maxRecDepth 100000 in
set_option maxHeartbeats 400000 in
theorem parts_9 (w : World) : Calls Tryz.prog 68 #[.int .u8 9] w (PartsR 9 w) := by
  go_enter Tryz.func68, Tryz.ntmps68
  go_wp2_with fail
  refine (mk_both _).mono ?_
  rintro e w' ⟨rfl, rfl⟩
  unfold pv pc fF dF pF gF
  go_wp2_with fail
  refine (mk_third _).mono ?_
  rintro e w' ⟨rfl, rfl⟩
  unfold pv pc fF dF pF gF
  go_wp2_with fail
  refine (mk_num _).mono ?_
  rintro e w' ⟨rfl, rfl⟩
  unfold pv pc fF dF pF gF
  go_wp2_with fail
  refine (mk_many _).mono ?_
  rintro e w' ⟨rfl, rfl⟩
  unfold pv pc fF dF pF gF
  go_wp2_with fail
  refine bodyPost_ret (parts_back rfl rfl rfl (hk4 _ _ _ _ _ _)) rfl ?_
  exact ⟨by rw [show ptsOf 9 = [.both, .third, .num, .many] from by decide, show isK 9 = true from by decide]; rfl, bk4 _ _ _ _ _ _⟩

end Go.Proofs.YtdnpoeegefkoiaaGreat
