/-
  Merged for a claim: I3E4.
-/
import Derived.Test.YtdnpoeegefkoiaaGreatFI3E
namespace Go.Proofs.YtdnpoeegefkoiaaGreat
open Go.RowKit

set_option maxRecDepth 100000 in
set_option maxHeartbeats 400000 in
theorem parts_15 (w : World) : Calls Tryz.prog 68 #[.int .u8 15] w (PartsR 15 w) := by
  go_enter Tryz.func68, Tryz.ntmps68
  go_wp2_with fail
  refine (mk_reg _).mono ?_
  rintro e w' ⟨rfl, rfl⟩
  unfold pv pc fF dF pF gF
  go_wp2_with fail
  refine bodyPost_ret (parts_back rfl rfl rfl (hk1 _ _ _)) rfl ?_
  exact ⟨by rw [show ptsOf 15 = [.reg] from by decide, show isK 15 = true from by decide]; rfl, bk1 _ _ _⟩
set_option maxRecDepth 100000 in
set_option maxHeartbeats 400000 in
theorem parts_16 (w : World) : Calls Tryz.prog 68 #[.int .u8 16] w (PartsR 16 w) := by
  go_enter Tryz.func68, Tryz.ntmps68
  go_wp2_with fail
  refine (mk_reg _).mono ?_
  rintro e w' ⟨rfl, rfl⟩
  unfold pv pc fF dF pF gF
  go_wp2_with fail
  refine bodyPost_ret (parts_back rfl rfl rfl (hk1 _ _ _)) rfl ?_
  exact ⟨by rw [show ptsOf 16 = [.reg] from by decide, show isK 16 = true from by decide]; rfl, bk1 _ _ _⟩
set_option maxRecDepth 100000 in
set_option maxHeartbeats 400000 in
theorem parts_17 (w : World) : Calls Tryz.prog 68 #[.int .u8 17] w (PartsR 17 w) := by
  go_enter Tryz.func68, Tryz.ntmps68
  go_wp2_with fail
  refine (mk_reg _).mono ?_
  rintro e w' ⟨rfl, rfl⟩
  unfold pv pc fF dF pF gF
  go_wp2_with fail
  refine bodyPost_ret (parts_back rfl rfl rfl (hk1 _ _ _)) rfl ?_
  exact ⟨by rw [show ptsOf 17 = [.reg] from by decide, show isK 17 = true from by decide]; rfl, bk1 _ _ _⟩
set_option maxRecDepth 100000 in
set_option maxHeartbeats 400000 in
theorem parts_18 (w : World) : Calls Tryz.prog 68 #[.int .u8 18] w (PartsR 18 w) := by
  go_enter Tryz.func68, Tryz.ntmps68
  go_wp2_with fail
  refine (mk_how _).mono ?_
  rintro e w' ⟨rfl, rfl⟩
  unfold pv pc fF dF pF gF
  go_wp2_with fail
  refine bodyPost_ret (parts_back rfl rfl rfl (hk1 _ _ _)) rfl ?_
  exact ⟨by rw [show ptsOf 18 = [.how] from by decide, show isK 18 = true from by decide]; rfl, bk1 _ _ _⟩

end Go.Proofs.YtdnpoeegefkoiaaGreat
