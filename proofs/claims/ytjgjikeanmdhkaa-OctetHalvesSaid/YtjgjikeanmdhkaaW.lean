/-
  The walk of OctetHalves.
-/
import Derived.Test.YtjgjikeanmdhkaaV
import Derived.Test.YtjgjikeanmdhkaaB
namespace Go.Proofs.Ytjgjikeanmdhkaa
open Go.RowKit

theorem pair_back (x : Int) (h0 : 0 ≤ x) (h1 : x < 256) (w : World) : Calls Try.prog 8 #[.int .i64 (x / 16), .int .i64 (x % 16)] w fun e w' => e = .returned (.tuple #[.int .u8 x, .bool true]) ∧ w = w' := by
  have := pair_any (x / 16) (x % 16) w
  have hb := pair_is (x / 16) (x % 16) x h0 h1 rfl rfl
  rwa [← hb.1, hb.2] at this

set_option maxRecDepth 100000 in
set_option maxHeartbeats 1000000 in
theorem octetHalves_any (h l x : Int) (w : World) (h0 : 0 ≤ x) (h1 : x < 256) : Calls Try.prog 3 #[.int .i64 h, .int .i64 l, .int .u8 x] w (Yes w) := by
  go_enter Try.func3, Try.ntmps3
  go_wp2_with fail
  refine (pair_any h l _).mono ?_
  rintro e w' ⟨rfl, rfl⟩
  go_wp2_with fail
  refine (refPair_any h l _).mono ?_
  rintro e w' ⟨rfl, rfl⟩
  generalize pairV h l = v
  generalize pairB h l = b
  go_wp2_with fail
  refine (halves_any x _ h0 h1).mono ?_
  rintro e w' ⟨rfl, rfl⟩
  go_wp2_with fail
  refine (pair_back x h0 h1 _).mono ?_
  rintro e w' ⟨rfl, rfl⟩
  go_wp2_with fail
  refine (works_any _).mono ?_
  rintro e w' ⟨rfl, hb⟩
  go_wp2
  go_ret
  exact ⟨rfl, hb⟩

end Go.Proofs.Ytjgjikeanmdhkaa
