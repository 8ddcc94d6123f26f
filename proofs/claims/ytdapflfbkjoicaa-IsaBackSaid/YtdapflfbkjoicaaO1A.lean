/-
  Contracts of octet.isHalf, Pair, Halves and the document's Pair.
-/
import Derived.Test.YtdapflfbkjoicaaProg
import Derived.WalkKit
import Derived.WalkSpells
import Derived.WalkLawsBesides
import Derived.Lib.Hide
namespace Go.Proofs.Ytdapflfbkjoicaa
open Go.RowKit

def isHalfB (n : Int) : Bool := decide (0 ≤ n ∧ n < 16)

set_option maxHeartbeats 400000 in
theorem isHalf_any (n : Int) (w : World) :
    Calls Try.prog 100 #[.int .i64 n] w fun e w' => e = .returned (.bool (isHalfB n)) ∧ w = w' := by
  by_cases h1 : 0 ≤ n <;> by_cases h2 : n < 16
  all_goals
    go_enter Try.func100, Try.ntmps100
    go_wp2
    go_ret
    refine ⟨?_, rfl⟩
    simp [isHalfB, *]

def pairB (h l : Int) : Bool := decide (0 ≤ h ∧ h < 16 ∧ 0 ≤ l ∧ l < 16)
def pairV (h l : Int) : Int := if pairB h l = true then h * 16 + l else 0

set_option maxHeartbeats 400000 in
theorem pair_any (h l : Int) (w : World) :
    Calls Try.prog 73 #[.int .i64 h, .int .i64 l] w fun e w' => e = .returned (.tuple #[.int .u8 (pairV h l), .bool (pairB h l)]) ∧ w = w' := by
  by_cases h1 : 0 ≤ h <;> by_cases h2 : h < 16 <;> by_cases h3 : 0 ≤ l <;> by_cases h4 : l < 16
  all_goals
    go_enter Try.func73, Try.ntmps73
    go_wp2
    go_ret2
    refine ⟨?_, rfl⟩
    (simp [pairV, pairB, *]) <;> omega

set_option maxHeartbeats 400000 in
theorem halves_any (x : Int) (w : World) (h0 : 0 ≤ x) (h1 : x < 256) :
    Calls Try.prog 75 #[.int .u8 x] w fun e w' => e = .returned (.tuple #[.int .i64 (x / 16), .int .i64 (x % 16)]) ∧ w = w' := by
  go_enter Try.func75, Try.ntmps75
  go_wp2
  go_ret2
  exact ⟨rfl, rfl⟩

end Go.Proofs.Ytdapflfbkjoicaa
