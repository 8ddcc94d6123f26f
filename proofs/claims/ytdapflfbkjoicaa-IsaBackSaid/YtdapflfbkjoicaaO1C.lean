/-
  Contracts of stands and have: is there so much from a place on.
-/
import Derived.Test.YtdapflfbkjoicaaO1A
import Derived.Below
import Derived.Laws.OwnMore
import Derived.Deep.AppendLies
import Derived.Deep.Draws
import Derived.Deep.QuietTactic
import Derived.BigQuiet
import Derived.RegionTactic
namespace Go.Proofs.Ytdapflfbkjoicaa
open Go.RowKit

/-- what is told of so many bytes from a place on: 1, 5, or 0 -/
def stV (n : Nat) (i s : Int) : Int := if i < 0 ∨ (n : Int) < i then 1 else if (n : Int) - i < s then 5 else 0

theorem st_arg {n : Nat} {i s : Int} (h : i < 0 ∨ (n : Int) < i) : stV n i s = 1 := by simp [stV, h]
theorem st_form {n : Nat} {i s : Int} (h0 : 0 ≤ i) (h1 : i ≤ n) (h : (n : Int) - i < s) : stV n i s = 5 := by
  unfold stV; rw [if_neg (by omega), if_pos h]
theorem st_ok {n : Nat} {i s : Int} (h0 : 0 ≤ i) (h1 : i ≤ n) (h : s ≤ (n : Int) - i) : stV n i s = 0 := by
  unfold stV; rw [if_neg (by omega), if_neg (by omega)]

set_option maxHeartbeats 400000 in
theorem stands_any (A : Option Addr) (n c : Nat) (i s : Int) (w : World) (hn : n ≤ 1099511627776) (_ : 0 ≤ s) :
    Calls Try.prog 46 #[.slice A n c, .int .i64 i, .int .i64 s] w fun e w' => e = .returned (.int .i64 (stV n i s)) ∧ w = w' := by
  by_cases h1 : i < 0
  · rw [st_arg (.inl h1)]
    go_enter Try.func46, Try.ntmps46
    go_wp2
    go_ret
    exact ⟨rfl, rfl⟩
  by_cases h2 : (n : Int) < i
  · rw [st_arg (.inr h2)]
    go_enter Try.func46, Try.ntmps46
    go_wp2
    go_ret
    exact ⟨rfl, rfl⟩
  by_cases h3 : (n : Int) - i < s
  · rw [st_form (by omega) (by omega) h3]
    go_enter Try.func46, Try.ntmps46
    go_wp2
    go_ret
    exact ⟨rfl, rfl⟩
  · rw [st_ok (by omega) (by omega) (by omega)]
    go_enter Try.func46, Try.ntmps46
    go_wp2
    go_ret
    exact ⟨rfl, rfl⟩

set_option maxHeartbeats 400000 in
theorem have_any (A : Option Addr) (n c : Nat) (i s : Int) (w : World) (hn : n ≤ 1099511627776) (_ : 0 ≤ s) :
    Calls Try.prog 47 #[.slice A n c, .int .i64 i, .int .i64 s] w fun e w' => e = .returned (.int .i64 (stV n i s)) ∧ w = w' := by
  by_cases h1 : i < 0
  · rw [st_arg (.inl h1)]
    go_enter Try.func47, Try.ntmps47
    go_wp2
    go_ret
    exact ⟨rfl, rfl⟩
  by_cases h2 : (n : Int) < i
  · rw [st_arg (.inr h2)]
    go_enter Try.func47, Try.ntmps47
    go_wp2
    go_ret
    exact ⟨rfl, rfl⟩
  by_cases h3 : (n : Int) - i < s
  · rw [st_form (by omega) (by omega) h3]
    go_enter Try.func47, Try.ntmps47
    go_wp2
    go_ret
    exact ⟨rfl, rfl⟩
  · rw [st_ok (by omega) (by omega) (by omega)]
    go_enter Try.func47, Try.ntmps47
    go_wp2
    go_ret
    exact ⟨rfl, rfl⟩

end Go.Proofs.Ytdapflfbkjoicaa
