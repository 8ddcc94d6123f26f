/-
  Contracts of One: the byte at a place.
-/
import Derived.Test.YtdapflfbkjoicaaO1C
import Derived.Test.YtdapflfbkjoicaaKM
namespace Go.Proofs.Ytdapflfbkjoicaa
open Go.RowKit

/-- what One answers: the byte, the place behind it, the error -/
def oneX (l : List UInt8) (i : Int) : Int := if stV l.length i 1 = 0 then ((l.getD i.toNat 0).toNat : Int) else 0
def oneN (l : List UInt8) (i : Int) : Int := if stV l.length i 1 = 0 then i + 1 else 0

theorem one_bad {l : List UInt8} {i : Int} (h : ¬ (0 ≤ i ∧ i < l.length)) : stV l.length i 1 ≠ 0 := by
  unfold stV; split
  · omega
  · split <;> omega

set_option maxHeartbeats 400000 in
theorem one_any (A : Option Addr) (c : Nat) (l : List UInt8) (i : Int) (w : World) (B : Nat) (hn : l.length ≤ 1099511627776) (h : Lies w B A l) :
    Calls Try.prog 34 #[.slice A l.length c, .int .i64 i] w fun e w' => e = .returned (.tuple #[.int .u8 (oneX l i), .int .i64 (oneN l i), .int .i64 (stV l.length i 1)]) ∧ w = w' := by
  by_cases hi : 0 ≤ i ∧ i < l.length
  · obtain ⟨k, rfl⟩ : ∃ k : Nat, i = k := ⟨i.toNat, by omega⟩
    have hk : k < l.length := by omega
    have hv : stV l.length k 1 = 0 := st_ok (by omega) (by omega) (by omega)
    have hx : oneX l k = (l[k].toNat : Int) := by simp [oneX, hv, hk]
    have hN : oneN l k = (k : Int) + 1 := by simp [oneN, hv]
    have hst := stands_any A l.length c k 1 w hn (by omega)
    rw [hv] at hst
    rw [hv, hx, hN]
    obtain ⟨g, o, rfl, _, hc⟩ := h.at_ hk
    clear h hi hv hx hN
    have Hst := Lib.hid hst
    clear hst
    go_enter Try.func34, Try.ntmps34
    go_wp2_with (go_at_call 46; refine Hst.out.mono ?_; rintro e w' ⟨rfl, rfl⟩)
    go_ret3
    exact ⟨rfl, rfl⟩
  · have hv := one_bad hi
    have hx : oneX l i = 0 := by simp [oneX, hv]
    have hN : oneN l i = 0 := by simp [oneN, hv]
    have hst := stands_any A l.length c i 1 w hn (by omega)
    rw [hx, hN]
    generalize stV l.length i 1 = v at *
    have hvb : (v != 0) = true := by simpa using hv
    have Hst := Lib.hid hst
    clear hst h hi hv hx hN
    go_enter Try.func34, Try.ntmps34
    go_wp2_with (go_at_call 46; refine Hst.out.mono ?_; rintro e w' ⟨rfl, rfl⟩)
    go_ret3
    exact ⟨rfl, rfl⟩

set_option maxHeartbeats 400000 in
theorem refOne_any (A : Option Addr) (c : Nat) (l : List UInt8) (i : Int) (w : World) (B : Nat) (hn : l.length ≤ 1099511627776) (h : Lies w B A l) :
    Calls Try.prog 36 #[.slice A l.length c, .int .i64 i] w fun e w' => e = .returned (.tuple #[.int .u8 (oneX l i), .int .i64 (oneN l i), .int .i64 (stV l.length i 1)]) ∧ w = w' := by
  by_cases hi : 0 ≤ i ∧ i < l.length
  · obtain ⟨k, rfl⟩ : ∃ k : Nat, i = k := ⟨i.toNat, by omega⟩
    have hk : k < l.length := by omega
    have hv : stV l.length k 1 = 0 := st_ok (by omega) (by omega) (by omega)
    have hx : oneX l k = (l[k].toNat : Int) := by simp [oneX, hv, hk]
    have hN : oneN l k = (k : Int) + 1 := by simp [oneN, hv]
    have hst := have_any A l.length c k 1 w hn (by omega)
    rw [hv] at hst
    rw [hv, hx, hN]
    obtain ⟨g, o, rfl, _, hc⟩ := h.at_ hk
    clear h hi hv hx hN
    have Hst := Lib.hid hst
    clear hst
    go_enter Try.func36, Try.ntmps36
    go_wp2_with (go_at_call 47; refine Hst.out.mono ?_; rintro e w' ⟨rfl, rfl⟩)
    go_ret3
    exact ⟨rfl, rfl⟩
  · have hv := one_bad hi
    have hx : oneX l i = 0 := by simp [oneX, hv]
    have hN : oneN l i = 0 := by simp [oneN, hv]
    have hst := have_any A l.length c i 1 w hn (by omega)
    rw [hx, hN]
    generalize stV l.length i 1 = v at *
    have hvb : (v != 0) = true := by simpa using hv
    have Hst := Lib.hid hst
    clear hst h hi hv hx hN
    go_enter Try.func36, Try.ntmps36
    go_wp2_with (go_at_call 47; refine Hst.out.mono ?_; rintro e w' ⟨rfl, rfl⟩)
    go_ret3
    exact ⟨rfl, rfl⟩

end Go.Proofs.Ytdapflfbkjoicaa
