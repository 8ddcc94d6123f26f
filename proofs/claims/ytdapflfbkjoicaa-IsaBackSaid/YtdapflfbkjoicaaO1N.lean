/-
  Numbers: a byte laid behind others by 'or'.
-/
import Derived.Laws.BitsAllLaws
import Derived.Laws.BitsLemmas
namespace Go.Proofs.Ytdapflfbkjoicaa

theorem ofInt64 (a : Nat) (ha : a < 9223372036854775808) : (BitVec.ofInt 64 (a : Int)).toNat = a := by
  rw [BitVec.ofInt_natCast, BitVec.toNat_ofNat]; exact Nat.mod_eq_of_lt (by omega)

theorem or_nat (a b : Nat) (ha : a < 9223372036854775808) (hb : b < 9223372036854775808) : bits .or .i64 (a : Int) (b : Int) = ((a ||| b : Nat) : Int) := by
  have hx : a ||| b < 2 ^ 63 := Nat.or_lt_two_pow (by omega) (by omega)
  show IntKind.i64.wrap ((BitVec.ofInt 64 (a : Int) ||| BitVec.ofInt 64 (b : Int)).toNat : Int) = _
  rw [BitVec.toNat_or, ofInt64 a ha, ofInt64 b hb, IntKind.wrap_i64]
  omega

theorem or_byte (a : Nat) (x : UInt8) (ha : a < 70368744177664) : bits .or .i64 ((a : Int) * 256) (x.toNat : Int) = 256 * (a : Int) + (x.toNat : Int) := by
  have hx := x.toNat_lt
  have e : (256 * a ||| x.toNat) = 256 * a + x.toNat := (Nat.two_pow_add_eq_or_of_lt (i := 8) (by simpa using hx) a).symm
  have h := or_nat (256 * a) x.toNat (by omega) (by omega)
  rw [e] at h
  have c : ((a : Int) * 256) = ((256 * a : Nat) : Int) := by omega
  rw [c, h]; omega

theorem or_zero (x : UInt8) : bits .or .i64 0 (x.toNat : Int) = (x.toNat : Int) := by
  have := or_byte 0 x (by omega)
  simpa using this

end Go.Proofs.Ytdapflfbkjoicaa
