/-
  Merged for a claim: L2B, L2E, L2F, KR.
-/
import Derived.Test.YtbkfkdiadeaooaaGreatHJ0
import Derived.Test.YtbkfkdiadeaooaaGreatHJ2
import Derived.Deep.QuietTactic
import Derived.BigQuiet
import Derived.Test.YtbkfkdiadeaooaaGreatProg
import Derived.OwnWalk
import Derived.Laws.Rows
import Derived.Laws.ResultCell
namespace Go.Proofs.YtbkfkdiadeaooaaGreat
open Go.RowKit

theorem two_split (m n : Nat) (h : n ≤ m) : (2 : Int) ^ m = 2 ^ (m - n) * 2 ^ n := by rw [← Int.pow_add]; congr 1; omega

theorem toldU_val (x : Int) (n : Nat) (hn2 : n ≤ 9) : IntKind.u64.wrap (x * 2 ^ (64 - 7 * n)) / 2 ^ (64 - 7 * n) = x % pw n := by
  have hp : (0 : Int) < 2 ^ (64 - 7 * n) := Int.pow_pos (by omega)
  rw [IntKind.wrap_u64]
  rw [show (18446744073709551616 : Int) = 2 ^ (64 - 7 * n) * pw n from by
    have : (18446744073709551616 : Int) = 2 ^ 64 := by decide
    rw [this, two_split 64 (7 * n) (by omega)]; rfl]
  rw [Int.mul_comm x, Int.mul_emod_mul_of_pos _ _ hp, Int.mul_ediv_cancel_left _ (by omega)]

theorem toldS_val (x : Int) (n : Nat) (h1 : 1 ≤ n) (hn2 : n ≤ 9) : IntKind.i64.wrap (x * 2 ^ (64 - 7 * n)) / 2 ^ (64 - 7 * n) = (x + 64 * pw (n - 1)) % pw n - 64 * pw (n - 1) := by
  have hp : (0 : Int) < 2 ^ (64 - 7 * n) := Int.pow_pos (by omega)
  obtain ⟨k, rfl⟩ : ∃ k, n = k + 1 := ⟨n - 1, by omega⟩
  have hk := pw_succ k
  have hu := pw_pos k
  have e : 2 ^ (64 - 7 * (k + 1)) * pw (k + 1) = 18446744073709551616 := by
    have : (18446744073709551616 : Int) = 2 ^ 64 := by decide
    rw [this, two_split 64 (7 * (k + 1)) (by omega)]; rfl
  simp only [Nat.add_sub_cancel]
  generalize (2 : Int) ^ (64 - 7 * (k + 1)) = q at *
  have e2 : q * (64 * pw k) = 9223372036854775808 := by
    rw [hk] at e
    have : q * (128 * pw k) = 2 * (q * (64 * pw k)) := by rw [← Int.mul_assoc, ← Int.mul_assoc, ← Int.mul_assoc]; congr 1; omega
    omega
  rw [IntKind.wrap_i64, show x * q + 9223372036854775808 = q * (x + 64 * pw k) from by rw [Int.mul_add, e2, Int.mul_comm], ← e, Int.mul_emod_mul_of_pos _ _ hp]
  rw [← e2, ← Int.mul_sub, Int.mul_ediv_cancel_left _ (by omega)]

theorem wrapEq (x : Int) : IntKind.i64.wrap x = wrap64 x := by unfold wrap64; exact IntKind.wrap_i64 x

def kd (b : Bool) : IntKind := if b = true then .i64 else .u64

theorem or_ofInt (a b i : Nat) (ha : a < 2 ^ i) : BitVec.ofInt 64 (a : Int) ||| BitVec.ofInt 64 ((2 ^ i * b : Nat) : Int) = BitVec.ofInt 64 ((2 ^ i * b + a : Nat) : Int) := by
  rw [BitVec.ofInt_natCast, BitVec.ofInt_natCast, BitVec.ofInt_natCast, Nat.two_pow_add_eq_or_of_lt ha, BitVec.ofNat_or, BitVec.or_comm]

theorem ofInt_wrapU (x : Int) : BitVec.ofInt 64 (IntKind.u64.wrap x) = BitVec.ofInt 64 x := by
  apply BitVec.eq_of_toNat_eq
  rw [BitVec.toNat_ofInt, BitVec.toNat_ofInt, IntKind.wrap_u64]
  congr 1
  show x % 18446744073709551616 % 18446744073709551616 = x % 18446744073709551616
  omega
theorem ofInt_wrapS (x : Int) : BitVec.ofInt 64 (IntKind.i64.wrap x) = BitVec.ofInt 64 x := by
  apply BitVec.eq_of_toNat_eq
  rw [BitVec.toNat_ofInt, BitVec.toNat_ofInt, IntKind.wrap_i64]
  congr 1
  show ((x + 9223372036854775808) % 18446744073709551616 - 9223372036854775808) % 18446744073709551616 = x % 18446744073709551616
  omega
theorem wrapU_toNat (x : Int) : IntKind.u64.wrap ((BitVec.ofInt 64 x).toNat : Int) = IntKind.u64.wrap x := by
  rw [BitVec.toNat_ofInt, IntKind.wrap_u64, IntKind.wrap_u64]
  show ((x % 18446744073709551616).toNat : Int) % 18446744073709551616 = x % 18446744073709551616
  omega
theorem wrapS_toNat (x : Int) : IntKind.i64.wrap ((BitVec.ofInt 64 x).toNat : Int) = IntKind.i64.wrap x := by
  rw [BitVec.toNat_ofInt, IntKind.wrap_i64, IntKind.wrap_i64]
  show (((x % 18446744073709551616).toNat : Int) + 9223372036854775808) % 18446744073709551616 - 9223372036854775808 = (x + 9223372036854775808) % 18446744073709551616 - 9223372036854775808
  omega

theorem orU (a : Int) (k : Nat) (e : Int) (h0 : 0 ≤ a) (ha : a < pw k) (he : 0 ≤ e) : bits .or .u64 a (IntKind.u64.wrap (e * 2 ^ (7 * k))) = IntKind.u64.wrap (a + pw k * e) := by
  obtain ⟨d, rfl⟩ := Int.eq_ofNat_of_zero_le he
  show IntKind.u64.wrap ((BitVec.ofInt 64 a ||| BitVec.ofInt 64 (IntKind.u64.wrap ((d : Int) * 2 ^ (7 * k)))).toNat : Int) = _
  obtain ⟨n, rfl⟩ := Int.eq_ofNat_of_zero_le h0
  have hn : n < 2 ^ (7 * k) := by unfold pw at ha; exact_mod_cast ha
  rw [ofInt_wrapU, show (d : Int) * 2 ^ (7 * k) = ((2 ^ (7 * k) * d : Nat) : Int) from by rw [Int.mul_comm]; simp, or_ofInt n d _ hn, wrapU_toNat]
  congr 1
  unfold pw
  rw [Int.add_comm]; simp
theorem orS (a : Int) (k : Nat) (e : Int) (h0 : 0 ≤ a) (ha : a < pw k) (he : 0 ≤ e) : bits .or .i64 a (IntKind.i64.wrap (e * 2 ^ (7 * k))) = IntKind.i64.wrap (a + pw k * e) := by
  obtain ⟨d, rfl⟩ := Int.eq_ofNat_of_zero_le he
  show IntKind.i64.wrap ((BitVec.ofInt 64 a ||| BitVec.ofInt 64 (IntKind.i64.wrap ((d : Int) * 2 ^ (7 * k)))).toNat : Int) = _
  obtain ⟨n, rfl⟩ := Int.eq_ofNat_of_zero_le h0
  have hn : n < 2 ^ (7 * k) := by unfold pw at ha; exact_mod_cast ha
  rw [ofInt_wrapS, show (d : Int) * 2 ^ (7 * k) = ((2 ^ (7 * k) * d : Nat) : Int) from by rw [Int.mul_comm]; simp, or_ofInt n d _ hn, wrapS_toNat]
  congr 1
  unfold pw
  rw [Int.add_comm]; simp

/-- round the word -/
def wk (b : Bool) (s : Int) : Int := if b = true then IntKind.i64.wrap s else IntKind.u64.wrap s
theorem wk_in {b : Bool} {s : Int} (h0 : 0 ≤ s) (h1 : s < 9223372036854775808) : wk b s = s := by
  unfold wk; split
  · rw [IntKind.wrap_i64]; omega
  · rw [IntKind.wrap_u64]; omega
theorem wk_rng (b : Bool) (s : Int) : rng b (wk b s) := by
  unfold wk rng
  cases b
  · simp only [Bool.false_eq_true, if_false]; rw [IntKind.wrap_u64]; omega
  · simp only [if_true]; rw [IntKind.wrap_i64]; omega
theorem told_raw {b : Bool} {s : Int} {n : Nat} (h0 : 0 ≤ s) (h1 : s < pw n) (hn : 1 ≤ n) (hn2 : n ≤ 10) : told b (wk b s) n = val b s n := by
  by_cases h : n ≤ 9
  · rw [wk_in h0 (by have := pw_lt9 h; omega)]
    exact told_val h0 h1 hn h
  · obtain rfl : n = 10 := by omega
    unfold told wk val
    cases b
    · simp only [if_true, Bool.false_eq_true, if_false]; rw [IntKind.wrap_u64]
    · simp only [if_true]; rw [IntKind.wrap_i64, if_neg (by omega)]
      split <;> omega

theorem rd_step {l : List UInt8} {k j : Nat} {z : Int} (hj : j < 10) (hkj : k + j < l.length) (hz : z = sm ((l.drop k).take j)) :
    ∃ s, s = sm ((l.drop k).take (j + 1)) ∧ 0 ≤ s ∧ s < pw (j + 1) ∧ 0 ≤ z ∧ z < pw j ∧ z + pw j * ((by_ (l.drop k) j : Int) % 128) = s := by
  have hs := sm_bound ((l.drop k).take (j + 1))
  have hs2 := sm_bound ((l.drop k).take j)
  rw [List.length_take, List.length_drop, show min (j + 1) (l.length - k) = j + 1 by omega] at hs
  rw [List.length_take, List.length_drop, show min j (l.length - k) = j by omega, ← hz] at hs2
  exact ⟨_, rfl, hs.1, hs.2, hs2.1, hs2.2, by rw [hz]; exact (sm_take_succ _ _ (by simp; omega)).symm⟩

theorem rd_last {b : Bool} {l : List UInt8} {k j : Nat} {s : Int} (hj : j < 10) (hkj : k + j < l.length) (hs : s = sm ((l.drop k).take (j + 1))) (h0 : 0 ≤ s) (h1 : s < pw (j + 1))
    (hm : ∀ m, m < j → 128 ≤ by_ (l.drop k) m) (hq : by_ (l.drop k) j < 128) :
    ∃ v, rng b v ∧ told b (wk b s) (j + 1) = v ∧ ((size b v = j + 1 ∧ dgt v j = by_ (l.drop k) j ∧ rdE b l k = 0 ∧ rdX b l k = v ∧ rdN b l k = (k : Int) + (j + 1)) ∨
      (size b v ≠ j + 1 ∧ rdE b l k = 5 ∧ rdX b l k = 0 ∧ rdN b l k = 0) ∨ (size b v = j + 1 ∧ dgt v j ≠ by_ (l.drop k) j ∧ rdE b l k = 5 ∧ rdX b l k = 0 ∧ rdN b l k = 0)) := by
  have hl : lg (l.drop k) 10 = j + 1 := lg_is 10 _ (j + 1) (by omega) (by omega) (by simp; omega) (by simpa using hq) (fun m h => hm m (by omega))
  have hgi := good_iff (b := b) hl (by omega)
  rw [Nat.add_sub_cancel, ← hs] at hgi
  have hv_ : hv b (l.drop k) = val b s (j + 1) := by unfold hv; rw [hl, ← hs]
  refine ⟨val b s (j + 1), val_rng h0 h1 (by omega) (by omega), told_raw h0 h1 (by omega) (by omega), ?_⟩
  by_cases g1 : size b (val b s (j + 1)) = j + 1
  · by_cases g2 : dgt (val b s (j + 1)) j = by_ (l.drop k) j
    · have := rd_ok (b := b) (l := l) (k := k) (by omega) (hgi.2 ⟨g1, g2⟩)
      exact .inl ⟨g1, g2, this.1, by rw [this.2.1, hv_], by rw [this.2.2, hl]; simp⟩
    · have := rd_form (b := b) (l := l) (k := k) (by omega) (fun h => g2 (hgi.1 h).2)
      exact .inr (.inr ⟨g1, g2, this⟩)
  · have := rd_form (b := b) (l := l) (k := k) (by omega) (fun h => g1 (hgi.1 h).1)
    exact .inr (.inl ⟨g1, this⟩)

theorem rd_end {b : Bool} {l : List UInt8} {k j : Nat} (hk : k ≤ l.length) (hj : 10 ≤ j ∨ l.length ≤ k + j) (hm : ∀ m, m < j → 128 ≤ by_ (l.drop k) m) : rdE b l k = 5 ∧ rdX b l k = 0 ∧ rdN b l k = 0 := by
  have hl : lg (l.drop k) 10 = 0 := lg_none 10 _ fun m h1 h2 => hm m (by simp at h2; omega)
  exact rd_form hk fun h => h.1 hl

set_option maxHeartbeats 400000 in
theorem toldU_any (x : Int) (n : Nat) (w : World) (_h0 : 0 ≤ x) (_h1 : x < 18446744073709551616) (hn : 1 ≤ n) (hn2 : n ≤ 10) :
    Calls Tryz.prog 102 #[.int .u64 x, .int .i64 n] w fun e w' => e = .returned (.int .u64 (told false x n)) ∧ w = w' := by
  by_cases h : n = 10
  · have e : told false x n = x := by simp [told, h]
    have H := Lib.hid e
    have b : ((n : Int) == 10) = true := by simp; omega
    clear e h
    go_enter Tryz.func102, Tryz.ntmps102
    go_wp2
    go_ret
    exact ⟨by rw [H.out]; rfl, rfl⟩
  · have e : told false x n = x % pw n := by simp [told, h]
    have H := Lib.hid (e.trans (toldU_val x n (by omega)).symm)
    have b : ((n : Int) == 10) = false := by simp; omega
    have hn3 : n ≤ 9 := by omega
    clear e h hn2
    go_enter Tryz.func102, Tryz.ntmps102
    go_wp2
    go_ret
    exact ⟨by rw [H.out]; rfl, rfl⟩
set_option maxHeartbeats 400000 in
theorem toldS_any (x : Int) (n : Nat) (w : World) (_h0 : -9223372036854775808 ≤ x) (_h1 : x < 9223372036854775808) (hn : 1 ≤ n) (hn2 : n ≤ 10) :
    Calls Tryz.prog 113 #[.int .i64 x, .int .i64 n] w fun e w' => e = .returned (.int .i64 (told true x n)) ∧ w = w' := by
  by_cases h : n = 10
  · have e : told true x n = x := by simp [told, h]
    have H := Lib.hid e
    have b : ((n : Int) == 10) = true := by simp; omega
    clear e h
    go_enter Tryz.func113, Tryz.ntmps113
    go_wp2
    go_ret
    exact ⟨by rw [H.out]; rfl, rfl⟩
  · have e : told true x n = (x + 64 * pw (n - 1)) % pw n - 64 * pw (n - 1) := by simp [told, h]
    have H := Lib.hid (show told true x n = wrap64 (x * 2 ^ (64 - 7 * n)) / 2 ^ (64 - 7 * n) by rw [← wrapEq]; exact e.trans (toldS_val x n hn (by omega)).symm)
    have b : ((n : Int) == 10) = false := by simp; omega
    have hn3 : n ≤ 9 := by omega
    clear e h hn2
    go_enter Tryz.func113, Tryz.ntmps113
    go_wp2
    go_ret
    exact ⟨by rw [H.out]; rfl, rfl⟩
set_option maxHeartbeats 400000 in
theorem digitU_any (x : Int) (n : Nat) (w : World) (_h0 : 0 ≤ x) (_h1 : x < 18446744073709551616) (hn2 : n ≤ 9) :
    Calls Tryz.prog 97 #[.int .u64 x, .int .i64 n] w fun e w' => e = .returned (.int .u8 (dgt x n)) ∧ w = w' := by
  have H := Lib.hid (show dgt x n = x / 2 ^ (7 * n) % 256 % 128 by unfold dgt pw; omega)
  go_enter Tryz.func97, Tryz.ntmps97
  go_wp2
  go_ret
  exact ⟨by rw [H.out]; rfl, rfl⟩
set_option maxHeartbeats 400000 in
theorem digitS_any (x : Int) (n : Nat) (w : World) (_h0 : -9223372036854775808 ≤ x) (_h1 : x < 9223372036854775808) (hn2 : n ≤ 9) :
    Calls Tryz.prog 111 #[.int .i64 x, .int .i64 n] w fun e w' => e = .returned (.int .u8 (dgt x n)) ∧ w = w' := by
  have H := Lib.hid (show dgt x n = x / 2 ^ (7 * n) % 256 % 128 by unfold dgt pw; omega)
  go_enter Tryz.func111, Tryz.ntmps111
  go_wp2
  go_ret
  exact ⟨by rw [H.out]; rfl, rfl⟩

theorem lsz_yes {b : Bool} {x : Int} {n : Nat} (hn : n ≤ 10) (h : fit b x n) (he : lsz b x (10 - n) n = size b x) : size b x = n := by
  by_cases h10 : n = 10
  · subst h10; exact he.symm
  · rw [show 10 - n = (9 - n) + 1 by omega, lsz, if_pos h] at he
    exact he.symm
theorem lsz_no {b : Bool} {x : Int} {n : Nat} (hn : n ≤ 10) (h : ¬ fit b x n) (he : lsz b x (10 - n) n = size b x) : n + 1 ≤ 10 ∧ lsz b x (10 - (n + 1)) (n + 1) = size b x := by
  by_cases h10 : n = 10
  · exact absurd (.inl (by omega)) h
  · rw [show 10 - n = (9 - n) + 1 by omega, lsz, if_neg h] at he
    exact ⟨by omega, by rw [show 10 - (n + 1) = 9 - n by omega]; exact he⟩

set_option maxHeartbeats 400000 in
theorem sizeU_any (x : Int) (w : World) (h0 : 0 ≤ x) (h1 : x < 18446744073709551616) :
    Calls Tryz.prog 96 #[.int .u64 x] w fun e w' => e = .returned (.int .i64 (size false x)) ∧ w = w' := by
  go_enter Tryz.func96, Tryz.ntmps96
  go_wp2
  go_loop [3] (fun n => ∃ k : Nat, 1 ≤ k ∧ k ≤ 10 ∧ n = .int .i64 k ∧ Hid (lsz false x (10 - k) k = size false x)) (fun n => 10 - (intOf n).toNat)
  case atStart => exact ⟨1, by omega, by omega, rfl, rfl⟩
  case round =>
    obtain ⟨k, hk1, hk2, rfl, hl⟩ := hrel
    have ht := toldU_any x k w h0 h1 hk1 hk2
    by_cases hf : fit false x k
    · have HS := Lib.hid (lsz_yes hk2 hf hl.out)
      have hx := (told_fit (b := false) ⟨h0, h1⟩ hk1 hk2).2 hf
      have b : (x != x) = false := by simp
      rw [hx] at ht
      have HT := Lib.hid ht
      clear ht hx hf
      go_wp2_with (go_at_call 102; refine HT.out.mono ?_; rintro e w' ⟨rfl, rfl⟩)
      go_ret
      exact ⟨by rw [HS.out]; rfl, rfl⟩
    · obtain ⟨hk3, he⟩ := lsz_no hk2 hf hl.out
      have HS := Lib.hid he
      have hx : (told false x k != x) = true := by
        rw [bne_iff_ne]; exact fun e => hf ((told_fit (b := false) ⟨h0, h1⟩ hk1 hk2).1 e)
      generalize told false x k = t at *
      have HT := Lib.hid ht
      clear ht hf he
      go_wp2_with (go_at_call 102; refine HT.out.mono ?_; rintro e w' ⟨rfl, rfl⟩)
      go_round
      case rel => exact ⟨k + 1, by omega, hk3, by go_num, HS⟩
      case measure => simp [intOf]; omega
set_option maxHeartbeats 400000 in
theorem sizeS_any (x : Int) (w : World) (h0 : -9223372036854775808 ≤ x) (h1 : x < 9223372036854775808) :
    Calls Tryz.prog 110 #[.int .i64 x] w fun e w' => e = .returned (.int .i64 (size true x)) ∧ w = w' := by
  go_enter Tryz.func110, Tryz.ntmps110
  go_wp2
  go_loop [3] (fun n => ∃ k : Nat, 1 ≤ k ∧ k ≤ 10 ∧ n = .int .i64 k ∧ Hid (lsz true x (10 - k) k = size true x)) (fun n => 10 - (intOf n).toNat)
  case atStart => exact ⟨1, by omega, by omega, rfl, rfl⟩
  case round =>
    obtain ⟨k, hk1, hk2, rfl, hl⟩ := hrel
    have ht := toldS_any x k w h0 h1 hk1 hk2
    by_cases hf : fit true x k
    · have HS := Lib.hid (lsz_yes hk2 hf hl.out)
      have hx := (told_fit (b := true) ⟨h0, h1⟩ hk1 hk2).2 hf
      have b : (x != x) = false := by simp
      rw [hx] at ht
      have HT := Lib.hid ht
      clear ht hx hf
      go_wp2_with (go_at_call 113; refine HT.out.mono ?_; rintro e w' ⟨rfl, rfl⟩)
      go_ret
      exact ⟨by rw [HS.out]; rfl, rfl⟩
    · obtain ⟨hk3, he⟩ := lsz_no hk2 hf hl.out
      have HS := Lib.hid he
      have hx : (told true x k != x) = true := by
        rw [bne_iff_ne]; exact fun e => hf ((told_fit (b := true) ⟨h0, h1⟩ hk1 hk2).1 e)
      generalize told true x k = t at *
      have HT := Lib.hid ht
      clear ht hf he
      go_wp2_with (go_at_call 113; refine HT.out.mono ?_; rintro e w' ⟨rfl, rfl⟩)
      go_round
      case rel => exact ⟨k + 1, by omega, hk3, by go_num, HS⟩
      case measure => simp [intOf]; omega

end Go.Proofs.YtbkfkdiadeaooaaGreat

namespace Go.Proofs.YtbkfkdiadeaooaaGreat
open Go.RowKit

theorem Lies.by_ {w : World} {B : Nat} {A : Option Addr} {l : List UInt8} (h : Lies w B A l) {k j : Nat} (hj : k + j < l.length) : ∃ g o, A = some ⟨g, o, none⟩ ∧ g < B ∧ w.cell? ⟨g, o + (k + j), none⟩ = some (.int .u8 (by_ (l.drop k) j : Int)) := by
  obtain ⟨g, o, e, hg, hc⟩ := h.at_ hj
  exact ⟨g, o, e, hg, by rw [hc, by_get _ _ (by simp; omega)]; simp⟩

set_option maxRecDepth 100000 in
set_option maxHeartbeats 1000000 in
theorem readU_any (A : Option Addr) (c : Nat) (l : List UInt8) (i : Int) (w : World) (B : Nat) (hn : l.length ≤ 1099511627776) (h : Lies w B A l) :
    Calls Tryz.prog 85 #[.slice A l.length c, .int .i64 i] w fun e w' => e = .returned (.tuple #[.int .u64 (rdX false l i), .int .i64 (rdN false l i), .int .i64 (rdE false l i)]) ∧ w = w' := by
  by_cases hi : i < 0 ∨ (l.length : Int) < i
  · rw [(rd_arg hi).1, (rd_arg hi).2.1, (rd_arg hi).2.2]
    rcases hi with h1 | h1
    · go_enter Tryz.func85, Tryz.ntmps85
      go_wp2
      go_ret3
      exact ⟨rfl, rfl⟩
    · have h2 : ¬ i < 0 := by omega
      go_enter Tryz.func85, Tryz.ntmps85
      go_wp2
      go_ret3
      exact ⟨rfl, rfl⟩
  · obtain ⟨k, rfl⟩ : ∃ k : Nat, i = k := ⟨i.toNat, by omega⟩
    have hk : k ≤ l.length := by omega
    clear hi
    by_cases hM : (l.length : Int) - (k : Int) < 10
    all_goals
      go_enter Tryz.func85, Tryz.ntmps85
      go_wp2
      go_loop [4, 23] (fun x q => ∃ (j : Nat) (z : Int), q = .int .i64 j ∧ x = .int .u64 z ∧ j ≤ 10 ∧ k + j ≤ l.length ∧ Hid (j ≤ 9 → z = sm ((l.drop k).take j)) ∧ Hid (∀ m, m < j → 128 ≤ by_ (l.drop k) m)) (fun _ q => 10 - (intOf q).toNat)
      case atStart => exact ⟨0, 0, rfl, rfl, by omega, by omega, fun _ => rfl, fun m hm => by omega⟩
      case round =>
        obtain ⟨j, z, rfl, rfl, hj, hkj, hz, hm⟩ := hrel
        by_cases hlt : j < 10 ∧ k + j < l.length
        · obtain ⟨g, o, rfl, hg, hc⟩ := h.by_ hlt.2
          obtain ⟨hj1, hj2⟩ := hlt
          obtain ⟨q, hq⟩ : ∃ q, q = by_ (l.drop k) j := ⟨_, rfl⟩
          have hq2 := by_lt (l.drop k) j
          rw [← hq] at hc hq2
          have HQ := Lib.hid hq
          clear hq
          have hz' := hz.out (by omega)
          obtain ⟨s, hs, hs0, hs1, hz0, hz1, hzs⟩ := rd_step hj1 hj2 hz'
          rw [← HQ.out] at hzs
          have hor := orU z j ((q : Int) % 128) hz0 hz1 (by omega)
          rw [hzs] at hor
          have HOR := Lib.hid hor
          clear hor hzs hz'
          by_cases hmore : 128 ≤ q
          · have hrel2 : Hid (j + 1 ≤ 9 → IntKind.u64.wrap s = sm ((l.drop k).take (j + 1))) := fun h9 => by
              rw [← hs]; exact wk_in (b := false) hs0 (by have := pw_lt9 h9; omega)
            have hm2 : Hid (∀ m, m < j + 1 → 128 ≤ by_ (l.drop k) m) := fun m h => by
              by_cases e : m = j
              · subst e; rw [← HQ.out]; exact hmore
              · exact hm.out m (by omega)
            clear hs hs0 hs1 hz0 hz1 hm hz
            go_wp2
            go_round
            case rel => exact ⟨j + 1, _, by go_num, by rw [HOR.out], by omega, by omega, hrel2, hm2⟩
            case measure => simp [intOf]; omega
          · obtain ⟨v, hvr, hvt, hcase⟩ := rd_last (b := false) hj1 hj2 hs hs0 hs1 hm.out (by rw [← HQ.out]; omega)
            have ht := toldU_any (wk false s) (j + 1) w (wk_rng false s).1 (wk_rng false s).2 (by omega) (by omega)
            rw [hvt] at ht
            have HT : Hid (Calls Tryz.prog 102 #[.int .u64 (IntKind.u64.wrap s), .int .i64 ((j : Int) + 1)] w fun e w' => e = .returned (.int .u64 v) ∧ w = w') := ht
            have hsz := sizeU_any v w hvr.1 hvr.2
            have hdg := digitU_any v j w hvr.1 hvr.2 (by omega)
            rw [← HQ.out] at hcase
            clear hs hs0 hs1 hz0 hz1 hm hz ht hvt hvr HQ
            generalize size false v = m at *
            generalize dgt v j = d at *
            have HSZ := Lib.hid hsz
            have HDG := Lib.hid hdg
            clear hsz hdg
            rcases hcase with ⟨g1, g2, r1, r2, r3⟩ | ⟨g1, r1, r2, r3⟩ | ⟨g1, g2, r1, r2, r3⟩
            · have RR := Lib.hid (And.intro r1 (And.intro r2 r3))
              have g3 : (m : Int) ≤ (j : Int) + 1 := by omega
              have g4 : (j : Int) + 1 ≤ m := by omega
              have g5 : d ≤ q := by omega
              have g6 : (q : Int) ≤ d := by omega
              clear g1 g2 r1 r2 r3
              go_wp2_with fail
              rw [HOR.out]
              refine HT.out.mono ?_
              rintro e w' ⟨rfl, rfl⟩
              go_wp2_with (first | (go_at_call 96; refine HSZ.out.mono ?_; rintro e w' ⟨rfl, rfl⟩) | (go_at_call 97; refine HDG.out.mono ?_; rintro e w' ⟨rfl, rfl⟩))
              go_ret3
              exact ⟨by rw [RR.out.1, RR.out.2.1, RR.out.2.2]; rfl, rfl⟩
            · have RR := Lib.hid (And.intro r1 (And.intro r2 r3))
              have g3 : ((m : Int) != (j : Int) + 1) = true := by rw [bne_iff_ne]; omega
              clear g1 r1 r2 r3
              go_wp2_with fail
              rw [HOR.out]
              refine HT.out.mono ?_
              rintro e w' ⟨rfl, rfl⟩
              go_wp2_with (first | (go_at_call 96; refine HSZ.out.mono ?_; rintro e w' ⟨rfl, rfl⟩) | (go_at_call 97; refine HDG.out.mono ?_; rintro e w' ⟨rfl, rfl⟩))
              go_ret3
              exact ⟨by rw [RR.out.1, RR.out.2.1, RR.out.2.2]; rfl, rfl⟩
            · have RR := Lib.hid (And.intro r1 (And.intro r2 r3))
              have g3 : (m : Int) ≤ (j : Int) + 1 := by omega
              have g4 : (j : Int) + 1 ≤ m := by omega
              have g5 : (d != (q : Int)) = true := by rw [bne_iff_ne]; exact g2
              clear g1 g2 r1 r2 r3
              go_wp2_with fail
              rw [HOR.out]
              refine HT.out.mono ?_
              rintro e w' ⟨rfl, rfl⟩
              go_wp2_with (first | (go_at_call 96; refine HSZ.out.mono ?_; rintro e w' ⟨rfl, rfl⟩) | (go_at_call 97; refine HDG.out.mono ?_; rintro e w' ⟨rfl, rfl⟩))
              go_ret3
              exact ⟨by rw [RR.out.1, RR.out.2.1, RR.out.2.2]; rfl, rfl⟩
        · obtain ⟨r1, r2, r3⟩ := rd_end (b := false) hk (j := j) (by omega) hm.out
          have RR := Lib.hid (And.intro r1 (And.intro r2 r3))
          clear r1 r2 r3
          first | (have hx : (l.length : Int) - k ≤ j := by omega) | (have hx : (10 : Int) ≤ j := by omega)
          go_wp2
          go_ret3
          exact ⟨by rw [RR.out.1, RR.out.2.1, RR.out.2.2]; rfl, rfl⟩
set_option maxHeartbeats 400000 in
theorem U_any (A : Option Addr) (c : Nat) (l : List UInt8) (i : Int) (w : World) (B : Nat) (hn : l.length ≤ 1099511627776) (h : Lies w B A l) :
    Calls Tryz.prog 57 #[.slice A l.length c, .int .i64 i] w fun e w' => e = .returned (.tuple #[.int .u64 (rdX false l i), .int .i64 (rdN false l i), .int .i64 (rdE false l i)]) ∧ w = w' := by
  have HP := Lib.hid (readU_any A c l i w B hn h)
  clear h hn
  go_enter Tryz.func57, Tryz.ntmps57
  go_wp2_with (go_at_call 85; refine HP.out.mono ?_; rintro e w' ⟨rfl, rfl⟩)
  go_ret3
  exact ⟨rfl, rfl⟩
end Go.Proofs.YtbkfkdiadeaooaaGreat

namespace Go.Proofs.YtbkfkdiadeaooaaGreat
open Go.RowKit

set_option maxRecDepth 100000 in
set_option maxHeartbeats 1000000 in
theorem readS_any (A : Option Addr) (c : Nat) (l : List UInt8) (i : Int) (w : World) (B : Nat) (hn : l.length ≤ 1099511627776) (h : Lies w B A l) :
    Calls Tryz.prog 114 #[.slice A l.length c, .int .i64 i] w fun e w' => e = .returned (.tuple #[.int .i64 (rdX true l i), .int .i64 (rdN true l i), .int .i64 (rdE true l i)]) ∧ w = w' := by
  by_cases hi : i < 0 ∨ (l.length : Int) < i
  · rw [(rd_arg hi).1, (rd_arg hi).2.1, (rd_arg hi).2.2]
    rcases hi with h1 | h1
    · go_enter Tryz.func114, Tryz.ntmps114
      go_wp2
      go_ret3
      exact ⟨rfl, rfl⟩
    · have h2 : ¬ i < 0 := by omega
      go_enter Tryz.func114, Tryz.ntmps114
      go_wp2
      go_ret3
      exact ⟨rfl, rfl⟩
  · obtain ⟨k, rfl⟩ : ∃ k : Nat, i = k := ⟨i.toNat, by omega⟩
    have hk : k ≤ l.length := by omega
    clear hi
    by_cases hM : (l.length : Int) - (k : Int) < 10
    all_goals
      go_enter Tryz.func114, Tryz.ntmps114
      go_wp2
      go_loop [4, 23] (fun x q => ∃ (j : Nat) (z : Int), q = .int .i64 j ∧ x = .int .i64 z ∧ j ≤ 10 ∧ k + j ≤ l.length ∧ Hid (j ≤ 9 → z = sm ((l.drop k).take j)) ∧ Hid (∀ m, m < j → 128 ≤ by_ (l.drop k) m)) (fun _ q => 10 - (intOf q).toNat)
      case atStart => exact ⟨0, 0, rfl, rfl, by omega, by omega, fun _ => rfl, fun m hm => by omega⟩
      case round =>
        obtain ⟨j, z, rfl, rfl, hj, hkj, hz, hm⟩ := hrel
        by_cases hlt : j < 10 ∧ k + j < l.length
        · obtain ⟨g, o, rfl, hg, hc⟩ := h.by_ hlt.2
          obtain ⟨hj1, hj2⟩ := hlt
          obtain ⟨q, hq⟩ : ∃ q, q = by_ (l.drop k) j := ⟨_, rfl⟩
          have hq2 := by_lt (l.drop k) j
          rw [← hq] at hc hq2
          have HQ := Lib.hid hq
          clear hq
          have hz' := hz.out (by omega)
          obtain ⟨s, hs, hs0, hs1, hz0, hz1, hzs⟩ := rd_step hj1 hj2 hz'
          rw [← HQ.out] at hzs
          have hor := orS z j ((q : Int) % 128) hz0 hz1 (by omega)
          rw [hzs, wrapEq, wrapEq] at hor
          have HOR := Lib.hid hor
          clear hor hzs hz'
          by_cases hmore : 128 ≤ q
          · have hrel2 : Hid (j + 1 ≤ 9 → wrap64 s = sm ((l.drop k).take (j + 1))) := fun h9 => by
              rw [← hs, ← wrapEq]; exact wk_in (b := true) hs0 (by have := pw_lt9 h9; omega)
            have hm2 : Hid (∀ m, m < j + 1 → 128 ≤ by_ (l.drop k) m) := fun m h => by
              by_cases e : m = j
              · subst e; rw [← HQ.out]; exact hmore
              · exact hm.out m (by omega)
            clear hs hs0 hs1 hz0 hz1 hm hz
            go_wp2
            go_round
            case rel => exact ⟨j + 1, _, by go_num, by rw [HOR.out], by omega, by omega, hrel2, hm2⟩
            case measure => simp [intOf]; omega
          · obtain ⟨v, hvr, hvt, hcase⟩ := rd_last (b := true) hj1 hj2 hs hs0 hs1 hm.out (by rw [← HQ.out]; omega)
            have ht := toldS_any (wk true s) (j + 1) w (wk_rng true s).1 (wk_rng true s).2 (by omega) (by omega)
            rw [hvt] at ht
            have HT : Hid (Calls Tryz.prog 113 #[.int .i64 (wrap64 s), .int .i64 ((j : Int) + 1)] w fun e w' => e = .returned (.int .i64 v) ∧ w = w') := by rw [← wrapEq]; exact ht
            have hsz := sizeS_any v w hvr.1 hvr.2
            have hdg := digitS_any v j w hvr.1 hvr.2 (by omega)
            rw [← HQ.out] at hcase
            clear hs hs0 hs1 hz0 hz1 hm hz ht hvt hvr HQ
            generalize size true v = m at *
            generalize dgt v j = d at *
            have HSZ := Lib.hid hsz
            have HDG := Lib.hid hdg
            clear hsz hdg
            rcases hcase with ⟨g1, g2, r1, r2, r3⟩ | ⟨g1, r1, r2, r3⟩ | ⟨g1, g2, r1, r2, r3⟩
            · have RR := Lib.hid (And.intro r1 (And.intro r2 r3))
              have g3 : (m : Int) ≤ (j : Int) + 1 := by omega
              have g4 : (j : Int) + 1 ≤ m := by omega
              have g5 : d ≤ q := by omega
              have g6 : (q : Int) ≤ d := by omega
              clear g1 g2 r1 r2 r3
              go_wp2_with fail
              rw [HOR.out]
              refine HT.out.mono ?_
              rintro e w' ⟨rfl, rfl⟩
              go_wp2_with (first | (go_at_call 110; refine HSZ.out.mono ?_; rintro e w' ⟨rfl, rfl⟩) | (go_at_call 111; refine HDG.out.mono ?_; rintro e w' ⟨rfl, rfl⟩))
              go_ret3
              exact ⟨by rw [RR.out.1, RR.out.2.1, RR.out.2.2]; rfl, rfl⟩
            · have RR := Lib.hid (And.intro r1 (And.intro r2 r3))
              have g3 : ((m : Int) != (j : Int) + 1) = true := by rw [bne_iff_ne]; omega
              clear g1 r1 r2 r3
              go_wp2_with fail
              rw [HOR.out]
              refine HT.out.mono ?_
              rintro e w' ⟨rfl, rfl⟩
              go_wp2_with (first | (go_at_call 110; refine HSZ.out.mono ?_; rintro e w' ⟨rfl, rfl⟩) | (go_at_call 111; refine HDG.out.mono ?_; rintro e w' ⟨rfl, rfl⟩))
              go_ret3
              exact ⟨by rw [RR.out.1, RR.out.2.1, RR.out.2.2]; rfl, rfl⟩
            · have RR := Lib.hid (And.intro r1 (And.intro r2 r3))
              have g3 : (m : Int) ≤ (j : Int) + 1 := by omega
              have g4 : (j : Int) + 1 ≤ m := by omega
              have g5 : (d != (q : Int)) = true := by rw [bne_iff_ne]; exact g2
              clear g1 g2 r1 r2 r3
              go_wp2_with fail
              rw [HOR.out]
              refine HT.out.mono ?_
              rintro e w' ⟨rfl, rfl⟩
              go_wp2_with (first | (go_at_call 110; refine HSZ.out.mono ?_; rintro e w' ⟨rfl, rfl⟩) | (go_at_call 111; refine HDG.out.mono ?_; rintro e w' ⟨rfl, rfl⟩))
              go_ret3
              exact ⟨by rw [RR.out.1, RR.out.2.1, RR.out.2.2]; rfl, rfl⟩
        · obtain ⟨r1, r2, r3⟩ := rd_end (b := true) hk (j := j) (by omega) hm.out
          have RR := Lib.hid (And.intro r1 (And.intro r2 r3))
          clear r1 r2 r3
          first | (have hx : (l.length : Int) - k ≤ j := by omega) | (have hx : (10 : Int) ≤ j := by omega)
          go_wp2
          go_ret3
          exact ⟨by rw [RR.out.1, RR.out.2.1, RR.out.2.2]; rfl, rfl⟩
set_option maxHeartbeats 400000 in
theorem S_any (A : Option Addr) (c : Nat) (l : List UInt8) (i : Int) (w : World) (B : Nat) (hn : l.length ≤ 1099511627776) (h : Lies w B A l) :
    Calls Tryz.prog 112 #[.slice A l.length c, .int .i64 i] w fun e w' => e = .returned (.tuple #[.int .i64 (rdX true l i), .int .i64 (rdN true l i), .int .i64 (rdE true l i)]) ∧ w = w' := by
  have HP := Lib.hid (readS_any A c l i w B hn h)
  clear h hn
  go_enter Tryz.func112, Tryz.ntmps112
  go_wp2_with (go_at_call 114; refine HP.out.mono ?_; rintro e w' ⟨rfl, rfl⟩)
  go_ret3
  exact ⟨rfl, rfl⟩
end Go.Proofs.YtbkfkdiadeaooaaGreat

namespace Go.Proofs.YtbkfkdiadeaooaaGreat
open Go

section
variable {P : Program} {fn : Func} {p u v : Tmp} {ty : TypeId}
theorem res_row_tmp2 (h : fn.results = #[.cell p ty, .tmp u, .tmp v]) (tmps : Array Value) (w : World) (g : Nat) (t : TypeId) (cs : Array Value) (fr : Nat × Nat) (d : TypeDesc)
    (hp : tmps.getD p undef = .pointer (some ⟨g, 0, none⟩)) (hg : w.heap[g]? = some (.cells cs t fr))
    (hu : P.underlying ty = some d) (hd : (match d with | .struct _ | .array _ _ => true | _ => false) = true) (hi : (P.info? ty).map (·.size) = some cs.size) :
    (results fn tmps).run P w = .ok (.tuple #[.agg cs, tmps.getD u undef, tmps.getD v undef]) w := by
  have hp' : tmps[p]?.getD undef = .pointer (some ⟨g, 0, none⟩) := by simpa using hp
  simp [results, h, hp', asAddr, run_loadVar_row w g t ty cs fr d hg hu hd hi]
end

end Go.Proofs.YtbkfkdiadeaooaaGreat
