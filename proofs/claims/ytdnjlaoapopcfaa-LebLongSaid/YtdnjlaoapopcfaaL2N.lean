/-
  The walk of LebLong.
-/
import Derived.Test.YtdnjlaoapopcfaaL2W
namespace Go.Proofs.Ytdnjlaoapopcfaa
open Go.RowKit

theorem size_mono {x y : Int} (h : x ≤ y) : size false x ≤ size false y := by
  refine size_le_of ?_ (size_pos _ _)
  have := size_fit false y
  rw [fit_u] at *
  omega
theorem shr_zero {x : Int} {n : Nat} (h0 : 0 ≤ x) (hx : x < pw n) : x / 2 ^ (7 * n) = 0 := Int.ediv_eq_zero_of_lt h0 hx
theorem shr_pos {x : Int} {n : Nat} (hx : pw n ≤ x) : x / 2 ^ (7 * n) ≠ 0 := by
  have h1 : 1 ≤ x / pw n := by
    rw [Int.le_ediv_iff_mul_le (pw_pos n)]; omega
  show x / pw n ≠ 0
  omega
theorem size_neg (z : Int) : size true (-z - 1) = size true z := by
  refine size_of ?_ (size_pos _ _) ?_
  · have := size_fit true z
    rw [fit_s] at *
    omega
  · by_cases h : size true z = 1
    · exact .inl h
    · have h2 := size_pos true z
      have := size_min (b := true) (x := z) (m := size true z - 1) (by omega) (by omega)
      refine .inr fun hf => this ?_
      rw [fit_s] at *
      omega
theorem size_two {z : Int} (h0 : 0 ≤ z) : size false z ≤ size true z ∧ size true z ≤ size false z + 1 := by
  constructor
  · refine size_le_of ?_ (size_pos _ _)
    have h := size_fit true z
    have hp := size_pos true z
    rw [fit_s] at h
    rw [fit_u]
    generalize size true z = m at *
    obtain ⟨k, rfl⟩ : ∃ k, m = k + 1 := ⟨m - 1, by omega⟩
    have := pw_succ k
    have := pw_pos k
    rw [Nat.add_sub_cancel] at h
    omega
  · refine size_le_of ?_ (by omega)
    have h := size_fit false z
    rw [fit_u] at h
    rw [fit_s, Nat.add_sub_cancel]
    have := pw_pos (size false z)
    omega

/-- a byte slice of so many, in new memory -/
def SzR (n : Nat) (w : World) (e : Ending) (w' : World) : Prop := ∃ A c, e = .returned (.slice A n c) ∧ Below w.heap.size w w'
theorem szU (x : Int) (w : World) (h0 : 0 ≤ x) (h1 : x < 18446744073709551616) : Calls Try.prog 10 #[.slice none 0 0, .int .u64 x] w (SzR (size false x) w) := by
  refine (putU_any none 0 [] x w (fun _ => rfl) (Lies.empty _ _ _) (by simp) h0 h1).mono ?_
  rintro e w' ⟨v, rfl, ho, hb, _⟩
  obtain ⟨A, c, rfl, _⟩ := ho.form
  exact ⟨A, c, by rw [List.nil_append, nB_len], hb⟩
theorem szS (x : Int) (w : World) (h0 : -9223372036854775808 ≤ x) (h1 : x < 9223372036854775808) : Calls Try.prog 11 #[.slice none 0 0, .int .i64 x] w (SzR (size true x) w) := by
  refine (putS_any none 0 [] x w (fun _ => rfl) (Lies.empty _ _ _) (by simp) h0 h1).mono ?_
  rintro e w' ⟨v, rfl, ho, hb, _⟩
  obtain ⟨A, c, rfl, _⟩ := ho.form
  exact ⟨A, c, by rw [List.nil_append, nB_len], hb⟩

/-- what is to be said of two numbers' sizes -/
def Sized (x y : Int) (a b : Nat) : Prop := 1 ≤ a ∧ a ≤ 10 ∧ 1 ≤ b ∧ b ≤ 10 ∧ (x < y ∧ a ≤ b ∨ y < x ∧ b ≤ a ∨ (x ≤ y ∧ y ≤ x) ∧ a ≤ b ∧ b ≤ a) ∧ (10 ≤ a ∨ x / 2 ^ (7 * a) = 0) ∧ (a ≤ 1 ∨ x / 2 ^ (7 * a - 7) ≠ 0)
theorem sized {x y : Int} (h0 : 0 ≤ x) : Sized x y (size false x) (size false y) := by
  have hm1 : x ≤ y → size false x ≤ size false y := size_mono
  have hm2 : y ≤ x → size false y ≤ size false x := size_mono
  have hf := size_fit false x
  refine ⟨size_pos _ _, size_le _ _, size_pos _ _, size_le _ _, by omega, ?_, ?_⟩
  · rw [fit_u] at hf
    rcases hf with h | h
    · exact .inl h
    · exact .inr (shr_zero h0 h)
  · by_cases h : size false x ≤ 1
    · exact .inl h
    · have hmin := size_min (b := false) (x := x) (m := size false x - 1) (by omega) (by omega)
      rw [fit_u] at hmin
      refine .inr ?_
      rw [show 7 * size false x - 7 = 7 * (size false x - 1) by omega]
      exact shr_pos (by omega)

set_option maxRecDepth 100000 in
set_option maxHeartbeats 2000000 in
theorem lebLong_any (x y : Int) (w : World) (h0 : 0 ≤ x) (h1 : x < 18446744073709551616) (k0 : 0 ≤ y) (k1 : y < 18446744073709551616) :
    Calls Try.prog 7 #[.int .u64 x, .int .u64 y] w (Yes w) := by
  have hsz := sized (x := x) (y := y) h0
  have c1 := Lib.hid (fun w => szU x w h0 h1)
  have c2 := Lib.hid (fun w => szU y w k0 k1)
  have c3 := Lib.hid (fun w => szS (x / 2) w (by omega) (by omega))
  have c4 := Lib.hid (show ∀ w, Calls Try.prog 11 #[.slice none 0 0, .int .i64 (-(x / 2) - 1)] w (SzR (size true (x / 2)) w) from fun w => by
    rw [← size_neg]; exact szS (-(x / 2) - 1) w (by omega) (by omega))
  have c5 := Lib.hid (fun w => szU (x / 2) w (by omega) (by omega))
  have ht := size_two (z := x / 2) (by omega)
  have t1 := size_le true (x / 2)
  have t2 := size_le false (x / 2)
  generalize size false x = a at *
  generalize size false y = b at *
  generalize size true (x / 2) = p at *
  generalize size false (x / 2) = q at *
  obtain ⟨p1, p2, p3, p4, hcmp, hs1, hs2⟩ := hsz
  obtain ⟨q1, q2⟩ := ht
  rcases hcmp with ⟨r1, r2⟩ | ⟨r1, r2⟩ | ⟨⟨r1, r2⟩, r3, r4⟩
  all_goals
    have f1 : a < 10 → ((x / 2 ^ (7 * a)) != 0) = false := fun h => by
      rcases hs1 with h' | h'
      · omega
      · rw [h']; rfl
    have f2 : 1 < a → ((x / 2 ^ (7 * a - 7)) == 0) = false := fun h => by
      rcases hs2 with h' | h'
      · omega
      · rw [beq_eq_false_iff_ne]; exact h'
    rcases (show a ≤ 1 ∨ (1 < a ∧ a < 10) ∨ 10 ≤ a by omega) with ha | ⟨ha, ha1⟩ | ha
    all_goals
      first | (have g1 := f1 (by omega)) | skip
      first | (have g2 := f2 (by omega)) | skip
      clear f1 f2 hs1 hs2
      go_enter Try.func7, Try.ntmps7
      go_wp2_with fail
      refine (c1.out _).mono ?_
      rintro e w1 ⟨A1, d1, rfl, hb1⟩
      go_wp2_with fail
      refine (c2.out _).mono ?_
      rintro e w2 ⟨A2, d2, rfl, hb2⟩
      have hB2 := hb1.trans (hb2.mono hb1.size)
      clear hb1 hb2
      go_wp2_with fail
      refine (c3.out _).mono ?_
      rintro e w3 ⟨A3, d3, rfl, hb3⟩
      have hB3 := hB2.trans (hb3.mono hB2.size)
      clear hb3 hB2
      go_wp2_with fail
      refine (c4.out _).mono ?_
      rintro e w4 ⟨A4, d4, rfl, hb4⟩
      have hB4 := hB3.trans (hb4.mono hB3.size)
      clear hb4 hB3
      go_wp2_with fail
      refine (c5.out _).mono ?_
      rintro e w5 ⟨A5, d5, rfl, hb5⟩
      have hB5 := hB4.trans (hb5.mono hB4.size)
      clear hb5 hB4
      go_wp2_with fail
      refine (c5.out _).mono ?_
      rintro e w6 ⟨A6, d6, rfl, hb6⟩
      have hB6 := hB5.trans (hb6.mono hB5.size)
      clear hb6 hB5
      go_wp2_with fail
      refine (works_any _).mono ?_
      rintro e w7 ⟨rfl, hb7⟩
      go_wp2
      go_ret
      exact ⟨rfl, hB6.trans (hb7.mono hB6.size)⟩
end Go.Proofs.Ytdnjlaoapopcfaa
