/-
  The walk of OctetOrder.
-/
import Derived.Test.YtjgjikeanmdhkaaV
import Derived.Test.YtjgjikeanmdhkaaO
namespace Go.Proofs.Ytjgjikeanmdhkaa
open Go.RowKit

theorem str_toList (l : List UInt8) : (str l).toList = l := by rw [ByteArray.toList_eq]; simp [str]

theorem less_num (a b : Nat) (ha : a < 256) (hb : b < 256) : decide (UInt8.ofNat a < UInt8.ofNat b) = decide (a < b) ∧ (UInt8.ofNat a == UInt8.ofNat b) = decide (a = b) := by
  have h1 : (UInt8.ofNat a).toNat = a := by simp; omega
  have h2 : (UInt8.ofNat b).toNat = b := by simp; omega
  refine ⟨?_, ?_⟩
  · rw [Bool.eq_iff_iff]; simp [UInt8.lt_iff_toNat_lt, h1, h2]
  · rw [Bool.eq_iff_iff]; simp only [beq_iff_eq, decide_eq_true_eq]
    exact ⟨fun e => by rw [← h1, ← h2, e], fun e => by rw [e]⟩

theorem less_plB (j k : Nat) (hj : j < 16777216) (hk : k < 16777216) : Op.bytesLess (str (plB j)).toList (str (plB k)).toList = decide (j < k) := by
  rw [str_toList, str_toList]
  unfold plB
  have a := less_num (j / 65536) (k / 65536) (by omega) (by omega)
  have b := less_num (j / 256 % 256) (k / 256 % 256) (by omega) (by omega)
  have c := less_num (j % 256) (k % 256) (by omega) (by omega)
  simp only [Op.bytesLess, a.1, a.2, b.1, b.2, c.1, c.2, Bool.and_false, Bool.or_false]
  rw [Bool.eq_iff_iff]
  simp only [Bool.or_eq_true, Bool.and_eq_true, decide_eq_true_eq]
  omega

theorem ppE_01 (n : Int) : (0 ≤ n ∧ n < 16777216 ∧ ppE n = 0) ∨ (¬ (0 ≤ n ∧ n < 16777216) ∧ ppE n = 1) := by
  by_cases h : 0 ≤ n ∧ n < 16777216
  · exact .inl ⟨h.1, h.2, by simp [ppE, h]⟩
  · exact .inr ⟨h, by simp [ppE, h]⟩

theorem form3 {w : World} {B : Nat} {v : Value} {k : Nat} (h : Own w B v (plB k)) : ∃ A c, v = .slice A 3 c := by
  obtain ⟨A, c, rfl, _⟩ := h.form
  exact ⟨A, c, rfl⟩

set_option maxRecDepth 100000 in
set_option maxHeartbeats 2000000 in
theorem octetOrder_any (n m : Int) (w : World) : Calls Try.prog 7 #[.int .i64 n, .int .i64 m] w (Yes w) := by
  have c1 := putPlace_any none 0 [] n w (by simp) (Lies.empty _ _ _) (by simp)
  have c2 : ∀ W : World, Calls Try.prog 20 #[.slice none 0 0, .int .i64 m] W (PutR W (ppL [] m) (ppE m)) := fun W => putPlace_any none 0 [] m W (by simp) (Lies.empty _ _ _) (by simp)
  rcases ppE_01 n with ⟨n0, n1, hn⟩ | ⟨nb, hn⟩
  · rcases ppE_01 m with ⟨m0, m1, hm⟩ | ⟨mb, hm⟩
    · obtain ⟨j, rfl⟩ : ∃ j : Nat, n = j := ⟨n.toNat, by omega⟩
      obtain ⟨k, rfl⟩ : ∃ k : Nat, m = k := ⟨m.toNat, by omega⟩
      have hj : j < 16777216 := by omega
      have hk : k < 16777216 := by omega
      rw [hn, (pp_good (l := []) hj).2] at c1
      rw [hm] at c2
      simp only [(pp_good (l := []) hk).2] at c2
      have hless := less_plB j k hj hk
      have C1 := Lib.hid c1
      have C2 := Lib.hid c2
      clear c1 c2 hn hm
      by_cases hlt : j < k
      · rw [decide_eq_true hlt] at hless
        have HL := Lib.hid hless
        clear hless
        go_enter Try.func7, Try.ntmps7
        go_wp2_with fail
        refine C1.out.mono ?_
        rintro e w1 ⟨a, rfl, ha1, hb1⟩
        go_wp2_with fail
        refine (C2.out _).mono ?_
        rintro e w2 ⟨b, rfl, hb, hb2⟩
        have ha := ha1.below hb2
        have hB := hb1.trans (hb2.mono hb1.size)
        have sa := ha.str_
        have sb := hb.str_
        obtain ⟨Aa, ca, rfl⟩ := form3 ha
        obtain ⟨Ab, cb, rfl⟩ := form3 hb
        have hless := HL.out
        clear ha hb ha1 hb1 hb2
        simp only [List.nil_append] at sa sb
        go_wp2_with fail
        refine (works_any _).mono ?_
        rintro e w3 ⟨rfl, hb3⟩
        go_wp2
        go_ret
        exact ⟨rfl, hB.trans (hb3.mono hB.size)⟩
      · rw [decide_eq_false hlt] at hless
        have HL := Lib.hid hless
        clear hless
        go_enter Try.func7, Try.ntmps7
        go_wp2_with fail
        refine C1.out.mono ?_
        rintro e w1 ⟨a, rfl, ha1, hb1⟩
        go_wp2_with fail
        refine (C2.out _).mono ?_
        rintro e w2 ⟨b, rfl, hb, hb2⟩
        have ha := ha1.below hb2
        have hB := hb1.trans (hb2.mono hb1.size)
        have sa := ha.str_
        have sb := hb.str_
        obtain ⟨Aa, ca, rfl⟩ := form3 ha
        obtain ⟨Ab, cb, rfl⟩ := form3 hb
        have hless := HL.out
        clear ha hb ha1 hb1 hb2
        simp only [List.nil_append] at sa sb
        go_wp2_with fail
        refine (works_any _).mono ?_
        rintro e w3 ⟨rfl, hb3⟩
        go_wp2
        go_ret
        exact ⟨rfl, hB.trans (hb3.mono hB.size)⟩
    · rw [hn] at c1
      rw [hm] at c2
      have C1 := Lib.hid c1
      have C2 := Lib.hid c2
      clear c1 c2 hn hm
      have mb' : m < 0 ∨ 16777216 ≤ m := by omega
      clear mb
      rcases mb' with mb | mb
      all_goals
        go_enter Try.func7, Try.ntmps7
        go_wp2_with fail
        refine C1.out.mono ?_
        rintro e w1 ⟨a, rfl, ha1, hb1⟩
        go_wp2_with fail
        refine (C2.out _).mono ?_
        rintro e w2 ⟨b, rfl, hb, hb2⟩
        have hB := hb1.trans (hb2.mono hb1.size)
        clear ha1 hb hb1 hb2
        go_wp2_with fail
        refine (works_any _).mono ?_
        rintro e w3 ⟨rfl, hb3⟩
        go_wp2
        go_ret
        exact ⟨rfl, hB.trans (hb3.mono hB.size)⟩
  · rcases ppE_01 m with ⟨m0, m1, hm⟩ | ⟨mb, hm⟩
    · rw [hn] at c1
      rw [hm] at c2
      have C1 := Lib.hid c1
      have C2 := Lib.hid c2
      clear c1 c2 hn hm
      have nb' : n < 0 ∨ 16777216 ≤ n := by omega
      clear nb
      rcases nb' with nb | nb
      all_goals
        go_enter Try.func7, Try.ntmps7
        go_wp2_with fail
        refine C1.out.mono ?_
        rintro e w1 ⟨a, rfl, ha1, hb1⟩
        go_wp2_with fail
        refine (C2.out _).mono ?_
        rintro e w2 ⟨b, rfl, hb, hb2⟩
        have hB := hb1.trans (hb2.mono hb1.size)
        clear ha1 hb hb1 hb2
        go_wp2_with fail
        refine (works_any _).mono ?_
        rintro e w3 ⟨rfl, hb3⟩
        go_wp2
        go_ret
        exact ⟨rfl, hB.trans (hb3.mono hB.size)⟩
    · rw [hn] at c1
      rw [hm] at c2
      have C1 := Lib.hid c1
      have C2 := Lib.hid c2
      clear c1 c2 hn hm
      have nb' : n < 0 ∨ 16777216 ≤ n := by omega
      have mb' : m < 0 ∨ 16777216 ≤ m := by omega
      clear nb mb
      rcases nb' with nb | nb <;> rcases mb' with mb | mb
      all_goals
        go_enter Try.func7, Try.ntmps7
        go_wp2_with fail
        refine C1.out.mono ?_
        rintro e w1 ⟨a, rfl, ha1, hb1⟩
        go_wp2_with fail
        refine (C2.out _).mono ?_
        rintro e w2 ⟨b, rfl, hb, hb2⟩
        have hB := hb1.trans (hb2.mono hb1.size)
        clear ha1 hb hb1 hb2
        go_wp2_with fail
        refine (works_any _).mono ?_
        rintro e w3 ⟨rfl, hb3⟩
        go_wp2
        go_ret
        exact ⟨rfl, hB.trans (hb3.mono hB.size)⟩

end Go.Proofs.Ytjgjikeanmdhkaa
