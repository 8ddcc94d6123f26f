/-
  Merged for a claim: O1B.
-/
import Derived.Test.YtnffiaphpcopjaaFJ0
import Derived.Below
namespace Go.Proofs.Ytnffiaphpcopjaa
open Go.RowKit

theorem pair_is (h l k : Int) (k0 : 0 ≤ k) (k1 : k < 256) (e1 : k / 16 = h) (e2 : k % 16 = l) : k = pairV h l ∧ pairB h l = true := by
  have hb : pairB h l = true := by simp [pairB]; omega
  refine ⟨?_, hb⟩
  simp only [pairV, hb, if_true]; omega

theorem pair_not (h l : Int) (k : Nat) (hk : pairB h l = true → (k : Int) ≤ h * 16 + l) (n : ¬ ((k : Int) / 16 = h ∧ (k : Int) % 16 = l)) : pairB h l = true → ((k + 1 : Nat) : Int) ≤ h * 16 + l := by
  intro hb
  have := hk hb
  simp [pairB] at hb
  omega

theorem pair_end (h l : Int) (k : Nat) (k0 : 256 ≤ k) (hk : pairB h l = true → (k : Int) ≤ h * 16 + l) : pairB h l = false ∧ pairV h l = 0 := by
  have hb : pairB h l = false := by
    rcases hq : pairB h l with _ | _
    · rfl
    · have := hk hq
      simp [pairB] at hq
      omega
  exact ⟨hb, by simp [pairV, hb]⟩

theorem pair_ret {h l : Int} {v : Int} {b : Bool} (hv : v = pairV h l) (hb : b = pairB h l) :
    Ending.returned (.tuple #[.int .u8 v, .bool b]) = .returned (.tuple #[.int .u8 (pairV h l), .bool (pairB h l)]) := by rw [hv, hb]

set_option maxRecDepth 100000 in
set_option maxHeartbeats 400000 in
theorem refPair_any (h l : Int) (w : World) :
    Calls Try.prog 32 #[.int .i64 h, .int .i64 l] w fun e w' => e = .returned (.tuple #[.int .u8 (pairV h l), .bool (pairB h l)]) ∧ w = w' := by
  go_enter Try.func32, Try.ntmps32
  go_wp2
  go_loop [6] (fun x => ∃ k : Nat, k ≤ 256 ∧ x = .int .i64 k ∧ Hid (pairB h l = true → (k : Int) ≤ h * 16 + l)) (fun x => 256 - (intOf x).toNat)
  case atStart => exact ⟨0, by omega, rfl, fun hb => by simp [pairB] at hb; omega⟩
  case round =>
    obtain ⟨k, hk, rfl, hh⟩ := hrel
    by_cases hlt : k < 256
    · by_cases e1 : (k : Int) / 16 = h
      · by_cases e2 : (k : Int) % 16 = l
        · have E1 : Hid _ := e1
          have E2 : Hid _ := e2
          have b1 : ((k : Int) / 16 == h) = true := by simp [e1]
          have b2 : ((k : Int) % 16 == l) = true := by simp [e2]
          clear e1 e2
          go_wp2
          go_ret2
          have := pair_is h l k (by omega) (by omega) E1 E2
          exact ⟨pair_ret (by omega) this.2.symm, rfl⟩
        · have hn := Lib.hid (pair_not h l k hh (fun x => e2 x.2))
          have E1 : Hid _ := e1
          have b1 : ((k : Int) / 16 == h) = true := by simp [e1]
          have b2 : ((k : Int) % 16 == l) = false := by simp [e2]
          clear e1 e2
          go_wp2
          go_round
          case rel => exact ⟨k + 1, by omega, by go_num, hn⟩
          case measure => simp [intOf]; omega
      · have hn := Lib.hid (pair_not h l k hh (fun x => e1 x.1))
        have b1 : ((k : Int) / 16 == h) = false := by simp [e1]
        clear e1
        go_wp2
        go_round
        case rel => exact ⟨k + 1, by omega, by go_num, hn⟩
        case measure => simp [intOf]; omega
    · go_wp2
      go_ret2
      have := pair_end h l k (by omega) hh
      exact ⟨pair_ret this.2.symm this.1.symm, rfl⟩

end Go.Proofs.Ytnffiaphpcopjaa
