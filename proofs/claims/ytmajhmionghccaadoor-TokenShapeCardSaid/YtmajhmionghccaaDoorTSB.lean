/-
  TokenShape where a source has no tokens.
-/
import Derived.Test.YtmajhmionghccaaDoorTSA
import Derived.Test.YtmajhmionghccaaDoorTKU
namespace Go.Proofs.YtmajhmionghccaaDoor
open Go Go.RowKit

theorem scanS_err_ge (N : Nat) : ∀ (n : Nat) (l : List UInt8) (k : Nat), l.length ≤ n → nl l < N → scanS N l = .error k → 1 ≤ k
  | n, [], k, _, _, h => by rw [scanS_nil] at h; cases h
  | 0, c :: r, _, h, _, _ => by simp at h
  | n + 1, c :: r, k, h, hN, hs => by
    rcases ht : tok1 (c :: r) with _ | ⟨kd, s, nu⟩
    · rw [scanS_none _ (by simp) ht] at hs
      injection hs with hs
      omega
    · obtain ⟨h1, h2⟩ := tok1_ok ht
      have h3 := scan_rest h1.ne h2
      have h4 := scan_rest_nl h2
      rw [scanS_some _ ht] at hs
      rcases hq : scanS N (sk false ((c :: r).drop s.length)) with e | us
      · rw [hq] at hs
        injection hs with hs
        subst hs
        exact scanS_err_ge N n _ e (by omega) (by omega) hq
      · rw [hq] at hs
        cases hs
theorem scan_err_ge {l : List UInt8} {k : Nat} (h : scanP l = .error k) : 1 ≤ k :=
  scanS_err_ge _ _ _ k (Nat.le_refl _) (by have := sk_nl false l; omega) h
set_option maxRecDepth 100000 in
set_option maxHeartbeats 8000000 in
theorem shape_err (A : Option Addr) (c : Nat) (l : List UInt8) (w : World) (hA : Lies w w.heap.size A l) (hL : Laid w) (hn : l.length ≤ 8192) (k : Nat) (hs : scanP l = .error k) :
    Calls Tryd.prog 5 #[.slice A l.length c] w (TrueR11 w) := by
  have hni : (l.length : Int) ≤ 8192 := by omega
  have H1 := Lib.hid (scan_err (c := c) hA hL (by omega) hs)
  have HL := Lib.hid hL
  have HA := Lib.hid hA
  have hk1 := scan_err_le hs
  have hk0 := scan_err_ge hs
  clear hs hL hA
  go_enter Tryd.func5, Tryd.ntmps5
  go_wp2_with fail
  refine H1.out.mono ?_
  rintro e w6 ⟨rfl, hb6⟩
  have HB6 := Lib.hid hb6
  clear H1 hb6
  go_wp2_with fail
  have hA6 := HA.out.below HB6.out
  go_loop [6, 7] (fun ln i => ∃ j : Nat, j ≤ l.length ∧ i = .int .i64 j ∧ ln = .int .i64 ((1 + nl (l.take j) : Nat) : Int)) (fun _ i => l.length - (intOf i).toNat)
  case atStart => exact ⟨0, by omega, rfl, rfl⟩
  case round =>
    obtain ⟨j, hj, rfl, rfl⟩ := hrel
    have hq := nl_take_le l j
    by_cases hlt : j < l.length
    · obtain ⟨g, o, rfl, hg, hcell⟩ := hA6.at_ hlt
      have hst := Lib.hid (nl_take hlt)
      generalize nl (l.take j) = q at *
      by_cases hx : l[j] = 10
      · have hs1 := Lib.hid (show nl (l.take (j + 1)) = q + 1 by rw [hst.out, if_pos hx])
        rw [hx] at hcell
        replace hcell : w6.cell? ⟨g, o + j, none⟩ = some (.int .u8 10) := hcell
        clear hx hst
        go_wp2_with fail
        go_round
        case rel => exact ⟨j + 1, by omega, by go_num, by rw [hs1.out]; go_num⟩
        case measure => simp [intOf]; omega
      · have hs1 := Lib.hid (show nl (l.take (j + 1)) = q by rw [hst.out, if_neg hx]; rfl)
        have hx2 : ¬ ((l[j]).toNat : Int) = 10 := fun e => hx (UInt8.toNat_inj.1 (show (l[j]).toNat = 10 by omega))
        clear hx hst
        generalize ((l[j]).toNat : Int) = X at *
        go_wp2_with fail
        go_round
        case rel => exact ⟨j + 1, by omega, by go_num, by rw [hs1.out]⟩
        case measure => simp [intOf]; omega
    · obtain rfl : j = l.length := by omega
      rw [List.take_length]
      rw [List.take_length] at hq
      clear hlt
      have HW := Lib.hid (works_any w6 (HL.out.below HB6.out))
      generalize nl l = q at *
      go_wp2_with fail
      refine HW.out.mono ?_
      rintro e w7 ⟨rfl, hb7⟩
      have HB7 := Lib.hid (HB6.out.trans (hb7.mono HB6.out.size))
      clear HW hb7
      go_wp2_with fail
      go_ret
      exact ⟨rfl, HB7.out⟩
end Go.Proofs.YtmajhmionghccaaDoor
