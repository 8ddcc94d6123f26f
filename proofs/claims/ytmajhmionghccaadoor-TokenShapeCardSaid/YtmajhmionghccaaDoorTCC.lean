/-
  Contract of the document's number.
-/
import Derived.Test.YtmajhmionghccaaDoorTKS
import Derived.Test.YtmajhmionghccaaDoorTKF
import Derived.Deep.QuietTactic
namespace Go.Proofs.YtmajhmionghccaaDoor
open Go Go.RowKit

theorem val_snoc {s : List UInt8} {k : Nat} (h : k < s.length) : val (s.take (k + 1)) = 10 * val (s.take k) + ((s[k]).toNat - 48) := by
  rw [List.take_add_one, List.getElem?_eq_getElem h]
  unfold val
  rw [List.foldl_append]
  rfl
theorem val_le (s : List UInt8) (k : Nat) : val (s.take k) ≤ val s := by
  have h := valF_ge (s.drop k) (val (s.take k))
  have e : val s = (s.drop k).foldl (fun a c => 10 * a + (c.toNat - 48)) (val (s.take k)) := by
    conv => lhs; rw [← List.take_append_drop k s]
    unfold val
    rw [List.foldl_append]
  rw [e]
  exact h
/-- what the document's number answers -/
def NumR (V : Nat) (ok : Bool) (w : World) (e : Ending) (w' : World) : Prop := Below w.heap.size w w' ∧ ∃ (x : Int) (b : Bool), e = .returned (.tuple #[.int .i64 x, .bool b]) ∧ ((¬ V < 9223372036854775808 ∧ b = false) ∨ (V < 9223372036854775808 ∧ x = (V : Int) ∧ b = ok))
set_option maxRecDepth 100000 in
set_option maxHeartbeats 4000000 in
theorem refNumber_any (c : UInt8) (r : List UInt8) (w : World) (hn : (c :: r).length ≤ 1099511627776) (hd : ∀ x ∈ c :: r, tDi x = true) :
    Calls Tryd.prog 34 #[.string (str (c :: r))] w (NumR (val (c :: r)) (decide ((c :: r).length = 1) || !decide (c = 48)) w) := by
  have h0 : (c :: r)[0]? = some c := rfl
  have hsz := str_sz (c :: r)
  have hlt0 : 0 < (c :: r).length := by simp
  generalize c :: r = s at *
  have hni : (s.length : Int) ≤ 1099511627776 := by omega
  have HD := Lib.hid hd
  obtain ⟨V, HV⟩ : ∃ V, Hid (val s = V) := ⟨_, rfl⟩
  rw [HV.out]
  obtain ⟨OK, HOK⟩ : ∃ OK, Hid ((decide (s.length = 1) || !decide (c = 48)) = OK) := ⟨_, rfl⟩
  rw [HOK.out]
  clear hd
  go_enter Tryd.func34, Tryd.ntmps34
  go_wp2_with fail
  go_loop [4, 5] (fun x i => ∃ (k : Nat) (X : Int), k ≤ s.length ∧ i = .int .i64 k ∧ x = .int .i64 X ∧ 0 ≤ X ∧ Hid (X = (val (s.take k) : Int) ∧ val (s.take k) < 9223372036854775808)) (fun _ i => s.length - (intOf i).toNat)
  case atStart => exact ⟨0, 0, by omega, rfl, rfl, by omega, ⟨rfl, by rw [List.take_zero]; decide⟩⟩
  case round =>
    obtain ⟨k, X, hk, rfl, rfl, hX0, HX⟩ := hrel
    by_cases hlt : k < s.length
    · have hix := run_idx_str w s k hlt
      have hr := digit_range (HD.out _ (List.getElem_mem hlt))
      have HS := Lib.hid (val_snoc hlt)
      obtain ⟨D, hDe⟩ : ∃ D : Int, ((s[k]).toNat : Int) = D + 48 := ⟨_, (Int.sub_add_cancel _ _).symm⟩
      rw [hDe] at hix
      have hD0 : 0 ≤ D := by omega
      have hD9 : D ≤ 9 := by omega
      obtain ⟨Q, hQ⟩ : ∃ Q, Int.tdiv (9223372036854775807 - D) 10 = Q := ⟨_, rfl⟩
      have hQe : Q = (9223372036854775807 - D) / 10 := by rw [← hQ]; exact Int.tdiv_eq_ediv_of_nonneg (by omega)
      have hQ1 : Q ≤ 922337203685477580 := by omega
      have hQ0 : 0 ≤ Q := by omega
      have HQ := Lib.hid hQe
      clear hQe
      by_cases hbig : Q < X
      · have HR := Lib.hid (show ¬ V < 9223372036854775808 from fun hv => by
          have h1 := val_le s (k + 1)
          have h2 := HS.out
          have h3 := HX.out.1
          have h4 := HV.out
          have h5 := HQ.out
          omega)
        clear HX HS HQ hDe hr
        go_wp2_with fail
        go_ret2
        exact ⟨Below.refl _ _, _, _, rfl, .inl ⟨HR.out, rfl⟩⟩
      · have hXQ : X ≤ Q := by omega
        have HY := Lib.hid (show 10 * X + D = (val (s.take (k + 1)) : Int) ∧ val (s.take (k + 1)) < 9223372036854775808 by
          have h2 := HS.out
          have h3 := HX.out.1
          have h5 := HQ.out
          constructor <;> omega)
        have hb1 : 10 * X ≤ 9223372036854775800 := by omega
        have hb2 : 10 * X + D ≤ 9223372036854775807 := by have := HQ.out; omega
        have hb3 : 0 ≤ 10 * X := by omega
        have hb4 : 0 ≤ 10 * X + D := by omega
        clear HX HS HQ hDe hr
        go_wp2_with fail
        go_round
        case rel => exact ⟨k + 1, 10 * X + D, by omega, by go_num, rfl, hb4, HY⟩
        case measure => simp [intOf]; omega
    · obtain rfl : k = s.length := by omega
      rw [List.take_length] at HX
      have HXV := Lib.hid (show X = (V : Int) ∧ V < 9223372036854775808 by rw [← HV.out]; exact HX.out)
      have hix : ∀ w', (Instr.index 9 (.string (str s)) (.int .i64 0)).run Tryd.prog w' = .ok (.int .u8 (c.toNat : Int)) w' := by
        intro w'
        have := run_idx_str w' s 0 hlt0
        have e0 : s[0]'hlt0 = c := by rw [List.getElem?_eq_getElem hlt0] at h0; injection h0
        rw [e0] at this
        exact this
      clear HX
      by_cases hone : s.length = 1
      · have ho : (s.length : Int) = 1 := by omega
        go_wp2_with fail
        go_quiet (fail)
        go_wp2_with fail
        go_ret2
        exact ⟨below_draws _, _, _, rfl, .inr ⟨HXV.out.2, HXV.out.1, by rw [← HOK.out]; simp [hone, ho]⟩⟩
      · have ho : ¬ (s.length : Int) = 1 := by omega
        by_cases h48 : c = 48
        · have hcc : (c.toNat : Int) = 48 := by rw [h48]; rfl
          rw [hcc] at hix
          go_wp2_with fail
          go_quiet (fail)
          go_wp2_with fail
          go_ret2
          exact ⟨below_draws _, _, _, rfl, .inr ⟨HXV.out.2, HXV.out.1, by rw [← HOK.out]; simp [hone, ho, h48]⟩⟩
        · have hcc : ¬ (c.toNat : Int) = 48 := fun e => h48 (UInt8.toNat_inj.1 (show c.toNat = 48 by omega))
          generalize (c.toNat : Int) = C at *
          have hcb : (C != 48) = true := bne_iff_ne.2 hcc
          go_wp2_with fail
          go_quiet (fail)
          go_wp2_with fail
          go_ret2
          exact ⟨below_draws _, _, _, rfl, .inr ⟨HXV.out.2, HXV.out.1, by rw [← HOK.out]; simp [hone, ho, h48]⟩⟩
end Go.Proofs.YtmajhmionghccaaDoor
