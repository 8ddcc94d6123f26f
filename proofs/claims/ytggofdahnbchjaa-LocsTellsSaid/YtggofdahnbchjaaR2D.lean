/-
  Contract of the document's S.
-/
import Derived.Test.YtggofdahnbchjaaR2C
namespace Go.Proofs.Ytggofdahnbchjaa
open Go.RowKit

set_option maxRecDepth 100000 in
set_option maxHeartbeats 1000000 in
theorem refS_any (A : Option Addr) (c : Nat) (l : List UInt8) (i : Int) (w : World) (hn : l.length ≤ 1099511627776) (h : Lies w w.heap.size A l) :
    Calls Try.prog 61 #[.slice A l.length c, .int .i64 i] w (RdR true .i64 l i w) := by
  by_cases hi : i < 0 ∨ (l.length : Int) < i
  · have RR := Lib.hid (rd_arg (b := true) hi)
    rcases hi with h1 | h1
    · go_enter Try.func61, Try.ntmps61
      go_wp2
      go_ret3
      exact ⟨by rw [RR.out.1, RR.out.2.1, RR.out.2.2]; rfl, Below.refl _ _⟩
    · have h2 : ¬ i < 0 := by omega
      go_enter Try.func61, Try.ntmps61
      go_wp2
      go_ret3
      exact ⟨by rw [RR.out.1, RR.out.2.1, RR.out.2.2]; rfl, Below.refl _ _⟩
  · obtain ⟨k, rfl⟩ : ∃ k : Nat, i = k := ⟨i.toNat, by omega⟩
    have hk : k ≤ l.length := by omega
    clear hi
    have hlong := long_any A c l k w w.heap.size hn h hk
    have hle := lg_le (l.drop k)
    have hsum := sum_any A c l k (lg (l.drop k) 10) w w.heap.size hn h (by simp at hle; omega)
    have hb := sm_take_bound (l.drop k)
    have hok := rd_ok (b := true) (l := l) (k := k) hk
    have hbad := rd_form (b := true) (l := l) (k := k) hk
    have hgd : good true (l.drop k) ↔ lg (l.drop k) 10 ≠ 0 ∧ nB true (hv true (l.drop k)) <+: l.drop k := Iff.rfl
    by_cases h0 : lg (l.drop k) 10 = 0
    · have RR := Lib.hid (hbad (fun g => (hgd.1 g).1 h0))
      rw [h0] at hlong
      have HL := Lib.hid hlong
      clear hok hbad hgd h0 hlong hsum hb hle
      go_enter Try.func61, Try.ntmps61
      go_wp2_with (first | (go_at_call 73; refine HL.out.mono ?_; rintro e w' ⟨rfl, rfl⟩))
      go_ret3
      exact ⟨by rw [RR.out.1, RR.out.2.1, RR.out.2.2]; rfl, Below.refl _ _⟩
    · obtain ⟨h10, hll, hlt, _⟩ := lg_has 10 (l.drop k) h0
      have hv_ : hv true (l.drop k) = val true (sm ((l.drop k).take (lg (l.drop k) 10))) (lg (l.drop k) 10) := rfl
      have hrg := val_rng (b := true) hb.1 hb.2 (by omega) h10
      have htop := sm_top (l.drop k) (lg (l.drop k) 10 - 1) (by omega) hlt
      rw [show lg (l.drop k) 10 - 1 + 1 = lg (l.drop k) 10 by omega] at htop
      rw [← hv_] at hrg
      have hkl : k + lg (l.drop k) 10 ≤ l.length := by simp at hle; omega
      generalize sm ((l.drop k).take (lg (l.drop k) 10)) = s at *
      generalize lg (l.drop k) 10 = n at *
      generalize hv true (l.drop k) = x at *
      obtain ⟨j, rfl⟩ : ∃ j, n = j + 1 := ⟨n - 1, by omega⟩
      rw [Nat.add_sub_cancel] at htop hlt
      obtain ⟨g, o, rfl, hg, hc⟩ := h.by_ (show k + j < l.length by omega)
      generalize by_ (l.drop k) j = q at *
      have HL := Lib.hid hlong
      have HS := Lib.hid hsum
      have HOK := Lib.hid hok
      have HBAD := Lib.hid hbad
      have HGD := Lib.hid hgd
      have hp := pw_succ j
      have hpp := pw_pos j
      have hi1 : (k : Int) + ((j + 1 : Nat) : Int) - 1 = k + j := by omega
      clear hlong hsum hok hbad hgd h0
      by_cases hneg : 64 ≤ q ∧ j < 9
      · have HY := Lib.hid (show wrap64 (IntKind.u64.wrap (s % 18446744073709551616 - IntKind.u64.wrap (2 ^ (7 * (j + 1))))) = x by
          have h9 := pw_lt9 (show j + 1 ≤ 9 by omega)
          rw [shlU (j + 1) (by omega), IntKind.wrap_u64, hv_]; unfold val wrap64; simp only [if_true, Nat.add_sub_cancel]
          have hlow : ¬ s < 64 * pw j := by
            have := Int.emod_add_mul_ediv s (pw j)
            have h1 := Int.emod_nonneg s (show pw j ≠ 0 by omega)
            have h2 : pw j * 64 ≤ pw j * (s / pw j) := Int.mul_le_mul_of_nonneg_left (by rw [htop]; omega) (by omega)
            omega
          rw [if_pos (by omega), if_neg hlow]; omega)
        have hn1 := hneg.1
        have hn2 := hneg.2
        clear hv_ htop hp hpp hb hneg
        go_enter Try.func61, Try.ntmps61
        go_wp2_with (first | (go_at_call 73; refine HL.out.mono ?_; rintro e w' ⟨rfl, rfl⟩) | (go_at_call 74; refine HS.out.mono ?_; rintro e w' ⟨rfl, rfl⟩))
        all_goals
          rw [HY.out]
          refine (refPutS_any none 0 [] x _ (fun _ => rfl) (Lies.empty _ _ _) (by simp) hrg.1 hrg.2).mono ?_
          rintro e w1 ⟨v, rfl, ho, hb⟩
          obtain ⟨A2, c2, rfl, _, _, hL2⟩ := ho.form
          rw [List.nil_append] at hL2
          go_wp2_with fail
          refine (refStands_any _ A2 c c2 l (nB true x) k _ hn (by rw [nB_len]; have := size_le true x; omega) ((h.below hb).more hb.size) hL2 hk).mono ?_
          rintro e w2 ⟨rfl, hb2⟩
          have HB := Lib.hid (hb.trans (hb2.mono hb.size))
          clear hb hb2 ho hL2
          by_cases hp : nB true x <+: l.drop k
          · have RR := Lib.hid (HOK.out (HGD.out.2 ⟨by omega, hp⟩))
            rw [decide_eq_true hp]
            clear hp
            go_wp2
            go_ret3
            exact ⟨by rw [RR.out.1, RR.out.2.1, RR.out.2.2, ← HY.out]; rfl, HB⟩
          · have RR := Lib.hid (HBAD.out (fun g => hp (HGD.out.1 g).2))
            rw [decide_eq_false hp]
            clear hp
            go_wp2
            go_ret3
            exact ⟨by rw [RR.out.1, RR.out.2.1, RR.out.2.2]; rfl, HB⟩
      · have HY := Lib.hid (show wrap64 (s % 18446744073709551616) = x by
          rw [hv_]; unfold val wrap64; simp only [if_true, Nat.add_sub_cancel]
          by_cases hj : j < 9
          · have h9 := pw_lt9 (show j + 1 ≤ 9 by omega)
            have hlow : s < 64 * pw j := by
              have := Int.emod_add_mul_ediv s (pw j)
              have h1 := Int.emod_lt_of_pos s hpp
              have h2 : pw j * (s / pw j) ≤ pw j * 63 := Int.mul_le_mul_of_nonneg_left (by rw [htop]; omega) (by omega)
              omega
            rw [if_pos (by omega), if_pos hlow]; omega
          · rw [if_neg (by omega)]; split <;> omega)
        clear hv_ htop hp hpp hb
        go_enter Try.func61, Try.ntmps61
        go_wp2_with (first | (go_at_call 73; refine HL.out.mono ?_; rintro e w' ⟨rfl, rfl⟩) | (go_at_call 74; refine HS.out.mono ?_; rintro e w' ⟨rfl, rfl⟩))
        all_goals
          rw [HY.out]
          refine (refPutS_any none 0 [] x _ (fun _ => rfl) (Lies.empty _ _ _) (by simp) hrg.1 hrg.2).mono ?_
          rintro e w1 ⟨v, rfl, ho, hb⟩
          obtain ⟨A2, c2, rfl, _, _, hL2⟩ := ho.form
          rw [List.nil_append] at hL2
          go_wp2_with fail
          refine (refStands_any _ A2 c c2 l (nB true x) k _ hn (by rw [nB_len]; have := size_le true x; omega) ((h.below hb).more hb.size) hL2 hk).mono ?_
          rintro e w2 ⟨rfl, hb2⟩
          have HB := Lib.hid (hb.trans (hb2.mono hb.size))
          clear hb hb2 ho hL2
          by_cases hp : nB true x <+: l.drop k
          · have RR := Lib.hid (HOK.out (HGD.out.2 ⟨by omega, hp⟩))
            rw [decide_eq_true hp]
            clear hp
            go_wp2
            go_ret3
            exact ⟨by rw [RR.out.1, RR.out.2.1, RR.out.2.2, ← HY.out]; rfl, HB⟩
          · have RR := Lib.hid (HBAD.out (fun g => hp (HGD.out.1 g).2))
            rw [decide_eq_false hp]
            clear hp
            go_wp2
            go_ret3
            exact ⟨by rw [RR.out.1, RR.out.2.1, RR.out.2.2]; rfl, HB⟩
end Go.Proofs.Ytggofdahnbchjaa
