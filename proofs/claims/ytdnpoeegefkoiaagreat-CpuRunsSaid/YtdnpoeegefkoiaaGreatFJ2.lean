/-
  Merged for a claim: L2E, L2F, O1C, O1D, O1N, O1E.
-/
import Derived.Test.YtdnpoeegefkoiaaGreatFJ1
import Derived.Deep.QuietTactic
import Derived.BigQuiet
import Derived.Test.YtdnpoeegefkoiaaGreatFJ0
import Derived.Below
import Derived.Laws.OwnMore
import Derived.Deep.AppendLies
import Derived.Deep.Draws
import Derived.RegionTactic
import Derived.Laws.BitsAllLaws
import Derived.Laws.BitsLemmas
import Derived.Laws.CopyOwn
import Derived.Deep.RegionLaw
namespace Go.Proofs.YtdnpoeegefkoiaaGreat
open Go.RowKit

theorem Lies.by_ {w : World} {B : Nat} {A : Option Addr} {l : List UInt8} (h : Lies w B A l) {k j : Nat} (hj : k + j < l.length) : ∃ g o, A = some ⟨g, o, none⟩ ∧ g < B ∧ w.cell? ⟨g, o + (k + j), none⟩ = some (.int .u8 (by_ (l.drop k) j : Int)) := by
  obtain ⟨g, o, e, hg, hc⟩ := h.at_ hj
  exact ⟨g, o, e, hg, by rw [hc, by_get _ _ (by simp; omega)]; simp⟩

set_option maxRecDepth 100000 in
set_option maxHeartbeats 1000000 in
theorem readU_any (A : Option Addr) (c : Nat) (l : List UInt8) (i : Int) (w : World) (B : Nat) (hn : l.length ≤ 1099511627776) (h : Lies w B A l) :
    Calls Tryz.prog 122 #[.slice A l.length c, .int .i64 i] w fun e w' => e = .returned (.tuple #[.int .u64 (rdX false l i), .int .i64 (rdN false l i), .int .i64 (rdE false l i)]) ∧ w = w' := by
  by_cases hi : i < 0 ∨ (l.length : Int) < i
  · rw [(rd_arg hi).1, (rd_arg hi).2.1, (rd_arg hi).2.2]
    rcases hi with h1 | h1
    · go_enter Tryz.func122, Tryz.ntmps122
      go_wp2
      go_ret3
      exact ⟨rfl, rfl⟩
    · have h2 : ¬ i < 0 := by omega
      go_enter Tryz.func122, Tryz.ntmps122
      go_wp2
      go_ret3
      exact ⟨rfl, rfl⟩
  · obtain ⟨k, rfl⟩ : ∃ k : Nat, i = k := ⟨i.toNat, by omega⟩
    have hk : k ≤ l.length := by omega
    clear hi
    by_cases hM : (l.length : Int) - (k : Int) < 10
    all_goals
      go_enter Tryz.func122, Tryz.ntmps122
      go_wp2
      go_loop [4, 23] (fun x q => ∃ (j : Nat) (z : Int), q = .int .i64 j ∧ x = .int .u64 z ∧ j ≤ 10 ∧ k + j ≤ l.length ∧ Hid (j ≤ 9 → z = sm ((l.drop k).take j)) ∧ Hid (∀ m, m < j → 128 ≤ by_ (l.drop k) m)) (fun _ q => 10 - (intOf q).toNat)
      case atStart => exact ⟨0, 0, rfl, rfl, by omega, by omega, fun _ => rfl, fun m hm => by omega⟩
      case round =>
        obtain ⟨j, z, rfl, rfl, hj, hkj, hz, hm⟩ := hrel
        by_cases hlt : j < 10 ∧ k + j < l.length
        · obtain ⟨g, o, rfl, hg, hc⟩ := h.by_ hlt.2
          obtain ⟨hj1, hj2⟩ := hlt
          obtain ⟨q, hq⟩ : ∃ q, q = by_ (l.drop k) j := ⟨_, rfl⟩
          have hq2 := by_lt (l.drop k) j
          rw [← hq] at hc hq2
          have HQ := Lib.hid hq
          clear hq
          have hz' := hz.out (by omega)
          obtain ⟨s, hs, hs0, hs1, hz0, hz1, hzs⟩ := rd_step hj1 hj2 hz'
          rw [← HQ.out] at hzs
          have hor := orU z j ((q : Int) % 128) hz0 hz1 (by omega)
          rw [hzs] at hor
          have HOR := Lib.hid hor
          clear hor hzs hz'
          by_cases hmore : 128 ≤ q
          · have hrel2 : Hid (j + 1 ≤ 9 → IntKind.u64.wrap s = sm ((l.drop k).take (j + 1))) := fun h9 => by
              rw [← hs]; exact wk_in (b := false) hs0 (by have := pw_lt9 h9; omega)
            have hm2 : Hid (∀ m, m < j + 1 → 128 ≤ by_ (l.drop k) m) := fun m h => by
              by_cases e : m = j
              · subst e; rw [← HQ.out]; exact hmore
              · exact hm.out m (by omega)
            clear hs hs0 hs1 hz0 hz1 hm hz
            go_wp2
            go_round
            case rel => exact ⟨j + 1, _, by go_num, by rw [HOR.out], by omega, by omega, hrel2, hm2⟩
            case measure => simp [intOf]; omega
          · obtain ⟨v, hvr, hvt, hcase⟩ := rd_last (b := false) hj1 hj2 hs hs0 hs1 hm.out (by rw [← HQ.out]; omega)
            have ht := toldU_any (wk false s) (j + 1) w (wk_rng false s).1 (wk_rng false s).2 (by omega) (by omega)
            rw [hvt] at ht
            have HT : Hid (Calls Tryz.prog 129 #[.int .u64 (IntKind.u64.wrap s), .int .i64 ((j : Int) + 1)] w fun e w' => e = .returned (.int .u64 v) ∧ w = w') := ht
            have hsz := sizeU_any v w hvr.1 hvr.2
            have hdg := digitU_any v j w hvr.1 hvr.2 (by omega)
            rw [← HQ.out] at hcase
            clear hs hs0 hs1 hz0 hz1 hm hz ht hvt hvr HQ
            generalize size false v = m at *
            generalize dgt v j = d at *
            have HSZ := Lib.hid hsz
            have HDG := Lib.hid hdg
            clear hsz hdg
            rcases hcase with ⟨g1, g2, r1, r2, r3⟩ | ⟨g1, r1, r2, r3⟩ | ⟨g1, g2, r1, r2, r3⟩
            · have RR := Lib.hid (And.intro r1 (And.intro r2 r3))
              have g3 : (m : Int) ≤ (j : Int) + 1 := by omega
              have g4 : (j : Int) + 1 ≤ m := by omega
              have g5 : d ≤ q := by omega
              have g6 : (q : Int) ≤ d := by omega
              clear g1 g2 r1 r2 r3
              go_wp2_with fail
              rw [HOR.out]
              refine HT.out.mono ?_
              rintro e w' ⟨rfl, rfl⟩
              go_wp2_with (first | (go_at_call 127; refine HSZ.out.mono ?_; rintro e w' ⟨rfl, rfl⟩) | (go_at_call 128; refine HDG.out.mono ?_; rintro e w' ⟨rfl, rfl⟩))
              go_ret3
              exact ⟨by rw [RR.out.1, RR.out.2.1, RR.out.2.2]; rfl, rfl⟩
            · have RR := Lib.hid (And.intro r1 (And.intro r2 r3))
              have g3 : ((m : Int) != (j : Int) + 1) = true := by rw [bne_iff_ne]; omega
              clear g1 r1 r2 r3
              go_wp2_with fail
              rw [HOR.out]
              refine HT.out.mono ?_
              rintro e w' ⟨rfl, rfl⟩
              go_wp2_with (first | (go_at_call 127; refine HSZ.out.mono ?_; rintro e w' ⟨rfl, rfl⟩) | (go_at_call 128; refine HDG.out.mono ?_; rintro e w' ⟨rfl, rfl⟩))
              go_ret3
              exact ⟨by rw [RR.out.1, RR.out.2.1, RR.out.2.2]; rfl, rfl⟩
            · have RR := Lib.hid (And.intro r1 (And.intro r2 r3))
              have g3 : (m : Int) ≤ (j : Int) + 1 := by omega
              have g4 : (j : Int) + 1 ≤ m := by omega
              have g5 : (d != (q : Int)) = true := by rw [bne_iff_ne]; exact g2
              clear g1 g2 r1 r2 r3
              go_wp2_with fail
              rw [HOR.out]
              refine HT.out.mono ?_
              rintro e w' ⟨rfl, rfl⟩
              go_wp2_with (first | (go_at_call 127; refine HSZ.out.mono ?_; rintro e w' ⟨rfl, rfl⟩) | (go_at_call 128; refine HDG.out.mono ?_; rintro e w' ⟨rfl, rfl⟩))
              go_ret3
              exact ⟨by rw [RR.out.1, RR.out.2.1, RR.out.2.2]; rfl, rfl⟩
        · obtain ⟨r1, r2, r3⟩ := rd_end (b := false) hk (j := j) (by omega) hm.out
          have RR := Lib.hid (And.intro r1 (And.intro r2 r3))
          clear r1 r2 r3
          first | (have hx : (l.length : Int) - k ≤ j := by omega) | (have hx : (10 : Int) ≤ j := by omega)
          go_wp2
          go_ret3
          exact ⟨by rw [RR.out.1, RR.out.2.1, RR.out.2.2]; rfl, rfl⟩
set_option maxHeartbeats 400000 in
theorem U_any (A : Option Addr) (c : Nat) (l : List UInt8) (i : Int) (w : World) (B : Nat) (hn : l.length ≤ 1099511627776) (h : Lies w B A l) :
    Calls Tryz.prog 109 #[.slice A l.length c, .int .i64 i] w fun e w' => e = .returned (.tuple #[.int .u64 (rdX false l i), .int .i64 (rdN false l i), .int .i64 (rdE false l i)]) ∧ w = w' := by
  have HP := Lib.hid (readU_any A c l i w B hn h)
  clear h hn
  go_enter Tryz.func109, Tryz.ntmps109
  go_wp2_with (go_at_call 122; refine HP.out.mono ?_; rintro e w' ⟨rfl, rfl⟩)
  go_ret3
  exact ⟨rfl, rfl⟩
end Go.Proofs.YtdnpoeegefkoiaaGreat

namespace Go.Proofs.YtdnpoeegefkoiaaGreat
open Go.RowKit

set_option maxRecDepth 100000 in
set_option maxHeartbeats 1000000 in
theorem readS_any (A : Option Addr) (c : Nat) (l : List UInt8) (i : Int) (w : World) (B : Nat) (hn : l.length ≤ 1099511627776) (h : Lies w B A l) :
    Calls Tryz.prog 119 #[.slice A l.length c, .int .i64 i] w fun e w' => e = .returned (.tuple #[.int .i64 (rdX true l i), .int .i64 (rdN true l i), .int .i64 (rdE true l i)]) ∧ w = w' := by
  by_cases hi : i < 0 ∨ (l.length : Int) < i
  · rw [(rd_arg hi).1, (rd_arg hi).2.1, (rd_arg hi).2.2]
    rcases hi with h1 | h1
    · go_enter Tryz.func119, Tryz.ntmps119
      go_wp2
      go_ret3
      exact ⟨rfl, rfl⟩
    · have h2 : ¬ i < 0 := by omega
      go_enter Tryz.func119, Tryz.ntmps119
      go_wp2
      go_ret3
      exact ⟨rfl, rfl⟩
  · obtain ⟨k, rfl⟩ : ∃ k : Nat, i = k := ⟨i.toNat, by omega⟩
    have hk : k ≤ l.length := by omega
    clear hi
    by_cases hM : (l.length : Int) - (k : Int) < 10
    all_goals
      go_enter Tryz.func119, Tryz.ntmps119
      go_wp2
      go_loop [4, 23] (fun x q => ∃ (j : Nat) (z : Int), q = .int .i64 j ∧ x = .int .i64 z ∧ j ≤ 10 ∧ k + j ≤ l.length ∧ Hid (j ≤ 9 → z = sm ((l.drop k).take j)) ∧ Hid (∀ m, m < j → 128 ≤ by_ (l.drop k) m)) (fun _ q => 10 - (intOf q).toNat)
      case atStart => exact ⟨0, 0, rfl, rfl, by omega, by omega, fun _ => rfl, fun m hm => by omega⟩
      case round =>
        obtain ⟨j, z, rfl, rfl, hj, hkj, hz, hm⟩ := hrel
        by_cases hlt : j < 10 ∧ k + j < l.length
        · obtain ⟨g, o, rfl, hg, hc⟩ := h.by_ hlt.2
          obtain ⟨hj1, hj2⟩ := hlt
          obtain ⟨q, hq⟩ : ∃ q, q = by_ (l.drop k) j := ⟨_, rfl⟩
          have hq2 := by_lt (l.drop k) j
          rw [← hq] at hc hq2
          have HQ := Lib.hid hq
          clear hq
          have hz' := hz.out (by omega)
          obtain ⟨s, hs, hs0, hs1, hz0, hz1, hzs⟩ := rd_step hj1 hj2 hz'
          rw [← HQ.out] at hzs
          have hor := orS z j ((q : Int) % 128) hz0 hz1 (by omega)
          rw [hzs, wrapEq, wrapEq] at hor
          have HOR := Lib.hid hor
          clear hor hzs hz'
          by_cases hmore : 128 ≤ q
          · have hrel2 : Hid (j + 1 ≤ 9 → wrap64 s = sm ((l.drop k).take (j + 1))) := fun h9 => by
              rw [← hs, ← wrapEq]; exact wk_in (b := true) hs0 (by have := pw_lt9 h9; omega)
            have hm2 : Hid (∀ m, m < j + 1 → 128 ≤ by_ (l.drop k) m) := fun m h => by
              by_cases e : m = j
              · subst e; rw [← HQ.out]; exact hmore
              · exact hm.out m (by omega)
            clear hs hs0 hs1 hz0 hz1 hm hz
            go_wp2
            go_round
            case rel => exact ⟨j + 1, _, by go_num, by rw [HOR.out], by omega, by omega, hrel2, hm2⟩
            case measure => simp [intOf]; omega
          · obtain ⟨v, hvr, hvt, hcase⟩ := rd_last (b := true) hj1 hj2 hs hs0 hs1 hm.out (by rw [← HQ.out]; omega)
            have ht := toldS_any (wk true s) (j + 1) w (wk_rng true s).1 (wk_rng true s).2 (by omega) (by omega)
            rw [hvt] at ht
            have HT : Hid (Calls Tryz.prog 126 #[.int .i64 (wrap64 s), .int .i64 ((j : Int) + 1)] w fun e w' => e = .returned (.int .i64 v) ∧ w = w') := by rw [← wrapEq]; exact ht
            have hsz := sizeS_any v w hvr.1 hvr.2
            have hdg := digitS_any v j w hvr.1 hvr.2 (by omega)
            rw [← HQ.out] at hcase
            clear hs hs0 hs1 hz0 hz1 hm hz ht hvt hvr HQ
            generalize size true v = m at *
            generalize dgt v j = d at *
            have HSZ := Lib.hid hsz
            have HDG := Lib.hid hdg
            clear hsz hdg
            rcases hcase with ⟨g1, g2, r1, r2, r3⟩ | ⟨g1, r1, r2, r3⟩ | ⟨g1, g2, r1, r2, r3⟩
            · have RR := Lib.hid (And.intro r1 (And.intro r2 r3))
              have g3 : (m : Int) ≤ (j : Int) + 1 := by omega
              have g4 : (j : Int) + 1 ≤ m := by omega
              have g5 : d ≤ q := by omega
              have g6 : (q : Int) ≤ d := by omega
              clear g1 g2 r1 r2 r3
              go_wp2_with fail
              rw [HOR.out]
              refine HT.out.mono ?_
              rintro e w' ⟨rfl, rfl⟩
              go_wp2_with (first | (go_at_call 124; refine HSZ.out.mono ?_; rintro e w' ⟨rfl, rfl⟩) | (go_at_call 125; refine HDG.out.mono ?_; rintro e w' ⟨rfl, rfl⟩))
              go_ret3
              exact ⟨by rw [RR.out.1, RR.out.2.1, RR.out.2.2]; rfl, rfl⟩
            · have RR := Lib.hid (And.intro r1 (And.intro r2 r3))
              have g3 : ((m : Int) != (j : Int) + 1) = true := by rw [bne_iff_ne]; omega
              clear g1 r1 r2 r3
              go_wp2_with fail
              rw [HOR.out]
              refine HT.out.mono ?_
              rintro e w' ⟨rfl, rfl⟩
              go_wp2_with (first | (go_at_call 124; refine HSZ.out.mono ?_; rintro e w' ⟨rfl, rfl⟩) | (go_at_call 125; refine HDG.out.mono ?_; rintro e w' ⟨rfl, rfl⟩))
              go_ret3
              exact ⟨by rw [RR.out.1, RR.out.2.1, RR.out.2.2]; rfl, rfl⟩
            · have RR := Lib.hid (And.intro r1 (And.intro r2 r3))
              have g3 : (m : Int) ≤ (j : Int) + 1 := by omega
              have g4 : (j : Int) + 1 ≤ m := by omega
              have g5 : (d != (q : Int)) = true := by rw [bne_iff_ne]; exact g2
              clear g1 g2 r1 r2 r3
              go_wp2_with fail
              rw [HOR.out]
              refine HT.out.mono ?_
              rintro e w' ⟨rfl, rfl⟩
              go_wp2_with (first | (go_at_call 124; refine HSZ.out.mono ?_; rintro e w' ⟨rfl, rfl⟩) | (go_at_call 125; refine HDG.out.mono ?_; rintro e w' ⟨rfl, rfl⟩))
              go_ret3
              exact ⟨by rw [RR.out.1, RR.out.2.1, RR.out.2.2]; rfl, rfl⟩
        · obtain ⟨r1, r2, r3⟩ := rd_end (b := true) hk (j := j) (by omega) hm.out
          have RR := Lib.hid (And.intro r1 (And.intro r2 r3))
          clear r1 r2 r3
          first | (have hx : (l.length : Int) - k ≤ j := by omega) | (have hx : (10 : Int) ≤ j := by omega)
          go_wp2
          go_ret3
          exact ⟨by rw [RR.out.1, RR.out.2.1, RR.out.2.2]; rfl, rfl⟩
set_option maxHeartbeats 400000 in
theorem S_any (A : Option Addr) (c : Nat) (l : List UInt8) (i : Int) (w : World) (B : Nat) (hn : l.length ≤ 1099511627776) (h : Lies w B A l) :
    Calls Tryz.prog 89 #[.slice A l.length c, .int .i64 i] w fun e w' => e = .returned (.tuple #[.int .i64 (rdX true l i), .int .i64 (rdN true l i), .int .i64 (rdE true l i)]) ∧ w = w' := by
  have HP := Lib.hid (readS_any A c l i w B hn h)
  clear h hn
  go_enter Tryz.func89, Tryz.ntmps89
  go_wp2_with (go_at_call 119; refine HP.out.mono ?_; rintro e w' ⟨rfl, rfl⟩)
  go_ret3
  exact ⟨rfl, rfl⟩
end Go.Proofs.YtdnpoeegefkoiaaGreat

namespace Go.Proofs.YtdnpoeegefkoiaaGreat
open Go.RowKit

/-- what is told of so many bytes from a place on: 1, 5, or 0 -/
def stV (n : Nat) (i s : Int) : Int := if i < 0 ∨ (n : Int) < i then 1 else if (n : Int) - i < s then 5 else 0

theorem st_arg {n : Nat} {i s : Int} (h : i < 0 ∨ (n : Int) < i) : stV n i s = 1 := by simp [stV, h]
theorem st_form {n : Nat} {i s : Int} (h0 : 0 ≤ i) (h1 : i ≤ n) (h : (n : Int) - i < s) : stV n i s = 5 := by
  unfold stV; rw [if_neg (by omega), if_pos h]
theorem st_ok {n : Nat} {i s : Int} (h0 : 0 ≤ i) (h1 : i ≤ n) (h : s ≤ (n : Int) - i) : stV n i s = 0 := by
  unfold stV; rw [if_neg (by omega), if_neg (by omega)]

set_option maxHeartbeats 400000 in
theorem stands_any (A : Option Addr) (n c : Nat) (i s : Int) (w : World) (hn : n ≤ 1099511627776) (_ : 0 ≤ s) :
    Calls Tryz.prog 67 #[.slice A n c, .int .i64 i, .int .i64 s] w fun e w' => e = .returned (.int .i64 (stV n i s)) ∧ w = w' := by
  by_cases h1 : i < 0
  · rw [st_arg (.inl h1)]
    go_enter Tryz.func67, Tryz.ntmps67
    go_wp2
    go_ret
    exact ⟨rfl, rfl⟩
  by_cases h2 : (n : Int) < i
  · rw [st_arg (.inr h2)]
    go_enter Tryz.func67, Tryz.ntmps67
    go_wp2
    go_ret
    exact ⟨rfl, rfl⟩
  by_cases h3 : (n : Int) - i < s
  · rw [st_form (by omega) (by omega) h3]
    go_enter Tryz.func67, Tryz.ntmps67
    go_wp2
    go_ret
    exact ⟨rfl, rfl⟩
  · rw [st_ok (by omega) (by omega) (by omega)]
    go_enter Tryz.func67, Tryz.ntmps67
    go_wp2
    go_ret
    exact ⟨rfl, rfl⟩

set_option maxHeartbeats 400000 in
theorem have_any (A : Option Addr) (n c : Nat) (i s : Int) (w : World) (hn : n ≤ 1099511627776) (_ : 0 ≤ s) :
    Calls Tryz.prog 63 #[.slice A n c, .int .i64 i, .int .i64 s] w fun e w' => e = .returned (.int .i64 (stV n i s)) ∧ w = w' := by
  by_cases h1 : i < 0
  · rw [st_arg (.inl h1)]
    go_enter Tryz.func63, Tryz.ntmps63
    go_wp2
    go_ret
    exact ⟨rfl, rfl⟩
  by_cases h2 : (n : Int) < i
  · rw [st_arg (.inr h2)]
    go_enter Tryz.func63, Tryz.ntmps63
    go_wp2
    go_ret
    exact ⟨rfl, rfl⟩
  by_cases h3 : (n : Int) - i < s
  · rw [st_form (by omega) (by omega) h3]
    go_enter Tryz.func63, Tryz.ntmps63
    go_wp2
    go_ret
    exact ⟨rfl, rfl⟩
  · rw [st_ok (by omega) (by omega) (by omega)]
    go_enter Tryz.func63, Tryz.ntmps63
    go_wp2
    go_ret
    exact ⟨rfl, rfl⟩

end Go.Proofs.YtdnpoeegefkoiaaGreat

namespace Go.Proofs.YtdnpoeegefkoiaaGreat
open Go.RowKit

/-- what One answers: the byte, the place behind it, the error -/
def oneX (l : List UInt8) (i : Int) : Int := if stV l.length i 1 = 0 then ((l.getD i.toNat 0).toNat : Int) else 0
def oneN (l : List UInt8) (i : Int) : Int := if stV l.length i 1 = 0 then i + 1 else 0

theorem one_bad {l : List UInt8} {i : Int} (h : ¬ (0 ≤ i ∧ i < l.length)) : stV l.length i 1 ≠ 0 := by
  unfold stV; split
  · omega
  · split <;> omega

set_option maxHeartbeats 400000 in
theorem one_any (A : Option Addr) (c : Nat) (l : List UInt8) (i : Int) (w : World) (B : Nat) (hn : l.length ≤ 1099511627776) (h : Lies w B A l) :
    Calls Tryz.prog 52 #[.slice A l.length c, .int .i64 i] w fun e w' => e = .returned (.tuple #[.int .u8 (oneX l i), .int .i64 (oneN l i), .int .i64 (stV l.length i 1)]) ∧ w = w' := by
  by_cases hi : 0 ≤ i ∧ i < l.length
  · obtain ⟨k, rfl⟩ : ∃ k : Nat, i = k := ⟨i.toNat, by omega⟩
    have hk : k < l.length := by omega
    have hv : stV l.length k 1 = 0 := st_ok (by omega) (by omega) (by omega)
    have hx : oneX l k = (l[k].toNat : Int) := by simp [oneX, hv, hk]
    have hN : oneN l k = (k : Int) + 1 := by simp [oneN, hv]
    have hst := stands_any A l.length c k 1 w hn (by omega)
    rw [hv] at hst
    rw [hv, hx, hN]
    obtain ⟨g, o, rfl, _, hc⟩ := h.at_ hk
    clear h hi hv hx hN
    have Hst := Lib.hid hst
    clear hst
    go_enter Tryz.func52, Tryz.ntmps52
    go_wp2_with (go_at_call 67; refine Hst.out.mono ?_; rintro e w' ⟨rfl, rfl⟩)
    go_ret3
    exact ⟨rfl, rfl⟩
  · have hv := one_bad hi
    have hx : oneX l i = 0 := by simp [oneX, hv]
    have hN : oneN l i = 0 := by simp [oneN, hv]
    have hst := stands_any A l.length c i 1 w hn (by omega)
    rw [hx, hN]
    generalize stV l.length i 1 = v at *
    have hvb : (v != 0) = true := by simpa using hv
    have Hst := Lib.hid hst
    clear hst h hi hv hx hN
    go_enter Tryz.func52, Tryz.ntmps52
    go_wp2_with (go_at_call 67; refine Hst.out.mono ?_; rintro e w' ⟨rfl, rfl⟩)
    go_ret3
    exact ⟨rfl, rfl⟩

set_option maxHeartbeats 400000 in
theorem refOne_any (A : Option Addr) (c : Nat) (l : List UInt8) (i : Int) (w : World) (B : Nat) (hn : l.length ≤ 1099511627776) (h : Lies w B A l) :
    Calls Tryz.prog 40 #[.slice A l.length c, .int .i64 i] w fun e w' => e = .returned (.tuple #[.int .u8 (oneX l i), .int .i64 (oneN l i), .int .i64 (stV l.length i 1)]) ∧ w = w' := by
  by_cases hi : 0 ≤ i ∧ i < l.length
  · obtain ⟨k, rfl⟩ : ∃ k : Nat, i = k := ⟨i.toNat, by omega⟩
    have hk : k < l.length := by omega
    have hv : stV l.length k 1 = 0 := st_ok (by omega) (by omega) (by omega)
    have hx : oneX l k = (l[k].toNat : Int) := by simp [oneX, hv, hk]
    have hN : oneN l k = (k : Int) + 1 := by simp [oneN, hv]
    have hst := have_any A l.length c k 1 w hn (by omega)
    rw [hv] at hst
    rw [hv, hx, hN]
    obtain ⟨g, o, rfl, _, hc⟩ := h.at_ hk
    clear h hi hv hx hN
    have Hst := Lib.hid hst
    clear hst
    go_enter Tryz.func40, Tryz.ntmps40
    go_wp2_with (go_at_call 63; refine Hst.out.mono ?_; rintro e w' ⟨rfl, rfl⟩)
    go_ret3
    exact ⟨rfl, rfl⟩
  · have hv := one_bad hi
    have hx : oneX l i = 0 := by simp [oneX, hv]
    have hN : oneN l i = 0 := by simp [oneN, hv]
    have hst := have_any A l.length c i 1 w hn (by omega)
    rw [hx, hN]
    generalize stV l.length i 1 = v at *
    have hvb : (v != 0) = true := by simpa using hv
    have Hst := Lib.hid hst
    clear hst h hi hv hx hN
    go_enter Tryz.func40, Tryz.ntmps40
    go_wp2_with (go_at_call 63; refine Hst.out.mono ?_; rintro e w' ⟨rfl, rfl⟩)
    go_ret3
    exact ⟨rfl, rfl⟩

end Go.Proofs.YtdnpoeegefkoiaaGreat

namespace Go.Proofs.YtdnpoeegefkoiaaGreat

theorem ofInt64 (a : Nat) (ha : a < 9223372036854775808) : (BitVec.ofInt 64 (a : Int)).toNat = a := by
  rw [BitVec.ofInt_natCast, BitVec.toNat_ofNat]; exact Nat.mod_eq_of_lt (by omega)

theorem or_nat (a b : Nat) (ha : a < 9223372036854775808) (hb : b < 9223372036854775808) : bits .or .i64 (a : Int) (b : Int) = ((a ||| b : Nat) : Int) := by
  have hx : a ||| b < 2 ^ 63 := Nat.or_lt_two_pow (by omega) (by omega)
  show IntKind.i64.wrap ((BitVec.ofInt 64 (a : Int) ||| BitVec.ofInt 64 (b : Int)).toNat : Int) = _
  rw [BitVec.toNat_or, ofInt64 a ha, ofInt64 b hb, IntKind.wrap_i64]
  omega

theorem or_byte (a : Nat) (x : UInt8) (ha : a < 70368744177664) : bits .or .i64 ((a : Int) * 256) (x.toNat : Int) = 256 * (a : Int) + (x.toNat : Int) := by
  have hx := x.toNat_lt
  have e : (256 * a ||| x.toNat) = 256 * a + x.toNat := (Nat.two_pow_add_eq_or_of_lt (i := 8) (by simpa using hx) a).symm
  have h := or_nat (256 * a) x.toNat (by omega) (by omega)
  rw [e] at h
  have c : ((a : Int) * 256) = ((256 * a : Nat) : Int) := by omega
  rw [c, h]; omega

theorem or_zero (x : UInt8) : bits .or .i64 0 (x.toNat : Int) = (x.toNat : Int) := by
  have := or_byte 0 x (by omega)
  simpa using this

end Go.Proofs.YtdnpoeegefkoiaaGreat

namespace Go.Proofs.YtdnpoeegefkoiaaGreat
open Go.RowKit

def plX (l : List UInt8) (i : Int) : Int := if stV l.length i 3 = 0 then 65536 * ((l.getD i.toNat 0).toNat : Int) + 256 * ((l.getD (i.toNat + 1) 0).toNat : Int) + ((l.getD (i.toNat + 2) 0).toNat : Int) else 0
def plN (l : List UInt8) (i : Int) : Int := if stV l.length i 3 = 0 then i + 3 else 0

theorem pl_bad {l : List UInt8} {i : Int} (h : ¬ (0 ≤ i ∧ i + 3 ≤ l.length)) : stV l.length i 3 ≠ 0 := by
  unfold stV; split
  · omega
  · split <;> omega

theorem src3 {w : World} {g o k : Nat} {x0 x1 x2 : Value} (c0 : w.cell? ⟨g, o + k, none⟩ = some x0) (c1 : w.cell? ⟨g, o + (k + 1), none⟩ = some x1) (c2 : w.cell? ⟨g, o + (k + 2), none⟩ = some x2) (W : World) (hb : Below w.heap.size w W) :
    ∀ j v, [x0, x1, x2][j]? = some v → W.cell? ((⟨g, o + k, none⟩ : Addr).add j) = some v := by
  intro j v hv
  have hg : g < w.heap.size := World.block_lt_of_cell? w _ c0
  match j, hv with
  | 0, hv => simp at hv; subst hv; simpa [Addr.add] using (hb.cell (p := ⟨g, o + k, none⟩) hg).trans c0
  | 1, hv => simp at hv; subst hv; simpa [Addr.add, Nat.add_assoc] using (hb.cell (p := ⟨g, o + (k + 1), none⟩) hg).trans c1
  | 2, hv => simp at hv; subst hv; simpa [Addr.add, Nat.add_assoc] using (hb.cell (p := ⟨g, o + (k + 2), none⟩) hg).trans c2
  | j + 3, hv => simp at hv

theorem or_last (x0 x1 x2 : UInt8) (b0 : x0.toNat < 2 ^ 8) (b1 : x1.toNat < 2 ^ 8) :
    Value.int .i64 (bits .or .i64 ((256 * (x0.toNat : Int) + (x1.toNat : Int)) * 256) (x2.toNat : Int)) = .int .i64 (65536 * (x0.toNat : Int) + 256 * (x1.toNat : Int) + (x2.toNat : Int)) := by
  have h := or_byte (256 * x0.toNat + x1.toNat) x2 (by omega)
  have c : ((256 * x0.toNat + x1.toNat : Nat) : Int) = 256 * (x0.toNat : Int) + (x1.toNat : Int) := by omega
  rw [c] at h
  rw [h]
  congr 1
  omega

set_option maxHeartbeats 400000 in
theorem place_any (A : Option Addr) (c : Nat) (l : List UInt8) (i : Int) (w : World) (B : Nat) (hc : l.length ≤ c) (hn : l.length ≤ 1099511627776) (h : Lies w B A l) :
    Calls Tryz.prog 114 #[.slice A l.length c, .int .i64 i] w fun e w' => e = .returned (.tuple #[.int .i64 (plX l i), .int .i64 (plN l i), .int .i64 (stV l.length i 3)]) ∧ Below w.heap.size w w' := by
  by_cases hi : 0 ≤ i ∧ i + 3 ≤ l.length
  · obtain ⟨k, rfl⟩ : ∃ k : Nat, i = k := ⟨i.toNat, by omega⟩
    have hk : k + 3 ≤ l.length := by omega
    have hv : stV l.length k 3 = 0 := st_ok (by omega) (by omega) (by omega)
    have hst := stands_any A l.length c k 3 w hn (by omega)
    rw [hv] at hst
    rw [hv]
    have Hst := Lib.hid hst
    clear hst
    obtain ⟨g, o, rfl, hg, hcell⟩ := h (by omega)
    have hck : ¬ (c = k) := by omega
    have hkl : k ≤ l.length := by omega
    have c0 := hcell k (by omega)
    have c1 := hcell (k + 1) (by omega)
    have c2 := hcell (k + 2) (by omega)
    clear h hcell
    obtain ⟨x0, hx0⟩ : ∃ x, x = l[k] := ⟨_, rfl⟩
    obtain ⟨x1, hx1⟩ : ∃ x, x = l[k + 1] := ⟨_, rfl⟩
    obtain ⟨x2, hx2⟩ : ∃ x, x = l[k + 2] := ⟨_, rfl⟩
    rw [← hx0] at c0; rw [← hx1] at c1; rw [← hx2] at c2
    have hX : plX l k = 65536 * (x0.toNat : Int) + 256 * (x1.toNat : Int) + (x2.toNat : Int) := by
      subst hx0 hx1 hx2; simp [plX, hv, show k < l.length by omega, show k + 1 < l.length by omega, show k + 2 < l.length by omega]
    have hN : plN l k = (k : Int) + 3 := by simp [plN, hv]
    rw [hX, hN]
    have S := Lib.hid (src3 c0 c1 c2)
    have hlt : g < w.heap.size := World.block_lt_of_cell? w _ c0
    clear hX hN hx0 hx1 hx2 hi hv c0 c1 c2
    go_enter Tryz.func114, Tryz.ntmps114
    go_wp2_with (go_at_call 67; refine Hst.out.mono ?_; rintro e w' ⟨rfl, rfl⟩)
    go_region_law (refine step_copy_splice rfl (.tmp 16) (.tmp 19) 23 23 rfl 5 Tryz.underlying23 (by kernel_rfl) (some ⟨w.heap.size, 0, none⟩) (some ⟨g, o + k, none⟩) 3 3 (l.length - k) (c - k) (by simp [Act.eval, Act.put]) (by simp [Act.eval, Act.put]) w.heap.size 0 [.int .u8 0, .int .u8 0, .int .u8 0] 118 (by exact heap_alloc_new w _) [.int .u8 x0.toNat, .int .u8 x1.toNat, .int .u8 x2.toNat] (show 3 = Nat.min (l.length - k) 3 from (Nat.min_eq_right (by omega)).symm) (fun _ => ⟨rfl, _, rfl, S.out _ (((Below.refl _ _).alloc (Nat.le_refl _) _).drew)⟩) (by simp) (by simp [Value.oneCell']) w.heap.size w (((Below.refl _ _).alloc (Nat.le_refl _) _).drew) (Nat.le_refl _) ?_; intro w1 hg1 hb1)
    have d0 : w1.cell? ⟨w.heap.size, 0, none⟩ = some (.int .u8 x0.toNat) := by have := hg1.out; simp [splice] at this; simp [World.cell?, this]
    have d1 : w1.cell? ⟨w.heap.size, 1, none⟩ = some (.int .u8 x1.toNat) := by have := hg1.out; simp [splice] at this; simp [World.cell?, this]
    have d2 : w1.cell? ⟨w.heap.size, 2, none⟩ = some (.int .u8 x2.toNat) := by have := hg1.out; simp [splice] at this; simp [World.cell?, this]
    clear hg1
    have b0 := x0.toNat_lt
    have b1 := x1.toNat_lt
    have b2 := x2.toNat_lt
    go_wp2
    go_loop [4, 21] (fun n i => (n = .int .i64 0 ∧ i = .int .i64 0) ∨ (n = .int .i64 x0.toNat ∧ i = .int .i64 1) ∨ (n = .int .i64 (256 * x0.toNat + x1.toNat) ∧ i = .int .i64 2) ∨ (n = .int .i64 (65536 * x0.toNat + 256 * x1.toNat + x2.toNat) ∧ i = .int .i64 3)) (fun _ i => 3 - (intOf i).toNat)
    case atStart => exact .inl ⟨rfl, rfl⟩
    case round =>
      rcases hrel with ⟨rfl, rfl⟩ | ⟨rfl, rfl⟩ | ⟨rfl, rfl⟩ | ⟨rfl, rfl⟩
      · go_wp2
        go_round
        case rel => exact .inr (.inl ⟨by rw [or_zero], rfl⟩)
        case measure => simp [intOf]
      · go_wp2
        go_round
        case rel => exact .inr (.inr (.inl ⟨by rw [or_byte _ _ (by omega)], rfl⟩))
        case measure => simp [intOf]
      · go_wp2
        go_round
        case rel => exact .inr (.inr (.inr ⟨or_last _ _ _ b0 b1, rfl⟩))
        case measure => simp [intOf]
      · go_wp2
        go_ret3
        exact ⟨rfl, hb1⟩
  · have hv := pl_bad hi
    have hx : plX l i = 0 := by simp [plX, hv]
    have hN : plN l i = 0 := by simp [plN, hv]
    have hst := stands_any A l.length c i 3 w hn (by omega)
    rw [hx, hN]
    generalize stV l.length i 3 = v at *
    have hvb : (v != 0) = true := by simpa using hv
    have Hst := Lib.hid hst
    clear hst h hi hv hx hN
    go_enter Tryz.func114, Tryz.ntmps114
    go_wp2_with (go_at_call 67; refine Hst.out.mono ?_; rintro e w' ⟨rfl, rfl⟩)
    go_ret3
    exact ⟨rfl, Below.refl _ _⟩

set_option maxHeartbeats 400000 in
theorem refPlace_any (A : Option Addr) (c : Nat) (l : List UInt8) (i : Int) (w : World) (B : Nat) (hn : l.length ≤ 1099511627776) (h : Lies w B A l) :
    Calls Tryz.prog 43 #[.slice A l.length c, .int .i64 i] w fun e w' => e = .returned (.tuple #[.int .i64 (plX l i), .int .i64 (plN l i), .int .i64 (stV l.length i 3)]) ∧ Below w.heap.size w w' := by
  by_cases hi : 0 ≤ i ∧ i + 3 ≤ l.length
  · obtain ⟨k, rfl⟩ : ∃ k : Nat, i = k := ⟨i.toNat, by omega⟩
    have hk : k + 3 ≤ l.length := by omega
    have hv : stV l.length k 3 = 0 := st_ok (by omega) (by omega) (by omega)
    have hst := have_any A l.length c k 3 w hn (by omega)
    rw [hv] at hst
    rw [hv]
    have Hst := Lib.hid hst
    clear hst
    obtain ⟨g, o, rfl, hg, hcell⟩ := h (by omega)
    have c0 := hcell k (by omega)
    have c1 := hcell (k + 1) (by omega)
    have c2 := hcell (k + 2) (by omega)
    clear h hcell
    obtain ⟨x0, hx0⟩ : ∃ x, x = l[k] := ⟨_, rfl⟩
    obtain ⟨x1, hx1⟩ : ∃ x, x = l[k + 1] := ⟨_, rfl⟩
    obtain ⟨x2, hx2⟩ : ∃ x, x = l[k + 2] := ⟨_, rfl⟩
    rw [← hx0] at c0; rw [← hx1] at c1; rw [← hx2] at c2
    have hX : plX l k = 65536 * (x0.toNat : Int) + 256 * (x1.toNat : Int) + (x2.toNat : Int) := by
      subst hx0 hx1 hx2; simp [plX, hv, show k < l.length by omega, show k + 1 < l.length by omega, show k + 2 < l.length by omega]
    have hN : plN l k = (k : Int) + 3 := by simp [plN, hv]
    rw [hX, hN]
    have b0 := x0.toNat_lt
    have b1 := x1.toNat_lt
    have b2 := x2.toNat_lt
    clear hX hN hx0 hx1 hx2 hi hv
    go_enter Tryz.func43, Tryz.ntmps43
    go_wp2_with (go_at_call 63; refine Hst.out.mono ?_; rintro e w' ⟨rfl, rfl⟩)
    go_quiet (fail)
    go_wp2
    go_ret3
    exact ⟨rfl, below_draws _⟩
  · have hv := pl_bad hi
    have hx : plX l i = 0 := by simp [plX, hv]
    have hN : plN l i = 0 := by simp [plN, hv]
    have hst := have_any A l.length c i 3 w hn (by omega)
    rw [hx, hN]
    generalize stV l.length i 3 = v at *
    have hvb : (v != 0) = true := by simpa using hv
    have Hst := Lib.hid hst
    clear hst h hi hv hx hN
    go_enter Tryz.func43, Tryz.ntmps43
    go_wp2_with (go_at_call 63; refine Hst.out.mono ?_; rintro e w' ⟨rfl, rfl⟩)
    go_ret3
    exact ⟨rfl, Below.refl _ _⟩

end Go.Proofs.YtdnpoeegefkoiaaGreat
