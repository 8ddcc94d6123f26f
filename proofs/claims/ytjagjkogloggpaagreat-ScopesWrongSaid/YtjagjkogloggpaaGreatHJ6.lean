/-
  Merged for a claim: L2E, L2F, KR.
-/
import Derived.Test.YtjagjkogloggpaaGreatHL2B
import Derived.Deep.QuietTactic
import Derived.BigQuiet
import Derived.Test.YtjagjkogloggpaaGreatProg
import Derived.OwnWalk
import Derived.Laws.Rows
import Derived.Laws.ResultCell
namespace Go.Proofs.YtjagjkogloggpaaGreat
open Go.RowKit

theorem Lies.by_ {w : World} {B : Nat} {A : Option Addr} {l : List UInt8} (h : Lies w B A l) {k j : Nat} (hj : k + j < l.length) : ∃ g o, A = some ⟨g, o, none⟩ ∧ g < B ∧ w.cell? ⟨g, o + (k + j), none⟩ = some (.int .u8 (by_ (l.drop k) j : Int)) := by
  obtain ⟨g, o, e, hg, hc⟩ := h.at_ hj
  exact ⟨g, o, e, hg, by rw [hc, by_get _ _ (by simp; omega)]; simp⟩

set_option maxRecDepth 100000 in
set_option maxHeartbeats 1000000 in
theorem readU_any (A : Option Addr) (c : Nat) (l : List UInt8) (i : Int) (w : World) (B : Nat) (hn : l.length ≤ 1099511627776) (h : Lies w B A l) :
    Calls Tryz.prog 199 #[.slice A l.length c, .int .i64 i] w fun e w' => e = .returned (.tuple #[.int .u64 (rdX false l i), .int .i64 (rdN false l i), .int .i64 (rdE false l i)]) ∧ w = w' := by
  by_cases hi : i < 0 ∨ (l.length : Int) < i
  · rw [(rd_arg hi).1, (rd_arg hi).2.1, (rd_arg hi).2.2]
    rcases hi with h1 | h1
    · go_enter Tryz.func199, Tryz.ntmps199
      go_wp2
      go_ret3
      exact ⟨rfl, rfl⟩
    · have h2 : ¬ i < 0 := by omega
      go_enter Tryz.func199, Tryz.ntmps199
      go_wp2
      go_ret3
      exact ⟨rfl, rfl⟩
  · obtain ⟨k, rfl⟩ : ∃ k : Nat, i = k := ⟨i.toNat, by omega⟩
    have hk : k ≤ l.length := by omega
    clear hi
    by_cases hM : (l.length : Int) - (k : Int) < 10
    all_goals
      go_enter Tryz.func199, Tryz.ntmps199
      go_wp2
      go_loop [4, 23] (fun x q => ∃ (j : Nat) (z : Int), q = .int .i64 j ∧ x = .int .u64 z ∧ j ≤ 10 ∧ k + j ≤ l.length ∧ Hid (j ≤ 9 → z = sm ((l.drop k).take j)) ∧ Hid (∀ m, m < j → 128 ≤ by_ (l.drop k) m)) (fun _ q => 10 - (intOf q).toNat)
      case atStart => exact ⟨0, 0, rfl, rfl, by omega, by omega, fun _ => rfl, fun m hm => by omega⟩
      case round =>
        obtain ⟨j, z, rfl, rfl, hj, hkj, hz, hm⟩ := hrel
        by_cases hlt : j < 10 ∧ k + j < l.length
        · obtain ⟨g, o, rfl, hg, hc⟩ := h.by_ hlt.2
          obtain ⟨hj1, hj2⟩ := hlt
          obtain ⟨q, hq⟩ : ∃ q, q = by_ (l.drop k) j := ⟨_, rfl⟩
          have hq2 := by_lt (l.drop k) j
          rw [← hq] at hc hq2
          have HQ := Lib.hid hq
          clear hq
          have hz' := hz.out (by omega)
          obtain ⟨s, hs, hs0, hs1, hz0, hz1, hzs⟩ := rd_step hj1 hj2 hz'
          rw [← HQ.out] at hzs
          have hor := orU z j ((q : Int) % 128) hz0 hz1 (by omega)
          rw [hzs] at hor
          have HOR := Lib.hid hor
          clear hor hzs hz'
          by_cases hmore : 128 ≤ q
          · have hrel2 : Hid (j + 1 ≤ 9 → IntKind.u64.wrap s = sm ((l.drop k).take (j + 1))) := fun h9 => by
              rw [← hs]; exact wk_in (b := false) hs0 (by have := pw_lt9 h9; omega)
            have hm2 : Hid (∀ m, m < j + 1 → 128 ≤ by_ (l.drop k) m) := fun m h => by
              by_cases e : m = j
              · subst e; rw [← HQ.out]; exact hmore
              · exact hm.out m (by omega)
            clear hs hs0 hs1 hz0 hz1 hm hz
            go_wp2
            go_round
            case rel => exact ⟨j + 1, _, by go_num, by rw [HOR.out], by omega, by omega, hrel2, hm2⟩
            case measure => simp [intOf]; omega
          · obtain ⟨v, hvr, hvt, hcase⟩ := rd_last (b := false) hj1 hj2 hs hs0 hs1 hm.out (by rw [← HQ.out]; omega)
            have ht := toldU_any (wk false s) (j + 1) w (wk_rng false s).1 (wk_rng false s).2 (by omega) (by omega)
            rw [hvt] at ht
            have HT : Hid (Calls Tryz.prog 216 #[.int .u64 (IntKind.u64.wrap s), .int .i64 ((j : Int) + 1)] w fun e w' => e = .returned (.int .u64 v) ∧ w = w') := ht
            have hsz := sizeU_any v w hvr.1 hvr.2
            have hdg := digitU_any v j w hvr.1 hvr.2 (by omega)
            rw [← HQ.out] at hcase
            clear hs hs0 hs1 hz0 hz1 hm hz ht hvt hvr HQ
            generalize size false v = m at *
            generalize dgt v j = d at *
            have HSZ := Lib.hid hsz
            have HDG := Lib.hid hdg
            clear hsz hdg
            rcases hcase with ⟨g1, g2, r1, r2, r3⟩ | ⟨g1, r1, r2, r3⟩ | ⟨g1, g2, r1, r2, r3⟩
            · have RR := Lib.hid (And.intro r1 (And.intro r2 r3))
              have g3 : (m : Int) ≤ (j : Int) + 1 := by omega
              have g4 : (j : Int) + 1 ≤ m := by omega
              have g5 : d ≤ q := by omega
              have g6 : (q : Int) ≤ d := by omega
              clear g1 g2 r1 r2 r3
              go_wp2_with fail
              rw [HOR.out]
              refine HT.out.mono ?_
              rintro e w' ⟨rfl, rfl⟩
              go_wp2_with (first | (go_at_call 173; refine HSZ.out.mono ?_; rintro e w' ⟨rfl, rfl⟩) | (go_at_call 174; refine HDG.out.mono ?_; rintro e w' ⟨rfl, rfl⟩))
              go_ret3
              exact ⟨by rw [RR.out.1, RR.out.2.1, RR.out.2.2]; rfl, rfl⟩
            · have RR := Lib.hid (And.intro r1 (And.intro r2 r3))
              have g3 : ((m : Int) != (j : Int) + 1) = true := by rw [bne_iff_ne]; omega
              clear g1 r1 r2 r3
              go_wp2_with fail
              rw [HOR.out]
              refine HT.out.mono ?_
              rintro e w' ⟨rfl, rfl⟩
              go_wp2_with (first | (go_at_call 173; refine HSZ.out.mono ?_; rintro e w' ⟨rfl, rfl⟩) | (go_at_call 174; refine HDG.out.mono ?_; rintro e w' ⟨rfl, rfl⟩))
              go_ret3
              exact ⟨by rw [RR.out.1, RR.out.2.1, RR.out.2.2]; rfl, rfl⟩
            · have RR := Lib.hid (And.intro r1 (And.intro r2 r3))
              have g3 : (m : Int) ≤ (j : Int) + 1 := by omega
              have g4 : (j : Int) + 1 ≤ m := by omega
              have g5 : (d != (q : Int)) = true := by rw [bne_iff_ne]; exact g2
              clear g1 g2 r1 r2 r3
              go_wp2_with fail
              rw [HOR.out]
              refine HT.out.mono ?_
              rintro e w' ⟨rfl, rfl⟩
              go_wp2_with (first | (go_at_call 173; refine HSZ.out.mono ?_; rintro e w' ⟨rfl, rfl⟩) | (go_at_call 174; refine HDG.out.mono ?_; rintro e w' ⟨rfl, rfl⟩))
              go_ret3
              exact ⟨by rw [RR.out.1, RR.out.2.1, RR.out.2.2]; rfl, rfl⟩
        · obtain ⟨r1, r2, r3⟩ := rd_end (b := false) hk (j := j) (by omega) hm.out
          have RR := Lib.hid (And.intro r1 (And.intro r2 r3))
          clear r1 r2 r3
          first | (have hx : (l.length : Int) - k ≤ j := by omega) | (have hx : (10 : Int) ≤ j := by omega)
          go_wp2
          go_ret3
          exact ⟨by rw [RR.out.1, RR.out.2.1, RR.out.2.2]; rfl, rfl⟩
set_option maxHeartbeats 400000 in
theorem U_any (A : Option Addr) (c : Nat) (l : List UInt8) (i : Int) (w : World) (B : Nat) (hn : l.length ≤ 1099511627776) (h : Lies w B A l) :
    Calls Tryz.prog 145 #[.slice A l.length c, .int .i64 i] w fun e w' => e = .returned (.tuple #[.int .u64 (rdX false l i), .int .i64 (rdN false l i), .int .i64 (rdE false l i)]) ∧ w = w' := by
  have HP := Lib.hid (readU_any A c l i w B hn h)
  clear h hn
  go_enter Tryz.func145, Tryz.ntmps145
  go_wp2_with (go_at_call 199; refine HP.out.mono ?_; rintro e w' ⟨rfl, rfl⟩)
  go_ret3
  exact ⟨rfl, rfl⟩
end Go.Proofs.YtjagjkogloggpaaGreat

namespace Go.Proofs.YtjagjkogloggpaaGreat
open Go.RowKit

set_option maxRecDepth 100000 in
set_option maxHeartbeats 1000000 in
theorem readS_any (A : Option Addr) (c : Nat) (l : List UInt8) (i : Int) (w : World) (B : Nat) (hn : l.length ≤ 1099511627776) (h : Lies w B A l) :
    Calls Tryz.prog 263 #[.slice A l.length c, .int .i64 i] w fun e w' => e = .returned (.tuple #[.int .i64 (rdX true l i), .int .i64 (rdN true l i), .int .i64 (rdE true l i)]) ∧ w = w' := by
  by_cases hi : i < 0 ∨ (l.length : Int) < i
  · rw [(rd_arg hi).1, (rd_arg hi).2.1, (rd_arg hi).2.2]
    rcases hi with h1 | h1
    · go_enter Tryz.func263, Tryz.ntmps263
      go_wp2
      go_ret3
      exact ⟨rfl, rfl⟩
    · have h2 : ¬ i < 0 := by omega
      go_enter Tryz.func263, Tryz.ntmps263
      go_wp2
      go_ret3
      exact ⟨rfl, rfl⟩
  · obtain ⟨k, rfl⟩ : ∃ k : Nat, i = k := ⟨i.toNat, by omega⟩
    have hk : k ≤ l.length := by omega
    clear hi
    by_cases hM : (l.length : Int) - (k : Int) < 10
    all_goals
      go_enter Tryz.func263, Tryz.ntmps263
      go_wp2
      go_loop [4, 23] (fun x q => ∃ (j : Nat) (z : Int), q = .int .i64 j ∧ x = .int .i64 z ∧ j ≤ 10 ∧ k + j ≤ l.length ∧ Hid (j ≤ 9 → z = sm ((l.drop k).take j)) ∧ Hid (∀ m, m < j → 128 ≤ by_ (l.drop k) m)) (fun _ q => 10 - (intOf q).toNat)
      case atStart => exact ⟨0, 0, rfl, rfl, by omega, by omega, fun _ => rfl, fun m hm => by omega⟩
      case round =>
        obtain ⟨j, z, rfl, rfl, hj, hkj, hz, hm⟩ := hrel
        by_cases hlt : j < 10 ∧ k + j < l.length
        · obtain ⟨g, o, rfl, hg, hc⟩ := h.by_ hlt.2
          obtain ⟨hj1, hj2⟩ := hlt
          obtain ⟨q, hq⟩ : ∃ q, q = by_ (l.drop k) j := ⟨_, rfl⟩
          have hq2 := by_lt (l.drop k) j
          rw [← hq] at hc hq2
          have HQ := Lib.hid hq
          clear hq
          have hz' := hz.out (by omega)
          obtain ⟨s, hs, hs0, hs1, hz0, hz1, hzs⟩ := rd_step hj1 hj2 hz'
          rw [← HQ.out] at hzs
          have hor := orS z j ((q : Int) % 128) hz0 hz1 (by omega)
          rw [hzs, wrapEq, wrapEq] at hor
          have HOR := Lib.hid hor
          clear hor hzs hz'
          by_cases hmore : 128 ≤ q
          · have hrel2 : Hid (j + 1 ≤ 9 → wrap64 s = sm ((l.drop k).take (j + 1))) := fun h9 => by
              rw [← hs, ← wrapEq]; exact wk_in (b := true) hs0 (by have := pw_lt9 h9; omega)
            have hm2 : Hid (∀ m, m < j + 1 → 128 ≤ by_ (l.drop k) m) := fun m h => by
              by_cases e : m = j
              · subst e; rw [← HQ.out]; exact hmore
              · exact hm.out m (by omega)
            clear hs hs0 hs1 hz0 hz1 hm hz
            go_wp2
            go_round
            case rel => exact ⟨j + 1, _, by go_num, by rw [HOR.out], by omega, by omega, hrel2, hm2⟩
            case measure => simp [intOf]; omega
          · obtain ⟨v, hvr, hvt, hcase⟩ := rd_last (b := true) hj1 hj2 hs hs0 hs1 hm.out (by rw [← HQ.out]; omega)
            have ht := toldS_any (wk true s) (j + 1) w (wk_rng true s).1 (wk_rng true s).2 (by omega) (by omega)
            rw [hvt] at ht
            have HT : Hid (Calls Tryz.prog 269 #[.int .i64 (wrap64 s), .int .i64 ((j : Int) + 1)] w fun e w' => e = .returned (.int .i64 v) ∧ w = w') := by rw [← wrapEq]; exact ht
            have hsz := sizeS_any v w hvr.1 hvr.2
            have hdg := digitS_any v j w hvr.1 hvr.2 (by omega)
            rw [← HQ.out] at hcase
            clear hs hs0 hs1 hz0 hz1 hm hz ht hvt hvr HQ
            generalize size true v = m at *
            generalize dgt v j = d at *
            have HSZ := Lib.hid hsz
            have HDG := Lib.hid hdg
            clear hsz hdg
            rcases hcase with ⟨g1, g2, r1, r2, r3⟩ | ⟨g1, r1, r2, r3⟩ | ⟨g1, g2, r1, r2, r3⟩
            · have RR := Lib.hid (And.intro r1 (And.intro r2 r3))
              have g3 : (m : Int) ≤ (j : Int) + 1 := by omega
              have g4 : (j : Int) + 1 ≤ m := by omega
              have g5 : d ≤ q := by omega
              have g6 : (q : Int) ≤ d := by omega
              clear g1 g2 r1 r2 r3
              go_wp2_with fail
              rw [HOR.out]
              refine HT.out.mono ?_
              rintro e w' ⟨rfl, rfl⟩
              go_wp2_with (first | (go_at_call 266; refine HSZ.out.mono ?_; rintro e w' ⟨rfl, rfl⟩) | (go_at_call 267; refine HDG.out.mono ?_; rintro e w' ⟨rfl, rfl⟩))
              go_ret3
              exact ⟨by rw [RR.out.1, RR.out.2.1, RR.out.2.2]; rfl, rfl⟩
            · have RR := Lib.hid (And.intro r1 (And.intro r2 r3))
              have g3 : ((m : Int) != (j : Int) + 1) = true := by rw [bne_iff_ne]; omega
              clear g1 r1 r2 r3
              go_wp2_with fail
              rw [HOR.out]
              refine HT.out.mono ?_
              rintro e w' ⟨rfl, rfl⟩
              go_wp2_with (first | (go_at_call 266; refine HSZ.out.mono ?_; rintro e w' ⟨rfl, rfl⟩) | (go_at_call 267; refine HDG.out.mono ?_; rintro e w' ⟨rfl, rfl⟩))
              go_ret3
              exact ⟨by rw [RR.out.1, RR.out.2.1, RR.out.2.2]; rfl, rfl⟩
            · have RR := Lib.hid (And.intro r1 (And.intro r2 r3))
              have g3 : (m : Int) ≤ (j : Int) + 1 := by omega
              have g4 : (j : Int) + 1 ≤ m := by omega
              have g5 : (d != (q : Int)) = true := by rw [bne_iff_ne]; exact g2
              clear g1 g2 r1 r2 r3
              go_wp2_with fail
              rw [HOR.out]
              refine HT.out.mono ?_
              rintro e w' ⟨rfl, rfl⟩
              go_wp2_with (first | (go_at_call 266; refine HSZ.out.mono ?_; rintro e w' ⟨rfl, rfl⟩) | (go_at_call 267; refine HDG.out.mono ?_; rintro e w' ⟨rfl, rfl⟩))
              go_ret3
              exact ⟨by rw [RR.out.1, RR.out.2.1, RR.out.2.2]; rfl, rfl⟩
        · obtain ⟨r1, r2, r3⟩ := rd_end (b := true) hk (j := j) (by omega) hm.out
          have RR := Lib.hid (And.intro r1 (And.intro r2 r3))
          clear r1 r2 r3
          first | (have hx : (l.length : Int) - k ≤ j := by omega) | (have hx : (10 : Int) ≤ j := by omega)
          go_wp2
          go_ret3
          exact ⟨by rw [RR.out.1, RR.out.2.1, RR.out.2.2]; rfl, rfl⟩
set_option maxHeartbeats 400000 in
theorem S_any (A : Option Addr) (c : Nat) (l : List UInt8) (i : Int) (w : World) (B : Nat) (hn : l.length ≤ 1099511627776) (h : Lies w B A l) :
    Calls Tryz.prog 230 #[.slice A l.length c, .int .i64 i] w fun e w' => e = .returned (.tuple #[.int .i64 (rdX true l i), .int .i64 (rdN true l i), .int .i64 (rdE true l i)]) ∧ w = w' := by
  have HP := Lib.hid (readS_any A c l i w B hn h)
  clear h hn
  go_enter Tryz.func230, Tryz.ntmps230
  go_wp2_with (go_at_call 263; refine HP.out.mono ?_; rintro e w' ⟨rfl, rfl⟩)
  go_ret3
  exact ⟨rfl, rfl⟩
end Go.Proofs.YtjagjkogloggpaaGreat

namespace Go.Proofs.YtjagjkogloggpaaGreat
open Go

section
variable {P : Program} {fn : Func} {p u v : Tmp} {ty : TypeId}
theorem res_row_tmp (h : fn.results = #[.cell p ty, .tmp u]) (tmps : Array Value) (w : World) (g : Nat) (t : TypeId) (cs : Array Value) (fr : Nat × Nat) (d : TypeDesc)
    (hp : tmps.getD p undef = .pointer (some ⟨g, 0, none⟩)) (hg : w.heap[g]? = some (.cells cs t fr))
    (hu : P.underlying ty = some d) (hd : (match d with | .struct _ | .array _ _ => true | _ => false) = true) (hi : (P.info? ty).map (·.size) = some cs.size) :
    (results fn tmps).run P w = .ok (.tuple #[.agg cs, tmps.getD u undef]) w := by
  have hp' : tmps[p]?.getD undef = .pointer (some ⟨g, 0, none⟩) := by simpa using hp
  simp [results, h, hp', asAddr, run_loadVar_row w g t ty cs fr d hg hu hd hi]
theorem res_row_tmp2 (h : fn.results = #[.cell p ty, .tmp u, .tmp v]) (tmps : Array Value) (w : World) (g : Nat) (t : TypeId) (cs : Array Value) (fr : Nat × Nat) (d : TypeDesc)
    (hp : tmps.getD p undef = .pointer (some ⟨g, 0, none⟩)) (hg : w.heap[g]? = some (.cells cs t fr))
    (hu : P.underlying ty = some d) (hd : (match d with | .struct _ | .array _ _ => true | _ => false) = true) (hi : (P.info? ty).map (·.size) = some cs.size) :
    (results fn tmps).run P w = .ok (.tuple #[.agg cs, tmps.getD u undef, tmps.getD v undef]) w := by
  have hp' : tmps[p]?.getD undef = .pointer (some ⟨g, 0, none⟩) := by simpa using hp
  simp [results, h, hp', asAddr, run_loadVar_row w g t ty cs fr d hg hu hd hi]
end

end Go.Proofs.YtjagjkogloggpaaGreat
