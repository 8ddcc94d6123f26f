/-
  Contract of the document's numbers; append of a saved register as one operation.
-/
import Derived.Test.YtgpoicbbmaimpaaU8H
import Derived.Test.YtgpoicbbmaimpaaU2T
namespace Go.Proofs.Ytgpoicbbmaimpaa
open Go Go.RowKit

def VRet (A : Option Addr) (c : Nat) (b : List UInt8) (k : Nat) (X N E : Int) : Prop :=
  ∀ w : World, Lies w w.heap.size A b → Calls Try.prog 46 #[.slice A b.length c, .int .i64 k] w fun e w' => e = .returned (.tuple #[.int .u64 X, .int .i64 N, .int .i64 E]) ∧ Below w.heap.size w w'
theorem v8_cases (M : Nat) (A : Option Addr) (c : Nat) (b : List UInt8) (k : Nat) (hk : k ≤ b.length) (hn : b.length ≤ 1099511627776) :
    (∃ x n : Nat, num8 M b k = some (x, n) ∧ k + 1 ≤ n ∧ n ≤ b.length ∧ x ≤ M ∧ VRet A c b k x n 0) ∨ (num8 M b k = none ∧ ((∃ X N : Int, VRet A c b k X N 5) ∨ ∃ X N : Int, (M : Int) < X ∧ X < 18446744073709551616 ∧ VRet A c b k X N 0)) := by
  by_cases hg : good false (b.drop k)
  · obtain ⟨q1, q2, q3⟩ := rd_ok hk hg
    have hr := hv_rng hg
    simp only [rng, Bool.false_eq_true, if_false] at hr
    by_cases h16 : hv false (b.drop k) ≤ M
    · have h1 : num8 M b k = some ((hv false (b.drop k)).toNat, k + lg (b.drop k) 10) := if_pos ⟨hg, h16⟩
      obtain ⟨_, h3, h4, h5, h6, h7, _⟩ := num8_has h1
      refine .inl ⟨_, _, h1, h5, h6, h7, fun w hw => ?_⟩
      have := refU_any A c b k w hn hw
      unfold RdR at this
      rw [q1, q2, q3, h3] at this
      exact this
    · refine .inr ⟨if_neg (fun q => h16 q.2), .inr ⟨hv false (b.drop k), k + lg (b.drop k) 10, by omega, hr.2, fun w hw => ?_⟩⟩
      have := refU_any A c b k w hn hw
      unfold RdR at this
      rw [q1, q2, q3] at this
      exact this
  · obtain ⟨q1, q2, q3⟩ := rd_form hk hg
    refine .inr ⟨if_neg (fun q => hg q.1), .inl ⟨0, 0, fun w hw => ?_⟩⟩
    have := refU_any A c b k w hn hw
    unfold RdR at this
    rw [q1, q2, q3] at this
    exact this
theorem rep_get {n j : Nat} (hj : j < (List.replicate n 16777216).length) : (List.replicate n 16777216)[j] = 16777216 := by simp

set_option maxRecDepth 100000 in
set_option maxHeartbeats 2000000 in
theorem numbers8_any (A : Option Addr) (c : Nat) (b : List UInt8) (k n : Nat) (w : World) (hk : k ≤ b.length) (hn : b.length ≤ 1099511627776) (hl : n ≤ 1000) (h : Lies w w.heap.size A b) :
    Calls Try.prog 33 #[.slice A b.length c, .int .i64 k, .int .i64 n] w (GetsR (nums8 b (List.replicate n 16777216) k) w) := by
  have HL := Lib.hid h
  clear h
  go_enter Try.func33, Try.ntmps33
  go_wp2
  go_loopw [1, 9, 10] (fun a v i wr => ∃ (j kk : Nat) (ls : List Nat), j ≤ n ∧ i = .int .i64 j ∧ a = .int .i64 kk ∧ kk ≤ b.length ∧ Hid (AtNums b (List.replicate n 16777216) k j kk ls) ∧ Hid (NRow wr w.heap.size v (nI ls)) ∧ Hid (ls.length = j) ∧ Hid (Below w.heap.size w wr)) (fun _ _ i _ => n - (intOf i).toNat)
  case atStart => exact ⟨0, k, [], by omega, rfl, rfl, hk, atNums_start _ _ _, NRow.nil _ _, rfl, Below.refl _ _⟩
  case round =>
    obtain ⟨j, kk, ls, hj, rfl, rfl, hkk, hR, hO, hll, hB⟩ := hrel
    by_cases hlt : j < n
    · have hz := hB.out.size
      have hlr : j < (List.replicate n 16777216).length := by simpa using hlt
      have HLI := Lib.hid ((HL.out.below hB.out).more hz)
      have HST := Lib.hid (fun x n => hR.out.step (x := x) (n := n) hlr)
      have HSO := Lib.hid (hR.out.stop hlr)
      rw [rep_get hlr] at HST HSO
      have HC := v8_cases 16777216 A c b kk hkk hn
      have hji : (j : Int) < n := by omega
      clear hR hlr
      rcases HC with ⟨x, m, hx, h1, h2, h3, hU⟩ | ⟨hx, hU⟩
      · have HU := Lib.hid hU
        have HS := Lib.hid (HST.out x m hx)
        have hxi : (x : Int) ≤ 16777216 := by omega
        clear hU HST HSO hx
        go_wp2_with fail
        refine (HU.out wr HLI.out).mono ?_
        rintro e w1 ⟨rfl, hb1⟩
        have hz1 := hb1.size
        have HV := Lib.hid ((hO.out.below hb1).below (below_lnew w1 (.cells #[.int .i64 (x : Int)] 3)))
        have HB1 := Lib.hid (hB.out.trans (hb1.mono hz))
        have hll' : ls.length ≤ 1000 := by have := hll.out; omega
        clear hb1
        go_wp2_with (at_builtin
                     refine app_n7 _ rfl (.tmp 32) (.tmp 35) rfl w.heap.size _ (nI ls) rfl HV.out (some ⟨w1.heap.size, 0, none⟩) 1 _ [(x : Int)] rfl (by simp) (nlies_one w1 x) (by rw [nI_len]; simp; omega) (by simp; omega) ?_
                     intro v4 w4 ho4 hg4
                     have hB4 := Lib.hid (below_nrow (HB1.out.trans ((below_lnew w1 _).mono (by omega))) hg4 HV.out (by simp; omega)))
        go_roundw
        case rel => exact ⟨j + 1, m, ls ++ [x], by omega, by go_num, rfl, h2, HS, by rw [nI_snoc]; exact ho4, by rw [List.length_append, hll.out]; rfl, hB4⟩
        case measure => simp [intOf]; omega
      · have HS := Lib.hid (HSO.out hx)
        clear HST HSO hx
        rcases hU with ⟨X, N, hU⟩ | ⟨X, N, hX1, hX2, hU⟩
        · have HU := Lib.hid hU
          clear hU
          go_wp2_with fail
          refine (HU.out wr HLI.out).mono ?_
          rintro e w1 ⟨rfl, hb1⟩
          go_wp2_with fail
          go_ret3
          unfold GetsR; rw [HS.out]
          exact ⟨hB.out.trans (hb1.mono hz), rfl⟩
        · have HU := Lib.hid hU
          clear hU
          go_wp2_with fail
          refine (HU.out wr HLI.out).mono ?_
          rintro e w1 ⟨rfl, hb1⟩
          go_wp2_with fail
          go_ret3
          unfold GetsR; rw [HS.out]
          exact ⟨hB.out.trans (hb1.mono hz), rfl⟩
    · have hjl : j = n := by omega
      have HS := Lib.hid (show nums8 b (List.replicate n 16777216) k = some (ls, kk) from by have := hR.out; rw [hjl] at this; exact AtNums.last (by simpa using this))
      obtain ⟨A2, c2, rfl, _, _, _⟩ := hO.out.form
      have hji : (n : Int) ≤ j := by omega
      clear hjl hR
      go_wp2_with fail
      go_ret3
      unfold GetsR; rw [HS.out]
      refine ⟨hB.out, A2, c2, ?_, ?_⟩
      · first | rfl | (rw [nI_len]; rfl)
      · have := hO.out
        rw [nI_len] at this
        exact this
theorem GetsR.one {b : List UInt8} {M k : Nat} {w w' : World} {e : Ending} (h : GetsR (nums8 b [M] k) w e w') : OneR (num8 M b k) w e w' := by
  rw [nums8_one] at h
  obtain ⟨hb, h2⟩ := h
  refine ⟨hb, ?_⟩
  cases hx : num8 M b k with
  | none => rw [hx] at h2; exact .inl ⟨rfl, h2⟩
  | some q =>
    obtain ⟨x, n⟩ := q
    rw [hx] at h2
    obtain ⟨A5, c5, e5, ho⟩ := h2
    obtain ⟨A6, c6, e6, h51, h52, h53⟩ := ho.form
    injection e6 with q1 q2 q3
    subst q1; subst q3
    obtain ⟨g6, o6, rfl, hg6, cn⟩ := h53.at_ (j := 0) (by simp [nI])
    exact .inr ⟨x, n, g6, o6, c5, rfl, e5, by simpa [nI] using h51, hg6, by simpa [nI] using cn, (ho.lt g6 rfl).1⟩
theorem GetsR.four {b : List UInt8} {M0 M1 M2 M3 k : Nat} {w w' : World} {e : Ending} (h : GetsR (nums8 b [M0, M1, M2, M3] k) w e w') : FourR (nums8 b [M0, M1, M2, M3] k) w e w' := by
  obtain ⟨hb, h2⟩ := h
  refine ⟨hb, ?_⟩
  cases hx : nums8 b [M0, M1, M2, M3] k with
  | none => rw [hx] at h2; exact .inl ⟨rfl, h2⟩
  | some q =>
    obtain ⟨l, n⟩ := q
    rw [hx] at h2
    obtain ⟨A5, c5, e5, ho⟩ := h2
    have hl : ∃ x0 x1 x2 x3, l = [x0, x1, x2, x3] := by
      rw [nums8_four] at hx
      obtain ⟨g0, _, hx⟩ := obind hx
      obtain ⟨g1, _, hx⟩ := obind hx
      obtain ⟨g2, _, hx⟩ := obind hx
      obtain ⟨g3, _, hx⟩ := omap hx
      simp only [Prod.mk.injEq] at hx
      exact ⟨_, _, _, _, hx.1.symm⟩
    obtain ⟨x0, x1, x2, x3, rfl⟩ := hl
    obtain ⟨A6, c6, e6, h51, h52, h53⟩ := ho.form
    injection e6 with q1 q2 q3
    subst q1; subst q3
    obtain ⟨g6, o6, rfl, hg6, cn⟩ := h53 (by simp [nI])
    exact .inr ⟨x0, x1, x2, x3, n, g6, o6, c5, rfl, e5, by simpa [nI] using h51, hg6, by simpa [nI] using cn 0 (by simp [nI]), by simpa [nI] using cn 1 (by simp [nI]), by simpa [nI] using cn 2 (by simp [nI]), by simpa [nI] using cn 3 (by simp [nI]), (ho.lt g6 rfl).1⟩
theorem numbers8_one (A : Option Addr) (c : Nat) (b : List UInt8) (k : Nat) (i : Int) (w : World) (hi : i = k) (hk : k ≤ b.length) (hn : b.length ≤ 1099511627776) (h : Lies w w.heap.size A b) :
    Calls Try.prog 33 #[.slice A b.length c, .int .i64 i, .int .i64 1] w (OneR (num8 16777216 b k) w) := by
  subst hi
  exact Calls.mono (numbers8_any A c b k 1 w hk hn (by omega) h) fun _ _ q => GetsR.one q
theorem numbers8_four (A : Option Addr) (c : Nat) (b : List UInt8) (k : Nat) (w : World) (hk : k ≤ b.length) (hn : b.length ≤ 1099511627776) (h : Lies w w.heap.size A b) :
    Calls Try.prog 33 #[.slice A b.length c, .int .i64 k, .int .i64 4] w (FourR (nums8 b [16777216, 16777216, 16777216, 16777216] k) w) :=
  Calls.mono (numbers8_any A c b k 4 w hk hn (by omega) h) fun _ _ q => GetsR.four q
section
variable {o : Oper} {a : Act}
theorem op_app_lc {K : Act → World → Prop} {Q : Exit → Act → World → Prop} (w : World) (s x : Operand) (ho : o.op = .call { callee := .builtin .append, args := #[s, x], argTypes := #[46, 46] })
    (B : Nat) (v : Value) (xs : List Lc) (hs : a.eval s = v) (hown : LOwn w B v xs) (g c : Nat) (y : Lc) (hx : a.eval x = .slice (some ⟨g, 0, none⟩) 1 c) (hy : LocAt w g y)
    (hn : xs.length ≤ 1000000) (hB : B ≤ w.heap.size) (h : ∀ v' w', LOwn w' B v' (xs ++ [y]) → w.grownBy w' v.ownBlock → K (a.put o.dst v') w') : Oper.wp Try.prog o a w K Q := by
  obtain ⟨i0, hi0, hz0, hz1, hz2⟩ := info_parts loc_info
  obtain ⟨v', w', hrun, r1, r2, _⟩ := run_append_own (P := Try.prog) w B 46 o.type 50 i0 _ 2 16 Try.underlying46 hi0 hz0 hz1 hz2 rfl (by omega) v xs.length (xs.flatMap cC) hown ⟨g, 0, none⟩ 1 c (cC y) rfl (by
      intro j u hu
      unfold LocAt at hy
      rw [add_zero_off]
      simp only [World.cell?, hy, Nat.zero_add]
      simpa [cC] using hu) (cC_one y) (by simp only [maxLen]; omega) (by omega) hB
  unfold Oper.wp execOp
  simp only [ho, resolve, invoke, builtin, Sem.run_bind, Sem.run_pure, Result.andThen_ok, List.map_toArray, List.map_cons, List.map_nil, hs, hx, hrun]
  refine h v' w' ?_ r2
  show w'.ownsRow B _ 2 v' (xs ++ [y]).length ((xs ++ [y]).flatMap cC)
  rw [List.flatMap_append, List.length_append]
  simpa using r1
end
end Go.Proofs.Ytgpoicbbmaimpaa
