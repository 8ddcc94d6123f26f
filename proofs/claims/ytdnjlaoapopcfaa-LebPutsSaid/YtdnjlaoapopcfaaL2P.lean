/-
  The walk of LebPuts.
-/
import Derived.Test.YtdnjlaoapopcfaaL2W
import Derived.Test.YtdnjlaoapopcfaaR0B
import Derived.Test.YtdnjlaoapopcfaaR0D
import Derived.Test.YtdnjlaoapopcfaaR2A
namespace Go.Proofs.Ytdnjlaoapopcfaa
open Go.RowKit

theorem wk64_rng (x : Int) : -9223372036854775808 ≤ wrap64 x ∧ wrap64 x < 9223372036854775808 := by unfold wrap64; omega

theorem Own.cap_form {w : World} {B : Nat} {v : Value} {l : List UInt8} (h : Own w B v l) : ∃ A, v = .slice A l.length (capOf v) ∧ l.length ≤ capOf v ∧ (A = none → capOf v = 0) ∧ Lies w w.heap.size A l := by
  obtain ⟨A, c, rfl, h1, h2, h3⟩ := h.form
  exact ⟨A, rfl, h1, h2, h3⟩

theorem each3 {w : World} {B : Nat} {v1 v2 v3 : Value} {l1 l2 l3 : List UInt8} (h1 : Own w B v1 l1) (h2 : Own w B v2 l2) (h3 : Own w B v3 l3) : Each w B [v1, v2, v3] [l1, l2, l3] :=
  ⟨rfl, fun i a b => match i, a, b with
    | 0, _, _ => h1
    | 1, _, _ => h2
    | 2, _, _ => h3
    | i + 3, a, _ => absurd a (by simp)⟩
theorem ne_block {v v' : Value} (h : ∀ k, v.ownBlock = some k → v'.ownBlock = some k → False) : v.ownBlock = none ∨ v.ownBlock ≠ v'.ownBlock := by
  cases hq : v.ownBlock with
  | none => exact .inl rfl
  | some k => exact .inr (fun e => h k hq e.symm)
theorem parted3 {v1 v2 v3 : Value} {n1 n2 : Nat} (h1 : ∀ k, v1.ownBlock = some k → n1 ≤ k ∧ k < n2) (h2 : ∀ k, v2.ownBlock = some k → n2 ≤ k) (h3 : ∀ k, v3.ownBlock = some k → k < n1) (hn : n1 ≤ n2) : Parted [v1, v2, v3] := by
  intro i j hi hj hne
  match i, j, hi, hj, hne with
  | 0, 0, _, _, h => exact absurd rfl h
  | 1, 1, _, _, h => exact absurd rfl h
  | 2, 2, _, _, h => exact absurd rfl h
  | 0, 1, _, _, _ => exact ne_block fun k a b => by have := h1 k a; have := h2 k b; omega
  | 0, 2, _, _, _ => exact ne_block fun k a b => by have := h1 k a; have := h3 k b; omega
  | 1, 0, _, _, _ => exact ne_block fun k a b => by have := h2 k a; have := h1 k b; omega
  | 1, 2, _, _, _ => exact ne_block fun k a b => by have := h2 k a; have := h3 k b; omega
  | 2, 0, _, _, _ => exact ne_block fun k a b => by have := h3 k a; have := h1 k b; omega
  | 2, 1, _, _, _ => exact ne_block fun k a b => by have := h3 k a; have := h2 k b; omega
  | i + 3, _, h, _, _ => exact absurd h (by simp)
  | _, j + 3, _, h, _ => exact absurd h (by simp)
theorem caps3 {v1 v2 v3 : Value} (h1 : capOf v1 ≤ 1099511627776) (h2 : capOf v2 ≤ 1099511627776) (h3 : capOf v3 ≤ 1099511627776) : ∀ i (hi : i < [v1, v2, v3].length), capOf [v1, v2, v3][i] ≤ 1099511627776 :=
  fun i hi => match i, hi with
    | 0, _ => h1
    | 1, _ => h2
    | 2, _ => h3
    | i + 3, h => absurd h (by simp)

set_option maxRecDepth 100000 in
set_option maxHeartbeats 2000000 in
theorem lebPuts_any (A : Option Addr) (c : Nat) (l : List UInt8) (x : Int) (w : World) (hc : A = none → c = 0) (h : Lies w w.heap.size A l) (h0 : 0 ≤ x) (h1 : x < 18446744073709551616) :
    Calls Try.prog 3 #[.slice A l.length c, .int .u64 x] w (Yes w) := by
  by_cases hbig : 65536 < l.length
  · go_enter Try.func3, Try.ntmps3
    go_wp2_with fail
    refine (works_any _).mono ?_
    rintro e w' ⟨rfl, hb⟩
    go_wp2
    go_ret
    exact ⟨rfl, hb⟩
  · have HC := Lib.hid hc
    clear hc
    go_enter Try.func3, Try.ntmps3
    go_wp2_with fail
    refine (roomy_any A c l _ (by omega) h).mono ?_
    rintro e w1 ⟨rfl, hk1, hb1⟩
    have g01 := hk1.lt
    have hi1 := hk1.lies (List.prefix_append l t8) g01
    have hl1 := (h.below hb1).more hb1.size
    go_wp2_with fail
    refine (putU_any _ _ l x _ (by simp) hi1 (by omega) h0 h1).mono ?_
    rintro e w2 ⟨u, rfl, hu2, hb2, hcu⟩
    have hi2 := (hi1.below hb2).more hb2.size
    have hl2 := (hl1.below hb2).more hb2.size
    have hk2 := hk1.below hb2 hk1.lt
    have g12 := hb2.size
    have HCU := Lib.hid hcu
    have ult := Lib.hid hu2.lt
    have hB2 := hb1.trans (hb2.mono hb1.size)
    clear hi1 hl1 hb2 hcu hk1
    go_wp2_with fail
    have hy := wk64_rng x
    refine (putS_any _ _ l (wrap64 x) _ (by simp) hi2 (by omega) hy.1 hy.2).mono ?_
    rintro e w3 ⟨s, rfl, hs3, hb3, hcs⟩
    have hl3 := (hl2.below hb3).more hb3.size
    have hk3 := hk2.below hb3 hk2.lt
    have hu3 := hu2.below hb3
    have g23 := hb3.size
    have HCS := Lib.hid hcs
    have slt := Lib.hid hs3.lt
    have hB3 := hB2.trans (hb3.mono hB2.size)
    clear hi2 hl2 hb3 hcs hk2 hu2 hB2
    go_wp2_with fail
    refine (refPutU_any A c l x _ HC.out hl3 (by omega) h0 h1).mono ?_
    rintro e w4 ⟨p, rfl, hp4, hb4⟩
    have hl4 := (hl3.below hb4).more hb4.size
    have hk4 := hk3.below hb4 hk3.lt
    have hu4 := hu3.below hb4
    have hs4 := hs3.below hb4
    have g34 := hb4.size
    have hB4 := hB3.trans (hb4.mono hB3.size)
    clear hl3 hb4 hk3 hu3 hs3 hB3
    have hN1 : (nB false x).length ≤ 10 := by rw [nB_len]; exact size_le _ _
    have hN2 : (nB true (wrap64 x)).length ≤ 10 := by rw [nB_len]; exact size_le _ _
    have hM1 : size false x ≤ 10 := size_le _ _
    have hM2 : size true (wrap64 x) ≤ 10 := size_le _ _
    obtain ⟨U, hU⟩ : ∃ U, U = l ++ nB false x := ⟨_, rfl⟩
    obtain ⟨S, hS⟩ : ∃ S, S = l ++ nB true (wrap64 x) := ⟨_, rfl⟩
    rw [← hU] at hu4 hp4
    rw [← hS] at hs4
    have hUl : U.length ≤ 65600 := by rw [hU]; simp; omega
    have hSl : S.length ≤ 65600 := by rw [hS]; simp; omega
    have HU := Lib.hid hU
    have HS := Lib.hid hS
    clear hU hS hN1 hN2
    obtain ⟨Au, cu, rfl, hlu, hAu, hLu⟩ := hu4.form
    obtain ⟨Ap, cp, rfl, hlp, hAp, hLp⟩ := hp4.form
    go_wp2_with fail
    refine (eqBytes_same Au Ap cu cp U _ _ _ (by omega) hLu hLp).mono ?_
    rintro e w' ⟨rfl, rfl⟩
    go_wp2_with fail
    refine (refPutS_any A c l (wrap64 x) _ HC.out hl4 (by omega) hy.1 hy.2).mono ?_
    rintro e w5 ⟨q, rfl, hq5, hb5⟩
    rw [← HS.out] at hq5
    have hl5 := (hl4.below hb5).more hb5.size
    have hk5 := hk4.below hb5 hk4.lt
    have hu5 := hu4.below hb5
    have hs5 := hs4.below hb5
    have g45 := hb5.size
    have hB5 := hB4.trans (hb5.mono hB4.size)
    clear hl4 hb5 hk4 hu4 hs4 hB4 hLu hLp hp4
    obtain ⟨As, cs, rfl, hls, hAs, hLs⟩ := hs5.form
    obtain ⟨Aq, cq, rfl, hlq, hAq, hLq⟩ := hq5.form
    go_wp2_with fail
    refine (eqBytes_same As Aq cs cq S _ _ _ (by omega) hLs hLq).mono ?_
    rintro e w' ⟨rfl, rfl⟩
    go_wp2_with fail
    refine (kept_any _ A c _ l _ (by omega) hk5 hl5).mono ?_
    rintro e w' ⟨rfl, rfl⟩
    go_wp2_with fail
    have hin : Own w5 w.heap.size (.slice (some ⟨w.heap.size, 0, none⟩) l.length (l.length + 8)) l := by
      have h9 := Own.of hk5 (Nat.le_refl _) l.length (by simp) (by simp only [List.length_append, maxLen]; have : t8.length = 8 := rfl; omega)
      have h8 : (l ++ t8).length = l.length + 8 := by simp [t8]
      rw [h8, List.take_left] at h9
      exact h9
    have hE := Lib.hid ((each3 (hu5.base (by omega)) (hs5.base (by omega)) hin : Each w5 w.heap.size _ _))
    have hE2 : Each (w5.alloc (.cells #[.slice Au U.length cu, .slice As S.length cs, .slice (some ⟨w.heap.size, 0, none⟩) l.length (l.length + 8)] 22)) w.heap.size
        [.slice Au U.length cu, .slice As S.length cs, .slice (some ⟨w.heap.size, 0, none⟩) l.length (l.length + 8)] [U, S, l] :=
      each3 ((hu5.base (by omega)).alloc _) ((hs5.base (by omega)).alloc _) (hin.alloc _)
    have hP : Parted [.slice Au U.length cu, .slice As S.length cs, .slice (some ⟨w.heap.size, 0, none⟩) l.length (l.length + 8)] :=
      parted3 ult.out (fun k hk => (slt.out k hk).1) (fun k hk => by cases hk; exact g01) g12
    have hcu : cu = l.length + size false x := HCU.out
    have hcs : cs = l.length + size true (wrap64 x) := HCS.out
    have hC := caps3 (v1 := .slice Au U.length cu) (v2 := .slice As S.length cs) (v3 := .slice (some ⟨w.heap.size, 0, none⟩) l.length (l.length + 8))
      (show cu ≤ _ by omega) (show cs ≤ _ by omega) (show l.length + 8 ≤ _ by omega)
    clear hcu hcs hE hin hu5 hs5 hLs hLq hAu hAp hAs hAq hk5 hl5
    refine (apart_any w5.heap.size w.heap.size 3 _ _ _ (heap_alloc_new w5 _) hE2 hP hC (by simp) (by simp; omega)).mono ?_
    rintro e w6 ⟨rfl, hb6⟩
    have hB6 := (hB5.alloc hB5.size _).trans hb6
    clear hb6 hE2 hP hC
    go_wp2_with fail
    refine (works_any _).mono ?_
    rintro e w7 ⟨rfl, hb7⟩
    go_wp2
    go_ret
    exact ⟨rfl, hB6.trans (hb7.mono hB6.size)⟩
end Go.Proofs.Ytdnjlaoapopcfaa
