/-
  Merged for a claim: R2B, R2C, R2D.
-/
import Derived.Test.YtbkfkdiadeaooaaGreatHJ7
import Derived.Test.YtbkfkdiadeaooaaGreatHJ5
namespace Go.Proofs.YtbkfkdiadeaooaaGreat
open Go.RowKit

set_option maxRecDepth 100000 in
set_option maxHeartbeats 1000000 in
theorem long_any (A : Option Addr) (c : Nat) (l : List UInt8) (k : Nat) (w : World) (B : Nat) (hn : l.length ≤ 1099511627776) (h : Lies w B A l) (hk : k ≤ l.length) :
    Calls Tryz.prog 70 #[.slice A l.length c, .int .i64 k] w fun e w' => e = .returned (.int .i64 (lg (l.drop k) 10)) ∧ w = w' := by
  go_enter Tryz.func70, Tryz.ntmps70
  go_wp2
  go_loop [5] (fun q => ∃ j : Nat, j ≤ 10 ∧ k + j ≤ l.length ∧ q = .int .i64 j ∧ Hid (∀ m, m < j → 128 ≤ by_ (l.drop k) m)) (fun q => 10 - (intOf q).toNat)
  case atStart => exact ⟨0, by omega, by omega, rfl, fun m hm => by omega⟩
  case round =>
    obtain ⟨j, hj, hkj, rfl, hm⟩ := hrel
    by_cases hj10 : j < 10
    · by_cases hjl : k + j < l.length
      · obtain ⟨g, o, rfl, hg, hc⟩ := h.by_ hjl
        obtain ⟨q, hq⟩ : ∃ q, q = by_ (l.drop k) j := ⟨_, rfl⟩
        have hq2 := by_lt (l.drop k) j
        rw [← hq] at hc hq2
        have hi : (k : Int) + (j : Int) < l.length := by omega
        by_cases hmore : q < 128
        · have HR := Lib.hid (show lg (l.drop k) 10 = j + 1 from lg_is 10 _ (j + 1) (by omega) (by omega) (by simp; omega) (by simp; omega) (fun m h => hm.out m (by omega)))
          clear hq
          go_wp2
          go_ret
          exact ⟨by rw [HR.out]; rfl, rfl⟩
        · have hm2 : Hid (∀ m, m < j + 1 → 128 ≤ by_ (l.drop k) m) := fun m h => by
            by_cases e : m = j
            · subst e; omega
            · exact hm.out m (by omega)
          clear hq hm
          go_wp2
          go_round
          case rel => exact ⟨j + 1, by omega, by omega, by go_num, hm2⟩
          case measure => simp [intOf]; omega
      · have HR := Lib.hid (show lg (l.drop k) 10 = 0 from lg_none 10 _ fun m h1 h2 => hm.out m (by simp at h2; omega))
        have hi : ¬ (k : Int) + (j : Int) < l.length := by omega
        go_wp2
        go_ret
        exact ⟨by rw [HR.out]; rfl, rfl⟩
    · have HR := Lib.hid (show lg (l.drop k) 10 = 0 from lg_none 10 _ fun m h1 h2 => hm.out m (by omega))
      go_wp2
      go_ret
      exact ⟨by rw [HR.out]; rfl, rfl⟩

/-- the digits from place j on, of n -/
def smT (r : List UInt8) (n j : Nat) : Int := sm ((r.take n).drop j)
theorem smT_end (r : List UInt8) (n : Nat) : smT r n n = 0 := by
  unfold smT; rw [List.drop_of_length_le (by simp; omega)]; rfl
theorem smT_step (r : List UInt8) (n j : Nat) (h : j < n) (hl : n ≤ r.length) : smT r n j = (by_ r j : Int) % 128 + 128 * smT r n (j + 1) := by
  unfold smT
  have hj : j < (r.take n).length := by simp; omega
  rw [List.drop_eq_getElem_cons hj, sm, ← by_get _ _ hj, by_take _ _ _ h]
theorem smT_zero (r : List UInt8) (n : Nat) : smT r n 0 = sm (r.take n) := by simp [smT]

set_option maxRecDepth 100000 in
set_option maxHeartbeats 1000000 in
theorem sum_any (A : Option Addr) (c : Nat) (l : List UInt8) (k n : Nat) (w : World) (B : Nat) (hn : l.length ≤ 1099511627776) (h : Lies w B A l) (hk : k + n ≤ l.length) :
    Calls Tryz.prog 71 #[.slice A l.length c, .int .i64 k, .int .i64 n] w fun e w' => e = .returned (.int .u64 (sm ((l.drop k).take n) % 18446744073709551616)) ∧ w = w' := by
  go_enter Tryz.func71, Tryz.ntmps71
  go_wp2
  go_loop [7, 8] (fun x i => ∃ (j : Nat) (z : Int), j ≤ n ∧ i = .int .i64 ((j : Int) - 1) ∧ x = .int .u64 z ∧ 0 ≤ z ∧ z < 18446744073709551616 ∧ Hid (z = smT (l.drop k) n j % 18446744073709551616)) (fun _ i => (intOf i + 1).toNat)
  case atStart => exact ⟨n, 0, by omega, rfl, rfl, by omega, by omega, by rw [smT_end]; rfl⟩
  case round =>
    obtain ⟨j, z, hj, rfl, rfl, hz0, hz1, hz⟩ := hrel
    by_cases hj0 : 0 < j
    · obtain ⟨m, rfl⟩ : ∃ m, j = m + 1 := ⟨j - 1, by omega⟩
      obtain ⟨g, o, rfl, hg, hc⟩ := h.by_ (show k + m < l.length by omega)
      obtain ⟨q, hq⟩ : ∃ q, q = by_ (l.drop k) m := ⟨_, rfl⟩
      have hq2 := by_lt (l.drop k) m
      have hst := smT_step (l.drop k) n m (by omega) (by simp; omega)
      rw [← hq] at hc hq2 hst
      have HZ := Lib.hid (show IntKind.u64.wrap (IntKind.u64.wrap (128 * z) + (q : Int) % 128) = smT (l.drop k) n m % 18446744073709551616 by
        have := hz.out; rw [hst, IntKind.wrap_u64, IntKind.wrap_u64]; omega)
      have HR := Lib.hid (wk_rng false (IntKind.u64.wrap (128 * z) + (q : Int) % 128))
      clear hq hst hz
      go_wp2
      go_round
      case rel => exact ⟨m, _, by omega, rfl, rfl, HR.out.1, HR.out.2, HZ⟩
      case measure => simp [intOf]
    · obtain rfl : j = 0 := by omega
      have HZ := Lib.hid hz.out
      clear hz
      go_wp2
      go_ret
      exact ⟨by rw [← smT_zero, ← HZ.out]; rfl, rfl⟩

theorem prefix_of {l r : List UInt8} (hl : l.length ≤ r.length) (h : ∀ m, m < l.length → by_ l m = by_ r m) : l <+: r := by
  rw [List.prefix_iff_eq_take]
  apply List.ext_getElem
  · simp; omega
  · intro i h1 h2
    have := h i h1
    rw [by_get _ _ h1, by_get _ _ (by omega)] at this
    simp [UInt8.toNat_inj.1 this]
def StandsR (b : Bool) (w : World) (e : Ending) (w' : World) : Prop := e = .returned (.bool b) ∧ Below w.heap.size w w'

set_option maxRecDepth 100000 in
set_option maxHeartbeats 1000000 in
theorem refStands_any (A A2 : Option Addr) (c c2 : Nat) (l l2 : List UInt8) (k : Nat) (w : World) (hn : l.length ≤ 1099511627776) (hn2 : l2.length ≤ 1099511627776) (h : Lies w w.heap.size A l) (h2 : Lies w w.heap.size A2 l2) (hk : k ≤ l.length) :
    Calls Tryz.prog 72 #[.slice A l.length c, .int .i64 k, .slice A2 l2.length c2] w (StandsR (decide (l2 <+: l.drop k)) w) := by
  by_cases hlen : k + l2.length ≤ l.length
  · have hi : ¬ (l.length : Int) - (k : Int) < l2.length := by omega
    go_enter Tryz.func72, Tryz.ntmps72
    go_wp2
    go_loopw [7] (fun q wr => ∃ j : Nat, j ≤ l2.length ∧ q = .int .i64 j ∧ Hid (∀ m, m < j → by_ l2 m = by_ (l.drop k) m) ∧ Hid (Below w.heap.size w wr)) (fun q _ => l2.length - (intOf q).toNat)
    case atStart => exact ⟨0, by omega, rfl, fun m hm => by omega, Below.refl _ _⟩
    case round =>
      obtain ⟨j, hj, rfl, hm, hb⟩ := hrel
      by_cases hjl : j < l2.length
      · obtain ⟨g, o, rfl, hg, hc⟩ := (h.below hb.out).by_ (show k + j < l.length by omega)
        obtain ⟨g2, o2, rfl, hg2, hc2⟩ := (h2.below hb.out).by_ (k := 0) (show 0 + j < l2.length by omega)
        simp only [List.drop_zero, Nat.zero_add] at hc2
        obtain ⟨q, hq⟩ : ∃ q, q = by_ (l.drop k) j := ⟨_, rfl⟩
        obtain ⟨p, hp⟩ : ∃ p, p = by_ l2 j := ⟨_, rfl⟩
        rw [← hq] at hc
        rw [← hp] at hc2
        have hkj0 : IntKind.i64.wrap ((k : Int) + (j : Int)) = (k : Int) + (j : Int) := by rw [IntKind.wrap_i64]; omega
        have hkj1 : ((k : Int) + (j : Int)).toNat = k + j := by omega
        have hkj2 : (0 : Int) ≤ (k : Int) + (j : Int) := by omega
        have hkj3 : k + j < l.length := by omega
        by_cases heq : p = q
        · have hm2 : Hid (∀ m, m < j + 1 → by_ l2 m = by_ (l.drop k) m) := fun m h => by
            by_cases e : m = j
            · subst e; omega
            · exact hm.out m (by omega)
          subst heq
          have b : ((p : Int) != (p : Int)) = false := by simp
          clear hq hp hm
          go_wp2_with fail
          go_quiet (fail)
          have hb2 := hb.out.trans (below_draws (B := w.heap.size) (w := wr) nq)
          clear hkj0 hkj1
          go_wp2
          go_roundw
          case rel => exact ⟨j + 1, by omega, by go_num, hm2, hb2⟩
          case measure => simp [intOf]; omega
        · have HR := Lib.hid (show decide (l2 <+: l.drop k) = false by
            rw [decide_eq_false_iff_not]; intro hpre; have := by_prefix hpre hjl; omega)
          have b : ((q : Int) != (p : Int)) = true := by rw [bne_iff_ne]; omega
          clear hq hp hm heq
          go_wp2_with fail
          go_quiet (fail)
          have hb2 := hb.out.trans (below_draws (B := w.heap.size) (w := wr) nq)
          clear hkj0 hkj1
          go_wp2
          go_ret
          exact ⟨by rw [HR.out]; rfl, hb2⟩
      · have HR := Lib.hid (show decide (l2 <+: l.drop k) = true by
          rw [decide_eq_true_eq]; exact prefix_of (by simp; omega) (fun m h => hm.out m (by omega)))
        go_wp2
        go_ret
        exact ⟨by rw [HR.out]; rfl, hb⟩
  · have hi : (l.length : Int) - (k : Int) < l2.length := by omega
    have HR := Lib.hid (show decide (l2 <+: l.drop k) = false by
      rw [decide_eq_false_iff_not]; intro hp; have := hp.length_le; simp at this; omega)
    go_enter Tryz.func72, Tryz.ntmps72
    go_wp2
    go_ret
    exact ⟨by rw [HR.out]; rfl, Below.refl _ _⟩
end Go.Proofs.YtbkfkdiadeaooaaGreat

namespace Go.Proofs.YtbkfkdiadeaooaaGreat
open Go.RowKit

def RdR (b : Bool) (kd : IntKind) (l : List UInt8) (i : Int) (w : World) (e : Ending) (w' : World) : Prop :=
  e = .returned (.tuple #[.int kd (rdX b l i), .int .i64 (rdN b l i), .int .i64 (rdE b l i)]) ∧ Below w.heap.size w w'

theorem lg_le (r : List UInt8) : lg r 10 ≤ r.length := by
  by_cases h : lg r 10 = 0
  · omega
  · exact (lg_has 10 r h).2.1
theorem sm_take_bound (r : List UInt8) : 0 ≤ sm (r.take (lg r 10)) ∧ sm (r.take (lg r 10)) < pw (lg r 10) := by
  have h := sm_bound (r.take (lg r 10))
  rwa [List.length_take, Nat.min_eq_left (lg_le r)] at h

set_option maxRecDepth 100000 in
set_option maxHeartbeats 1000000 in
theorem refU_any (A : Option Addr) (c : Nat) (l : List UInt8) (i : Int) (w : World) (hn : l.length ≤ 1099511627776) (h : Lies w w.heap.size A l) :
    Calls Tryz.prog 44 #[.slice A l.length c, .int .i64 i] w (RdR false .u64 l i w) := by
  by_cases hi : i < 0 ∨ (l.length : Int) < i
  · have RR := Lib.hid (rd_arg (b := false) hi)
    rcases hi with h1 | h1
    · go_enter Tryz.func44, Tryz.ntmps44
      go_wp2
      go_ret3
      exact ⟨by rw [RR.out.1, RR.out.2.1, RR.out.2.2]; rfl, Below.refl _ _⟩
    · have h2 : ¬ i < 0 := by omega
      go_enter Tryz.func44, Tryz.ntmps44
      go_wp2
      go_ret3
      exact ⟨by rw [RR.out.1, RR.out.2.1, RR.out.2.2]; rfl, Below.refl _ _⟩
  · obtain ⟨k, rfl⟩ : ∃ k : Nat, i = k := ⟨i.toNat, by omega⟩
    have hk : k ≤ l.length := by omega
    clear hi
    have hlong := long_any A c l k w w.heap.size hn h hk
    have hle := lg_le (l.drop k)
    have hsum := sum_any A c l k (lg (l.drop k) 10) w w.heap.size hn h (by simp at hle; omega)
    have hb := sm_take_bound (l.drop k)
    have hX : hv false (l.drop k) = sm ((l.drop k).take (lg (l.drop k) 10)) % 18446744073709551616 := by simp [hv, val]
    rw [← hX] at hsum
    have hx0 : 0 ≤ hv false (l.drop k) := by rw [hX]; omega
    have hx1 : hv false (l.drop k) < 18446744073709551616 := by rw [hX]; omega
    have hok := rd_ok (b := false) (l := l) (k := k) hk
    have hbad := rd_form (b := false) (l := l) (k := k) hk
    have hgd : good false (l.drop k) ↔ lg (l.drop k) 10 ≠ 0 ∧ nB false (hv false (l.drop k)) <+: l.drop k := Iff.rfl
    have hlen : lg (l.drop k) 10 ≤ 10 := by
      by_cases h0 : lg (l.drop k) 10 = 0
      · omega
      · exact (lg_has 10 _ h0).1
    clear hX hb hle
    generalize lg (l.drop k) 10 = n at *
    generalize hv false (l.drop k) = x at *
    have HL := Lib.hid hlong
    have HS := Lib.hid hsum
    clear hlong hsum
    by_cases h0 : n = 0
    · have RR := Lib.hid (hbad (fun g => (hgd.1 g).1 h0))
      have h00 : (n : Int) ≤ 0 := by omega
      clear hok hbad hgd h0
      go_enter Tryz.func44, Tryz.ntmps44
      go_wp2_with (first | (go_at_call 70; refine HL.out.mono ?_; rintro e w' ⟨rfl, rfl⟩) | (go_at_call 71; refine HS.out.mono ?_; rintro e w' ⟨rfl, rfl⟩))
      go_ret3
      exact ⟨by rw [RR.out.1, RR.out.2.1, RR.out.2.2]; rfl, Below.refl _ _⟩
    · have hn0 : 0 < (n : Int) := by omega
      have HOK := Lib.hid hok
      have HBAD := Lib.hid hbad
      have HGD := Lib.hid hgd
      have HN0 := Lib.hid h0
      clear hok hbad hgd h0
      go_enter Tryz.func44, Tryz.ntmps44
      go_wp2_with (first | (go_at_call 70; refine HL.out.mono ?_; rintro e w' ⟨rfl, rfl⟩) | (go_at_call 71; refine HS.out.mono ?_; rintro e w' ⟨rfl, rfl⟩))
      refine (refPutU_any none 0 [] x _ (fun _ => rfl) (Lies.empty _ _ _) (by simp) hx0 hx1).mono ?_
      rintro e w1 ⟨v, rfl, ho, hb⟩
      obtain ⟨A2, c2, rfl, _, _, hL2⟩ := ho.form
      rw [List.nil_append] at hL2
      go_wp2_with fail
      refine (refStands_any A A2 c c2 l (nB false x) k _ hn (by rw [nB_len]; have := size_le false x; omega) ((h.below hb).more hb.size) hL2 hk).mono ?_
      rintro e w2 ⟨rfl, hb2⟩
      have HB := Lib.hid (hb.trans (hb2.mono hb.size))
      clear hb hb2 ho hL2
      by_cases hp : nB false x <+: l.drop k
      · have RR := Lib.hid (HOK.out (HGD.out.2 ⟨HN0.out, hp⟩))
        rw [decide_eq_true hp]
        clear hp
        go_wp2
        go_ret3
        exact ⟨by rw [RR.out.1, RR.out.2.1, RR.out.2.2]; rfl, HB⟩
      · have RR := Lib.hid (HBAD.out (fun g => hp (HGD.out.1 g).2))
        rw [decide_eq_false hp]
        clear hp
        go_wp2
        go_ret3
        exact ⟨by rw [RR.out.1, RR.out.2.1, RR.out.2.2]; rfl, HB⟩
end Go.Proofs.YtbkfkdiadeaooaaGreat

namespace Go.Proofs.YtbkfkdiadeaooaaGreat
open Go.RowKit

set_option maxRecDepth 100000 in
set_option maxHeartbeats 1000000 in
theorem refS_any (A : Option Addr) (c : Nat) (l : List UInt8) (i : Int) (w : World) (hn : l.length ≤ 1099511627776) (h : Lies w w.heap.size A l) :
    Calls Tryz.prog 94 #[.slice A l.length c, .int .i64 i] w (RdR true .i64 l i w) := by
  by_cases hi : i < 0 ∨ (l.length : Int) < i
  · have RR := Lib.hid (rd_arg (b := true) hi)
    rcases hi with h1 | h1
    · go_enter Tryz.func94, Tryz.ntmps94
      go_wp2
      go_ret3
      exact ⟨by rw [RR.out.1, RR.out.2.1, RR.out.2.2]; rfl, Below.refl _ _⟩
    · have h2 : ¬ i < 0 := by omega
      go_enter Tryz.func94, Tryz.ntmps94
      go_wp2
      go_ret3
      exact ⟨by rw [RR.out.1, RR.out.2.1, RR.out.2.2]; rfl, Below.refl _ _⟩
  · obtain ⟨k, rfl⟩ : ∃ k : Nat, i = k := ⟨i.toNat, by omega⟩
    have hk : k ≤ l.length := by omega
    clear hi
    have hlong := long_any A c l k w w.heap.size hn h hk
    have hle := lg_le (l.drop k)
    have hsum := sum_any A c l k (lg (l.drop k) 10) w w.heap.size hn h (by simp at hle; omega)
    have hb := sm_take_bound (l.drop k)
    have hok := rd_ok (b := true) (l := l) (k := k) hk
    have hbad := rd_form (b := true) (l := l) (k := k) hk
    have hgd : good true (l.drop k) ↔ lg (l.drop k) 10 ≠ 0 ∧ nB true (hv true (l.drop k)) <+: l.drop k := Iff.rfl
    by_cases h0 : lg (l.drop k) 10 = 0
    · have RR := Lib.hid (hbad (fun g => (hgd.1 g).1 h0))
      rw [h0] at hlong
      have HL := Lib.hid hlong
      clear hok hbad hgd h0 hlong hsum hb hle
      go_enter Tryz.func94, Tryz.ntmps94
      go_wp2_with (first | (go_at_call 70; refine HL.out.mono ?_; rintro e w' ⟨rfl, rfl⟩))
      go_ret3
      exact ⟨by rw [RR.out.1, RR.out.2.1, RR.out.2.2]; rfl, Below.refl _ _⟩
    · obtain ⟨h10, hll, hlt, _⟩ := lg_has 10 (l.drop k) h0
      have hv_ : hv true (l.drop k) = val true (sm ((l.drop k).take (lg (l.drop k) 10))) (lg (l.drop k) 10) := rfl
      have hrg := val_rng (b := true) hb.1 hb.2 (by omega) h10
      have htop := sm_top (l.drop k) (lg (l.drop k) 10 - 1) (by omega) hlt
      rw [show lg (l.drop k) 10 - 1 + 1 = lg (l.drop k) 10 by omega] at htop
      rw [← hv_] at hrg
      have hkl : k + lg (l.drop k) 10 ≤ l.length := by simp at hle; omega
      generalize sm ((l.drop k).take (lg (l.drop k) 10)) = s at *
      generalize lg (l.drop k) 10 = n at *
      generalize hv true (l.drop k) = x at *
      obtain ⟨j, rfl⟩ : ∃ j, n = j + 1 := ⟨n - 1, by omega⟩
      rw [Nat.add_sub_cancel] at htop hlt
      obtain ⟨g, o, rfl, hg, hc⟩ := h.by_ (show k + j < l.length by omega)
      generalize by_ (l.drop k) j = q at *
      have HL := Lib.hid hlong
      have HS := Lib.hid hsum
      have HOK := Lib.hid hok
      have HBAD := Lib.hid hbad
      have HGD := Lib.hid hgd
      have hp := pw_succ j
      have hpp := pw_pos j
      have hi1 : (k : Int) + ((j + 1 : Nat) : Int) - 1 = k + j := by omega
      clear hlong hsum hok hbad hgd h0
      by_cases hneg : 64 ≤ q ∧ j < 9
      · have HY := Lib.hid (show wrap64 (IntKind.u64.wrap (s % 18446744073709551616 - IntKind.u64.wrap (2 ^ (7 * (j + 1))))) = x by
          have h9 := pw_lt9 (show j + 1 ≤ 9 by omega)
          rw [shlU (j + 1) (by omega), IntKind.wrap_u64, hv_]; unfold val wrap64; simp only [if_true, Nat.add_sub_cancel]
          have hlow : ¬ s < 64 * pw j := by
            have := Int.emod_add_mul_ediv s (pw j)
            have h1 := Int.emod_nonneg s (show pw j ≠ 0 by omega)
            have h2 : pw j * 64 ≤ pw j * (s / pw j) := Int.mul_le_mul_of_nonneg_left (by rw [htop]; omega) (by omega)
            omega
          rw [if_pos (by omega), if_neg hlow]; omega)
        have hn1 := hneg.1
        have hn2 := hneg.2
        clear hv_ htop hp hpp hb hneg
        go_enter Tryz.func94, Tryz.ntmps94
        go_wp2_with (first | (go_at_call 70; refine HL.out.mono ?_; rintro e w' ⟨rfl, rfl⟩) | (go_at_call 71; refine HS.out.mono ?_; rintro e w' ⟨rfl, rfl⟩))
        all_goals
          rw [HY.out]
          refine (refPutS_any none 0 [] x _ (fun _ => rfl) (Lies.empty _ _ _) (by simp) hrg.1 hrg.2).mono ?_
          rintro e w1 ⟨v, rfl, ho, hb⟩
          obtain ⟨A2, c2, rfl, _, _, hL2⟩ := ho.form
          rw [List.nil_append] at hL2
          go_wp2_with fail
          refine (refStands_any _ A2 c c2 l (nB true x) k _ hn (by rw [nB_len]; have := size_le true x; omega) ((h.below hb).more hb.size) hL2 hk).mono ?_
          rintro e w2 ⟨rfl, hb2⟩
          have HB := Lib.hid (hb.trans (hb2.mono hb.size))
          clear hb hb2 ho hL2
          by_cases hp : nB true x <+: l.drop k
          · have RR := Lib.hid (HOK.out (HGD.out.2 ⟨by omega, hp⟩))
            rw [decide_eq_true hp]
            clear hp
            go_wp2
            go_ret3
            exact ⟨by rw [RR.out.1, RR.out.2.1, RR.out.2.2, ← HY.out]; rfl, HB⟩
          · have RR := Lib.hid (HBAD.out (fun g => hp (HGD.out.1 g).2))
            rw [decide_eq_false hp]
            clear hp
            go_wp2
            go_ret3
            exact ⟨by rw [RR.out.1, RR.out.2.1, RR.out.2.2]; rfl, HB⟩
      · have HY := Lib.hid (show wrap64 (s % 18446744073709551616) = x by
          rw [hv_]; unfold val wrap64; simp only [if_true, Nat.add_sub_cancel]
          by_cases hj : j < 9
          · have h9 := pw_lt9 (show j + 1 ≤ 9 by omega)
            have hlow : s < 64 * pw j := by
              have := Int.emod_add_mul_ediv s (pw j)
              have h1 := Int.emod_lt_of_pos s hpp
              have h2 : pw j * (s / pw j) ≤ pw j * 63 := Int.mul_le_mul_of_nonneg_left (by rw [htop]; omega) (by omega)
              omega
            rw [if_pos (by omega), if_pos hlow]; omega
          · rw [if_neg (by omega)]; split <;> omega)
        clear hv_ htop hp hpp hb
        go_enter Tryz.func94, Tryz.ntmps94
        go_wp2_with (first | (go_at_call 70; refine HL.out.mono ?_; rintro e w' ⟨rfl, rfl⟩) | (go_at_call 71; refine HS.out.mono ?_; rintro e w' ⟨rfl, rfl⟩))
        all_goals
          rw [HY.out]
          refine (refPutS_any none 0 [] x _ (fun _ => rfl) (Lies.empty _ _ _) (by simp) hrg.1 hrg.2).mono ?_
          rintro e w1 ⟨v, rfl, ho, hb⟩
          obtain ⟨A2, c2, rfl, _, _, hL2⟩ := ho.form
          rw [List.nil_append] at hL2
          go_wp2_with fail
          refine (refStands_any _ A2 c c2 l (nB true x) k _ hn (by rw [nB_len]; have := size_le true x; omega) ((h.below hb).more hb.size) hL2 hk).mono ?_
          rintro e w2 ⟨rfl, hb2⟩
          have HB := Lib.hid (hb.trans (hb2.mono hb.size))
          clear hb hb2 ho hL2
          by_cases hp : nB true x <+: l.drop k
          · have RR := Lib.hid (HOK.out (HGD.out.2 ⟨by omega, hp⟩))
            rw [decide_eq_true hp]
            clear hp
            go_wp2
            go_ret3
            exact ⟨by rw [RR.out.1, RR.out.2.1, RR.out.2.2, ← HY.out]; rfl, HB⟩
          · have RR := Lib.hid (HBAD.out (fun g => hp (HGD.out.1 g).2))
            rw [decide_eq_false hp]
            clear hp
            go_wp2
            go_ret3
            exact ⟨by rw [RR.out.1, RR.out.2.1, RR.out.2.2]; rfl, HB⟩
end Go.Proofs.YtbkfkdiadeaooaaGreat
