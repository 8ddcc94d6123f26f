/-
  Contracts of the document's long, sum, stands.
-/
import Derived.Test.YtgpoicbbmaimpaaU2R
import Derived.Test.YtgpoicbbmaimpaaU2E
namespace Go.Proofs.Ytgpoicbbmaimpaa
open Go.RowKit

set_option maxRecDepth 100000 in
set_option maxHeartbeats 1000000 in
theorem long_any (A : Option Addr) (c : Nat) (l : List UInt8) (k : Nat) (w : World) (B : Nat) (hn : l.length ≤ 1099511627776) (h : Lies w B A l) (hk : k ≤ l.length) :
    Calls Try.prog 54 #[.slice A l.length c, .int .i64 k] w fun e w' => e = .returned (.int .i64 (lg (l.drop k) 10)) ∧ w = w' := by
  go_enter Try.func54, Try.ntmps54
  go_wp2
  go_loop [5] (fun q => ∃ j : Nat, j ≤ 10 ∧ k + j ≤ l.length ∧ q = .int .i64 j ∧ Hid (∀ m, m < j → 128 ≤ by_ (l.drop k) m)) (fun q => 10 - (intOf q).toNat)
  case atStart => exact ⟨0, by omega, by omega, rfl, fun m hm => by omega⟩
  case round =>
    obtain ⟨j, hj, hkj, rfl, hm⟩ := hrel
    by_cases hj10 : j < 10
    · by_cases hjl : k + j < l.length
      · obtain ⟨g, o, rfl, hg, hc⟩ := h.by_ hjl
        obtain ⟨q, hq⟩ : ∃ q, q = by_ (l.drop k) j := ⟨_, rfl⟩
        have hq2 := by_lt (l.drop k) j
        rw [← hq] at hc hq2
        have hi : (k : Int) + (j : Int) < l.length := by omega
        by_cases hmore : q < 128
        · have HR := Lib.hid (show lg (l.drop k) 10 = j + 1 from lg_is 10 _ (j + 1) (by omega) (by omega) (by simp; omega) (by simp; omega) (fun m h => hm.out m (by omega)))
          clear hq
          go_wp2
          go_ret
          exact ⟨by rw [HR.out]; rfl, rfl⟩
        · have hm2 : Hid (∀ m, m < j + 1 → 128 ≤ by_ (l.drop k) m) := fun m h => by
            by_cases e : m = j
            · subst e; omega
            · exact hm.out m (by omega)
          clear hq hm
          go_wp2
          go_round
          case rel => exact ⟨j + 1, by omega, by omega, by go_num, hm2⟩
          case measure => simp [intOf]; omega
      · have HR := Lib.hid (show lg (l.drop k) 10 = 0 from lg_none 10 _ fun m h1 h2 => hm.out m (by simp at h2; omega))
        have hi : ¬ (k : Int) + (j : Int) < l.length := by omega
        go_wp2
        go_ret
        exact ⟨by rw [HR.out]; rfl, rfl⟩
    · have HR := Lib.hid (show lg (l.drop k) 10 = 0 from lg_none 10 _ fun m h1 h2 => hm.out m (by omega))
      go_wp2
      go_ret
      exact ⟨by rw [HR.out]; rfl, rfl⟩

/-- the digits from place j on, of n -/
def smT (r : List UInt8) (n j : Nat) : Int := sm ((r.take n).drop j)
theorem smT_end (r : List UInt8) (n : Nat) : smT r n n = 0 := by
  unfold smT; rw [List.drop_of_length_le (by simp; omega)]; rfl
theorem smT_step (r : List UInt8) (n j : Nat) (h : j < n) (hl : n ≤ r.length) : smT r n j = (by_ r j : Int) % 128 + 128 * smT r n (j + 1) := by
  unfold smT
  have hj : j < (r.take n).length := by simp; omega
  rw [List.drop_eq_getElem_cons hj, sm, ← by_get _ _ hj, by_take _ _ _ h]
theorem smT_zero (r : List UInt8) (n : Nat) : smT r n 0 = sm (r.take n) := by simp [smT]

set_option maxRecDepth 100000 in
set_option maxHeartbeats 1000000 in
theorem sum_any (A : Option Addr) (c : Nat) (l : List UInt8) (k n : Nat) (w : World) (B : Nat) (hn : l.length ≤ 1099511627776) (h : Lies w B A l) (hk : k + n ≤ l.length) :
    Calls Try.prog 55 #[.slice A l.length c, .int .i64 k, .int .i64 n] w fun e w' => e = .returned (.int .u64 (sm ((l.drop k).take n) % 18446744073709551616)) ∧ w = w' := by
  go_enter Try.func55, Try.ntmps55
  go_wp2
  go_loop [7, 8] (fun x i => ∃ (j : Nat) (z : Int), j ≤ n ∧ i = .int .i64 ((j : Int) - 1) ∧ x = .int .u64 z ∧ 0 ≤ z ∧ z < 18446744073709551616 ∧ Hid (z = smT (l.drop k) n j % 18446744073709551616)) (fun _ i => (intOf i + 1).toNat)
  case atStart => exact ⟨n, 0, by omega, rfl, rfl, by omega, by omega, by rw [smT_end]; rfl⟩
  case round =>
    obtain ⟨j, z, hj, rfl, rfl, hz0, hz1, hz⟩ := hrel
    by_cases hj0 : 0 < j
    · obtain ⟨m, rfl⟩ : ∃ m, j = m + 1 := ⟨j - 1, by omega⟩
      obtain ⟨g, o, rfl, hg, hc⟩ := h.by_ (show k + m < l.length by omega)
      obtain ⟨q, hq⟩ : ∃ q, q = by_ (l.drop k) m := ⟨_, rfl⟩
      have hq2 := by_lt (l.drop k) m
      have hst := smT_step (l.drop k) n m (by omega) (by simp; omega)
      rw [← hq] at hc hq2 hst
      have HZ := Lib.hid (show IntKind.u64.wrap (IntKind.u64.wrap (128 * z) + (q : Int) % 128) = smT (l.drop k) n m % 18446744073709551616 by
        have := hz.out; rw [hst, IntKind.wrap_u64, IntKind.wrap_u64]; omega)
      have HR := Lib.hid (wk_rng false (IntKind.u64.wrap (128 * z) + (q : Int) % 128))
      clear hq hst hz
      go_wp2
      go_round
      case rel => exact ⟨m, _, by omega, rfl, rfl, HR.out.1, HR.out.2, HZ⟩
      case measure => simp [intOf]
    · obtain rfl : j = 0 := by omega
      have HZ := Lib.hid hz.out
      clear hz
      go_wp2
      go_ret
      exact ⟨by rw [← smT_zero, ← HZ.out]; rfl, rfl⟩

theorem prefix_of {l r : List UInt8} (hl : l.length ≤ r.length) (h : ∀ m, m < l.length → by_ l m = by_ r m) : l <+: r := by
  rw [List.prefix_iff_eq_take]
  apply List.ext_getElem
  · simp; omega
  · intro i h1 h2
    have := h i h1
    rw [by_get _ _ h1, by_get _ _ (by omega)] at this
    simp [UInt8.toNat_inj.1 this]
def StandsR (b : Bool) (w : World) (e : Ending) (w' : World) : Prop := e = .returned (.bool b) ∧ Below w.heap.size w w'

set_option maxRecDepth 100000 in
set_option maxHeartbeats 1000000 in
theorem refStands_any (A A2 : Option Addr) (c c2 : Nat) (l l2 : List UInt8) (k : Nat) (w : World) (hn : l.length ≤ 1099511627776) (hn2 : l2.length ≤ 1099511627776) (h : Lies w w.heap.size A l) (h2 : Lies w w.heap.size A2 l2) (hk : k ≤ l.length) :
    Calls Try.prog 56 #[.slice A l.length c, .int .i64 k, .slice A2 l2.length c2] w (StandsR (decide (l2 <+: l.drop k)) w) := by
  by_cases hlen : k + l2.length ≤ l.length
  · have hi : ¬ (l.length : Int) - (k : Int) < l2.length := by omega
    go_enter Try.func56, Try.ntmps56
    go_wp2
    go_loopw [7] (fun q wr => ∃ j : Nat, j ≤ l2.length ∧ q = .int .i64 j ∧ Hid (∀ m, m < j → by_ l2 m = by_ (l.drop k) m) ∧ Hid (Below w.heap.size w wr)) (fun q _ => l2.length - (intOf q).toNat)
    case atStart => exact ⟨0, by omega, rfl, fun m hm => by omega, Below.refl _ _⟩
    case round =>
      obtain ⟨j, hj, rfl, hm, hb⟩ := hrel
      by_cases hjl : j < l2.length
      · obtain ⟨g, o, rfl, hg, hc⟩ := (h.below hb.out).by_ (show k + j < l.length by omega)
        obtain ⟨g2, o2, rfl, hg2, hc2⟩ := (h2.below hb.out).by_ (k := 0) (show 0 + j < l2.length by omega)
        simp only [List.drop_zero, Nat.zero_add] at hc2
        obtain ⟨q, hq⟩ : ∃ q, q = by_ (l.drop k) j := ⟨_, rfl⟩
        obtain ⟨p, hp⟩ : ∃ p, p = by_ l2 j := ⟨_, rfl⟩
        rw [← hq] at hc
        rw [← hp] at hc2
        have hkj0 : IntKind.i64.wrap ((k : Int) + (j : Int)) = (k : Int) + (j : Int) := by rw [IntKind.wrap_i64]; omega
        have hkj1 : ((k : Int) + (j : Int)).toNat = k + j := by omega
        have hkj2 : (0 : Int) ≤ (k : Int) + (j : Int) := by omega
        have hkj3 : k + j < l.length := by omega
        by_cases heq : p = q
        · have hm2 : Hid (∀ m, m < j + 1 → by_ l2 m = by_ (l.drop k) m) := fun m h => by
            by_cases e : m = j
            · subst e; omega
            · exact hm.out m (by omega)
          subst heq
          have b : ((p : Int) != (p : Int)) = false := by simp
          clear hq hp hm
          go_wp2_with fail
          go_quiet (fail)
          have hb2 := hb.out.trans (below_draws (B := w.heap.size) (w := wr) nq)
          clear hkj0 hkj1
          go_wp2
          go_roundw
          case rel => exact ⟨j + 1, by omega, by go_num, hm2, hb2⟩
          case measure => simp [intOf]; omega
        · have HR := Lib.hid (show decide (l2 <+: l.drop k) = false by
            rw [decide_eq_false_iff_not]; intro hpre; have := by_prefix hpre hjl; omega)
          have b : ((q : Int) != (p : Int)) = true := by rw [bne_iff_ne]; omega
          clear hq hp hm heq
          go_wp2_with fail
          go_quiet (fail)
          have hb2 := hb.out.trans (below_draws (B := w.heap.size) (w := wr) nq)
          clear hkj0 hkj1
          go_wp2
          go_ret
          exact ⟨by rw [HR.out]; rfl, hb2⟩
      · have HR := Lib.hid (show decide (l2 <+: l.drop k) = true by
          rw [decide_eq_true_eq]; exact prefix_of (by simp; omega) (fun m h => hm.out m (by omega)))
        go_wp2
        go_ret
        exact ⟨by rw [HR.out]; rfl, hb⟩
  · have hi : (l.length : Int) - (k : Int) < l2.length := by omega
    have HR := Lib.hid (show decide (l2 <+: l.drop k) = false by
      rw [decide_eq_false_iff_not]; intro hp; have := hp.length_le; simp at this; omega)
    go_enter Try.func56, Try.ntmps56
    go_wp2
    go_ret
    exact ⟨by rw [HR.out]; rfl, Below.refl _ _⟩
end Go.Proofs.Ytgpoicbbmaimpaa
