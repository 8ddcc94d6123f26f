/-
  Contract of lines.moved, of any step.
-/
import Derived.Test.YtfpgmaegpiiagaaL5G
namespace Go.Proofs.Ytfpgmaegpiiagaa
open Go.RowKit

theorem hv_rng {b : Bool} {r : List UInt8} (h : good b r) : rng b (hv b r) := by
  obtain ⟨h10, hll, hlt, _⟩ := lg_has 10 r h.1
  have hb := sm_bound (r.take (lg r 10))
  rw [List.length_take, Nat.min_eq_left hll] at hb
  have := h.1
  exact val_rng hb.1 hb.2 (by omega) h10
theorem good_le {b : Bool} {r : List UInt8} (h : good b r) : lg r 10 ≤ r.length := (lg_has 10 r h.1).2.1
theorem mv_le {q p : Rw} {s : Nat} {t : List UInt8} {n : Nat} (h : mv q s t = some (p, n)) : n ≤ t.length := by
  have hc : ∀ {p' : Rw} {m : Nat}, chk p' m = some (p, n) → n = m := fun h => by
    unfold chk at h
    split at h
    · cases h; rfl
    · cases h
  unfold mv at h
  split at h
  · split at h
    · rename_i g
      have := good_le g.1
      have := hc h
      omega
    · cases h
  · split at h
    · split at h
      · rename_i g
        have := good_le g
        have := hc h
        omega
      · cases h
    · split at h
      · have := hc h; omega
      · have := hc h; omega
theorem chk_wrap {q : Rw} {x : Int} {n : Nat} (hq : inF q) (h : -9223372036854775808 ≤ x ∧ x < 9223372036854775808) : chk ⟨q.pc, q.pt + x⟩ n = chk ⟨q.pc, wrap64 (q.pt + x)⟩ n := by
  obtain ⟨q0, q1, q2, q3⟩ := hq
  by_cases hs : q.pt + x < 9223372036854775808
  · have : wrap64 (q.pt + x) = q.pt + x := by unfold wrap64; omega
    rw [this]
  · have hw : wrap64 (q.pt + x) < 0 := by unfold wrap64; omega
    unfold chk
    rw [if_neg (fun g : inF _ => by have := g.2.2.2; simp only at this; omega), if_neg (fun g : inF _ => by have := g.2.2.1; simp only at this; omega)]
theorem u8_lt (x : UInt8) : x.toNat < 256 := x.toNat_lt

theorem moved_any (q : Rw) (A : Option Addr) (c k : Nat) (l : List UInt8) (w : World) (hn : l.length ≤ 1099511627776) (h : Lies w w.heap.size A l) (hk : k < l.length) (h0 : l[k].toNat ≠ 0) (hq : inF q) :
    Calls Try.prog 37 #[rv q, .slice A l.length c, .int .i64 k] w (MovedR q l[k].toNat (l.drop (k + 1)) k w) := by
  have hk1 : k + 1 ≤ l.length := by omega
  have hc : ((k + 1 : Nat) : Int) = (k : Int) + 1 := by omega
  unfold MovedR
  by_cases h1 : l[k].toNat = 1
  · have HU := fun w2 (hb : Below w.heap.size w w2) => U_any A c l ((k + 1 : Nat) : Int) w2 w.heap.size hn (h.below hb)
    by_cases hg : good false (l.drop (k + 1))
    · obtain ⟨e1, e2, e3⟩ := rd_ok hk1 hg
      have hr := hv_rng hg
      simp only [rng, Bool.false_eq_true, if_false] at hr
      rw [e1, e2, e3, hc] at HU
      by_cases hb : hv false (l.drop (k + 1)) ≤ 16777216
      · have hm : mv q l[k].toNat (l.drop (k + 1)) = chk ⟨q.pc + hv false (l.drop (k + 1)), q.pt⟩ (lg (l.drop (k + 1)) 10) := by
          rw [h1]; unfold mv; rw [if_pos rfl, if_pos ⟨hg, hb⟩]
        rw [hm]
        exact moved_1 q A c k _ _ l w h hn hk _ hq h1 hr.1 hb HU (by intro a b; exact chk_good a b) (by intro a; exact chk_bad1 a) (by intro a; exact chk_bad2 a)
      · have hm : mv q l[k].toNat (l.drop (k + 1)) = none := by
          rw [h1]; unfold mv; rw [if_pos rfl, if_neg (fun g => hb g.2)]
        rw [hm]
        exact moved_1big q A c k _ _ l w h hn hk h1 (by omega) HU
    · obtain ⟨e1, e2, e3⟩ := rd_form hk1 hg
      rw [e1, e2, e3, hc] at HU
      have hm : mv q l[k].toNat (l.drop (k + 1)) = none := by
        rw [h1]; unfold mv; rw [if_pos rfl, if_neg (fun g => hg g.1)]
      rw [hm]
      exact moved_1no q A c k l w h hn hk h1 HU
  · by_cases h2 : l[k].toNat = 2
    · have HU := fun w2 (hb : Below w.heap.size w w2) => S_any A c l ((k + 1 : Nat) : Int) w2 w.heap.size hn (h.below hb)
      by_cases hg : good true (l.drop (k + 1))
      · obtain ⟨e1, e2, e3⟩ := rd_ok hk1 hg
        have hr := hv_rng hg
        simp only [rng, if_true] at hr
        rw [e1, e2, e3, hc] at HU
        have hm : mv q l[k].toNat (l.drop (k + 1)) = chk ⟨q.pc, wrap64 (q.pt + hv true (l.drop (k + 1)))⟩ (lg (l.drop (k + 1)) 10) := by
          rw [h2]; unfold mv; rw [if_neg (by decide), if_pos rfl, if_pos hg]; exact chk_wrap hq hr
        rw [hm]
        exact moved_2 q A c k _ _ l w h hn hk _ hq h2 HU (by intro a b; exact chk_good a b) (by intro a; exact chk_bad1 a) (by intro a; exact chk_bad2 a)
      · obtain ⟨e1, e2, e3⟩ := rd_form hk1 hg
        rw [e1, e2, e3, hc] at HU
        have hm : mv q l[k].toNat (l.drop (k + 1)) = none := by
          rw [h2]; unfold mv; rw [if_neg (by decide), if_pos rfl, if_neg hg]
        rw [hm]
        exact moved_2no q A c k l w h hn hk h2 HU
    · by_cases h3 : l[k].toNat = 3
      · have hm : mv q l[k].toNat (l.drop (k + 1)) = chk ⟨q.pc, q.pt⟩ 0 := by
          rw [h3]; unfold mv; rw [if_neg (by decide), if_neg (by decide), if_pos rfl]
        rw [hm]
        exact moved_3 q A c k l w h hn hk _ hq h3 (by intro a b; exact chk_good a b) (by intro a; exact chk_bad1 a) (by intro a; exact chk_bad2 a)
      · have hs : l[k].toNat < 256 := u8_lt _
        generalize hsx : l[k].toNat = s at *
        have hm : mv q s (l.drop (k + 1)) = chk ⟨q.pc + ((s : Int) - 4) / 12, q.pt + (((s : Int) - 4) % 12 - 4)⟩ 0 := by
          unfold mv; rw [if_neg h1, if_neg h2, if_neg h3]
          congr 2 <;> omega
        rw [hm]
        exact moved_4 q A c k s l w h hn hk _ hq hsx (by omega) hs (by intro a b; exact chk_good a b) (by intro a; exact chk_bad1 a) (by intro a; exact chk_bad2 a)
end Go.Proofs.Ytfpgmaegpiiagaa
