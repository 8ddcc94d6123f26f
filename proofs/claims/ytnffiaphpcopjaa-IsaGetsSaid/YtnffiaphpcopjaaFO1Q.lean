/-
  Merged for a claim: O1Q.
-/
import Derived.Test.YtnffiaphpcopjaaFJ1
namespace Go.Proofs.Ytnffiaphpcopjaa
open Go.RowKit

theorem own_empty (w : World) : Own (w.alloc (.cells #[] 5)) w.heap.size (.slice (some ⟨w.heap.size, 0, none⟩) 0 0) [] := by
  have h := blk_lit w [] #[] rfl
  have := Own.of h (Nat.le_refl _) 0 (Nat.zero_le _) (by simp [maxLen])
  simpa using this

theorem plB_lies5 (w : World) (k : Nat) (hk : k < 16777216) : Lies (w.alloc (.cells #[.int .u8 ((k : Int) / 65536), .int .u8 ((k : Int) / 256 % 256), .int .u8 ((k : Int) % 256)] 5))
    (w.alloc (.cells #[.int .u8 ((k : Int) / 65536), .int .u8 ((k : Int) / 256 % 256), .int .u8 ((k : Int) % 256)] 5)).heap.size (some ⟨w.heap.size, 0, none⟩) (plB k) :=
  lies_lit w 5 (plB k) _ (by rw [plB_val k hk])

set_option maxHeartbeats 400000 in
theorem refPutPlace_any (A : Option Addr) (c : Nat) (l : List UInt8) (n : Int) (w : World) (hc : A = none → c = 0) (h : Lies w w.heap.size A l) (hn : l.length ≤ 1099511627776) :
    Calls Try.prog 35 #[.slice A l.length c, .int .i64 n] w (PutR w (ppL l n) (ppE n)) := by
  by_cases hi : 0 ≤ n ∧ n < 16777216
  · obtain ⟨k, rfl⟩ : ∃ k : Nat, n = k := ⟨n.toNat, by omega⟩
    have hk : k < 16777216 := by omega
    rw [(pp_good (l := l) hk).1, (pp_good (l := l) hk).2]
    have HC := Lib.hid hc
    have t1 : decide ((k : Int) < 0) = false := by simp
    have t2 : decide ((16777216 : Int) ≤ (k : Int)) = false := by simp; omega
    have ho0 := own_empty w
    have hb0 : Below w.heap.size w (w.alloc (.cells #[] 5)) := (Below.refl _ _).alloc (Nat.le_refl _) _
    clear hc hi
    go_enter Try.func35, Try.ntmps35
    go_wp2_with (first
      | (at_builtin
         refine app_slice _ rfl (.tmp 12) (.tmp 13) rfl w.heap.size _ [] rfl ho0 A c w.heap.size l rfl HC.out (h.below hb0) (by simp; omega) hb0.size ?_
         intro v1 w1 ho1 hg1
         have hb1 := below_grown hb0 hg1 ho0 hb0.size
         clear hg1)
      | (at_builtin
         refine app_slice _ rfl (.tmp 14) (.tmp 25) rfl w.heap.size v1 ([] ++ l) rfl (ho1.alloc _) (some ⟨w1.heap.size, 0, none⟩) 3 _ (plB k) rfl (by simp) (plB_lies5 w1 k hk) (by simp [plB]; omega) (Nat.le_trans hb1.size (by simp)) ?_
         intro v2 w2 ho2 hg2
         have hb2 := below_grown (hb1.alloc hb1.size _) hg2 (ho1.alloc _) (Nat.le_trans hb1.size (by simp))
         clear hg2))
    go_ret2
    exact ⟨v2, rfl, by simpa using ho2, hb2⟩
  · rw [(pp_bad (l := l) hi).1, (pp_bad (l := l) hi).2]
    by_cases h1 : 0 ≤ n
    · have h2 : ¬ n < 16777216 := by omega
      clear hi
      go_enter Try.func35, Try.ntmps35
      go_wp2
      go_ret2
      exact ⟨_, rfl, Own.nil _ _, Below.refl _ _⟩
    · clear hi
      go_enter Try.func35, Try.ntmps35
      go_wp2
      go_ret2
      exact ⟨_, rfl, Own.nil _ _, Below.refl _ _⟩

end Go.Proofs.Ytnffiaphpcopjaa
