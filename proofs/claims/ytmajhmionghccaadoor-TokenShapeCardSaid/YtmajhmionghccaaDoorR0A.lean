/-
  Contracts of the law's helpers on bytes: EqBytes (of equal ones), CopyBytes.
-/
import Derived.Test.YtmajhmionghccaaDoorKO
import Derived.Deep.QuietTactic
import Derived.BigQuiet
namespace Go.Proofs.YtmajhmionghccaaDoor
open Go.RowKit

theorem byte_lies (w : World) (x : UInt8) : Lies (w.alloc (.cells #[.int .u8 (x.toNat : Int)] 5)) (w.alloc (.cells #[.int .u8 (x.toNat : Int)] 5)).heap.size (some ⟨w.heap.size, 0, none⟩) [x] :=
  lies_lit w 5 _ _ rfl

set_option maxHeartbeats 400000 in
theorem copyBytes_any (A : Option Addr) (c : Nat) (l : List UInt8) (w : World) (hn : l.length ≤ 1099511627776) (h : Lies w w.heap.size A l) :
    Calls Tryd.prog 16 #[.slice A l.length c] w (Made w l) := by
  go_enter Tryd.func16, Tryd.ntmps16
  go_wp2
  go_loopw [3, 8] (fun v i wr => ∃ k : Nat, k ≤ l.length ∧ i = .int .i64 k ∧ Hid (Own wr w.heap.size v (l.take k)) ∧ Hid (Below w.heap.size w wr)) (fun _ i _ => l.length - (intOf i).toNat)
  case atStart => exact ⟨0, by omega, rfl, Own.nil _ _, Below.refl _ _⟩
  case round =>
    obtain ⟨k, hk, rfl, hq, hb⟩ := hrel
    have hz := hb.out.size
    by_cases hlt : k < l.length
    · obtain ⟨g, o, rfl, hg, hc⟩ := (h.below hb.out).at_ hlt
      have HT := Lib.hid (show l.take k ++ [l[k]] = l.take (k + 1) by simp)
      go_wp2_with (first
        | (at_builtin
           refine app_slice _ rfl (.tmp 12) (.tmp 14) rfl w.heap.size _ _ rfl (hq.out.alloc _) (some ⟨wr.heap.size, 0, none⟩) 1 _ [l[k]] rfl (by simp) (byte_lies wr l[k]) (by simp; omega) (by simp; omega) ?_
           intro v3 w3 ho3 hg3
           have hb3 := below_grown (hb.out.alloc hz _) hg3 (hq.out.alloc _) (by simp; omega)
           rw [HT.out] at ho3
           clear hg3))
      go_roundw
      case rel => exact ⟨k + 1, by omega, by go_num, ho3, hb3⟩
      case measure => simp [intOf]; omega
    · obtain rfl : k = l.length := by omega
      have ho := hq.out
      rw [List.take_length] at ho
      clear hq
      go_wp2
      go_ret
      exact ⟨_, rfl, ho, hb⟩

end Go.Proofs.YtmajhmionghccaaDoor
