/-
  TokenBack, whatever comes in.
-/
import Derived.Test.YtmajhmionghccaaDoorTBB
namespace Go.Proofs.YtmajhmionghccaaDoor
open Go Go.RowKit

set_option maxRecDepth 100000 in
set_option maxHeartbeats 2000000 in
theorem back_any (A B : Option Addr) (c d : Nat) (src bw : List UInt8) (w : World) (hA : Lies w w.heap.size A src) (hB : Lies w w.heap.size B bw) (hL : Laid w) (ha : src.length ≤ 140737488355328) (hb : bw.length ≤ 140737488355328) :
    Calls Tryd.prog 4 #[.slice A src.length c, .slice B bw.length d] w (TrueR11 w) := by
  have hai : (src.length : Int) ≤ 140737488355328 := by omega
  have hbi2 : (bw.length : Int) ≤ 140737488355328 := by omega
  by_cases hbig : 4096 < src.length
  · have hbi : (4096 : Int) < (src.length : Int) := by omega
    have HW := Lib.hid (works_any w hL)
    go_enter Tryd.func4, Tryd.ntmps4
    go_wp2_with fail
    refine HW.out.mono ?_
    rintro e w1 ⟨rfl, hb1⟩
    go_wp2_with fail
    go_ret
    exact ⟨rfl, hb1⟩
  · rcases hs : scanP src with k | ts
    · have hbi : (src.length : Int) ≤ 4096 := by omega
      have H1 := Lib.hid (scan_err (c := c) hA hL (by omega) hs)
      have HL := Lib.hid hL
      clear hA hB hL hs
      go_enter Tryd.func4, Tryd.ntmps4
      go_wp2_with fail
      refine H1.out.mono ?_
      rintro e w1 ⟨rfl, hb1⟩
      have HB1 := Lib.hid hb1
      have HW := Lib.hid (works_any w1 (HL.out.below hb1))
      clear H1 hb1
      go_wp2_with fail
      refine HW.out.mono ?_
      rintro e w2 ⟨rfl, hb2⟩
      have HB2 := Lib.hid (HB1.out.trans (hb2.mono HB1.out.size))
      clear HW hb2
      go_wp2_with fail
      go_ret
      exact ⟨rfl, HB2.out⟩
    · exact back_ok A B c d src bw w hA hB hL (by omega) hb ts hs
end Go.Proofs.YtmajhmionghccaaDoor
