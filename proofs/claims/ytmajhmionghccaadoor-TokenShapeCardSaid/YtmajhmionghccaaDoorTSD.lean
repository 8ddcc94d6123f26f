/-
  TokenShape, whatever comes in.
-/
import Derived.Test.YtmajhmionghccaaDoorTSC
namespace Go.Proofs.YtmajhmionghccaaDoor
open Go Go.RowKit

set_option maxRecDepth 100000 in
set_option maxHeartbeats 2000000 in
theorem shape_any (A : Option Addr) (c : Nat) (l : List UInt8) (w : World) (hA : Lies w w.heap.size A l) (hlc : l.length ≤ c) (hAc : A = none → c = 0) (hL : Laid w) (hn : l.length ≤ 140737488355328) :
    Calls Tryd.prog 5 #[.slice A l.length c] w (TrueR11 w) := by
  by_cases hbig : 8192 < l.length
  · have hbi : (8192 : Int) < (l.length : Int) := by omega
    have hbi2 : (l.length : Int) ≤ 140737488355328 := by omega
    have HW := Lib.hid (works_any w hL)
    go_enter Tryd.func5, Tryd.ntmps5
    go_wp2_with fail
    refine HW.out.mono ?_
    rintro e w1 ⟨rfl, hb1⟩
    go_wp2_with fail
    go_ret
    exact ⟨rfl, hb1⟩
  · rcases hs : scanP l with k | ts
    · exact shape_err A c l w hA hL (by omega) k hs
    · exact shape_ok A c l w hA hlc hAc hL (by omega) ts hs
end Go.Proofs.YtmajhmionghccaaDoor
