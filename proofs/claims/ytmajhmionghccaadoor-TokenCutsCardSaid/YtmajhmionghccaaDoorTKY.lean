/-
  TokenCuts, whatever comes in.
-/
import Derived.Test.YtmajhmionghccaaDoorTKV
namespace Go.Proofs.YtmajhmionghccaaDoor
open Go Go.RowKit

set_option maxRecDepth 100000 in
set_option maxHeartbeats 2000000 in
theorem cuts_any (A B : Option Addr) (c d : Nat) (a b : List UInt8) (w : World) (hA : Lies w w.heap.size A a) (hB : Lies w w.heap.size B b) (hAc : A = none → c = 0) (hBc : B = none → d = 0) (hL : Laid w) (ha : a.length ≤ 140737488355328) (hb : b.length ≤ 140737488355328) :
    Calls Tryd.prog 6 #[.slice A a.length c, .slice B b.length d] w (TrueR11 w) := by
  by_cases hbig : 16383 < a.length + b.length
  · have hbi : (16383 : Int) < (a.length : Int) + (b.length : Int) := by omega
    have hai : (a.length : Int) ≤ 140737488355328 := by omega
    have hbi2 : (b.length : Int) ≤ 140737488355328 := by omega
    have HW := Lib.hid (works_any w hL)
    go_enter Tryd.func6, Tryd.ntmps6
    go_wp2_with fail
    refine HW.out.mono ?_
    rintro e w1 ⟨rfl, hb1⟩
    go_wp2_with fail
    go_ret
    exact ⟨rfl, hb1⟩
  · rcases hs : scanP a with k | ts
    · exact cuts_err A B c d a b w hA hB hAc hBc hL (by omega) k hs
    · rcases hs2 : scanP b with k | ms
      · exact cuts_ok_err A B c d a b w hA hB hAc hBc hL (by omega) ts hs k hs2
      · exact cuts_ok_ok A B c d a b w hA hB hAc hBc hL (by omega) ts ms hs hs2
end Go.Proofs.YtmajhmionghccaaDoor
