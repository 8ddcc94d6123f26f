/-
  The walk of OctetReads.
-/
import Derived.Test.YtjgjikeanmdhkaaV
import Derived.Test.YtjgjikeanmdhkaaG
import Derived.Test.YtjgjikeanmdhkaaU
namespace Go.Proofs.Ytjgjikeanmdhkaa
open Go.RowKit

set_option maxRecDepth 100000 in
set_option maxHeartbeats 1000000 in
theorem octetReads_any (A : Option Addr) (c : Nat) (l : List UInt8) (i : Int) (w : World) (hlc : l.length ≤ c) (h : Lies w w.heap.size A l) :
    Calls Try.prog 4 #[.slice A l.length c, .int .i64 i] w (Yes w) := by
  by_cases hbig : 65536 < l.length
  · go_enter Try.func4, Try.ntmps4
    go_wp2_with fail
    refine (works_any _).mono ?_
    rintro e w' ⟨rfl, hb⟩
    go_wp2
    go_ret
    exact ⟨rfl, hb⟩
  · go_enter Try.func4, Try.ntmps4
    go_wp2_with fail
    refine (mine_any A c l _ h (by omega)).mono ?_
    rintro e w1 ⟨rfl, hr1, hb1⟩
    have hi1 := hr1.lies (hr1.lt)
    have hl1 := (h.below hb1).more hb1.size
    go_wp2_with fail
    refine (one_any _ _ l i _ _ (by omega) hi1).mono ?_
    rintro e w' ⟨rfl, rfl⟩
    go_wp2_with fail
    refine (refOne_any _ _ l i _ _ (by omega) hl1).mono ?_
    rintro e w' ⟨rfl, rfl⟩
    generalize oneX l i = x1
    generalize oneN l i = x2
    generalize stV l.length i 1 = x3
    go_wp2_with fail
    refine (place_any _ _ l i _ _ (by omega) (by omega) hi1).mono ?_
    rintro e w2 ⟨rfl, hb2⟩
    have hi2 := hi1.below hb2
    have hl2 := hl1.below hb2
    have hr2 := hr1.below hb2 hr1.lt
    have hbb2 := hb1.trans (hb2.mono hb1.size)
    go_wp2_with fail
    refine (refPlace_any _ _ l i _ _ (by omega) hl2).mono ?_
    rintro e w3 ⟨rfl, hb3⟩
    generalize plX l i = y1
    generalize plN l i = y2
    generalize stV l.length i 3 = y3
    have hi3 := (hi2.more hb2.size).below hb3
    have hl3 := (hl2.more hb2.size).below hb3
    have hr3 := hr2.below hb3 hr2.lt
    have hbb3 := hbb2.trans (hb3.mono hbb2.size)
    clear hi1 hl1 hr1 hi2 hl2 hr2 hb1 hb2 hb3 hbb2 h
    go_wp2_with fail
    refine (text_any _ _ l i _ _ (by omega) (by omega) hi3).mono ?_
    rintro e w' ⟨rfl, rfl⟩
    go_wp2_with fail
    refine (refText_any _ _ l i _ _ (by omega) (by omega) hl3).mono ?_
    rintro e w' ⟨rfl, rfl⟩
    generalize txS l i = z1
    generalize txN l i = z2
    generalize txE l i = z3
    go_wp2_with fail
    refine (still_any _ _ _ _ l _ hr3 hl3 (by omega)).mono ?_
    rintro e w' ⟨rfl, rfl⟩
    go_wp2_with fail
    refine (works_any _).mono ?_
    rintro e w4 ⟨rfl, hb4⟩
    go_wp2
    go_ret
    exact ⟨rfl, hbb3.trans (hb4.mono hbb3.size)⟩

end Go.Proofs.Ytjgjikeanmdhkaa
