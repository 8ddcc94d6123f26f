/-
  The walk of LebReads.
-/
import Derived.Test.YtdnjlaoapopcfaaL2W
import Derived.Test.YtdnjlaoapopcfaaR0B
import Derived.Test.YtdnjlaoapopcfaaR2D
namespace Go.Proofs.Ytdnjlaoapopcfaa
open Go.RowKit

set_option maxRecDepth 100000 in
set_option maxHeartbeats 2000000 in
theorem lebReads_any (A : Option Addr) (c : Nat) (l : List UInt8) (i : Int) (w : World) (h : Lies w w.heap.size A l) :
    Calls Try.prog 4 #[.slice A l.length c, .int .i64 i] w (Yes w) := by
  by_cases hbig : 65536 < l.length
  · go_enter Try.func4, Try.ntmps4
    go_wp2_with fail
    refine (works_any _).mono ?_
    rintro e w' ⟨rfl, hb⟩
    go_wp2
    go_ret
    exact ⟨rfl, hb⟩
  · go_enter Try.func4, Try.ntmps4
    go_wp2_with fail
    refine (roomy_any A c l _ (by omega) h).mono ?_
    rintro e w1 ⟨rfl, hk1, hb1⟩
    have g01 := hk1.lt
    have hi1 := hk1.lies (List.prefix_append l t8) g01
    have hl1 := (h.below hb1).more hb1.size
    go_wp2_with fail
    refine (U_any _ _ l i _ _ (by omega) hi1).mono ?_
    rintro e w' ⟨rfl, rfl⟩
    go_wp2_with fail
    refine (refU_any A c l i _ (by omega) hl1).mono ?_
    rintro e w2 ⟨rfl, hb2⟩
    generalize rdX false l i = x1
    generalize rdN false l i = x2
    generalize rdE false l i = x3
    have hi2 := (hi1.below hb2).more hb2.size
    have hl2 := (hl1.below hb2).more hb2.size
    have hk2 := hk1.below hb2 hk1.lt
    have hB2 := hb1.trans (hb2.mono hb1.size)
    clear hi1 hl1 hb1 hb2 hk1
    go_wp2_with fail
    refine (S_any _ _ l i _ _ (by omega) hi2).mono ?_
    rintro e w' ⟨rfl, rfl⟩
    go_wp2_with fail
    refine (refS_any A c l i _ (by omega) hl2).mono ?_
    rintro e w3 ⟨rfl, hb3⟩
    generalize rdX true l i = y1
    generalize rdN true l i = y2
    generalize rdE true l i = y3
    have hl3 := (hl2.below hb3).more hb3.size
    have hk3 := hk2.below hb3 hk2.lt
    have hB3 := hB2.trans (hb3.mono hB2.size)
    clear hi2 hl2 hb3 hk2 hB2
    go_wp2_with fail
    refine (kept_any _ A c _ l _ (by omega) hk3 hl3).mono ?_
    rintro e w' ⟨rfl, rfl⟩
    go_wp2_with fail
    refine (works_any _).mono ?_
    rintro e w4 ⟨rfl, hb4⟩
    go_wp2
    go_ret
    exact ⟨rfl, hB3.trans (hb4.mono hB3.size)⟩
end Go.Proofs.Ytdnjlaoapopcfaa
