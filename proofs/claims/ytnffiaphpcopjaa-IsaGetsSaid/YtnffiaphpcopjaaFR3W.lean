/-
  Merged for a claim: R3W.
-/
import Derived.Test.YtnffiaphpcopjaaFR3V
import Derived.Test.YtnffiaphpcopjaaFR0B
import Derived.Test.YtnffiaphpcopjaaFI3W
namespace Go.Proofs.Ytnffiaphpcopjaa
open Go.RowKit

theorem eql_self (i : Ins) (W : World) : (binOp .eql 24 (.agg (ic i)) (.agg (ic i))).run Try.prog W = .ok (.bool true) W := by
  have := ins_eql i i W
  rwa [decide_eq_true (rfl : i = i)] at this

set_option maxRecDepth 100000 in
set_option maxHeartbeats 1000000 in
theorem isaGets_any (A : Option Addr) (c : Nat) (l : List UInt8) (x : Int) (w : World) (hlc : l.length ≤ c) (h : Lies w w.heap.size A l) :
    Calls Try.prog 4 #[.slice A l.length c, .int .i64 x] w (Yes w) := by
  by_cases hbig : 65536 < l.length
  · go_enter Try.func4, Try.ntmps4
    go_wp2_with fail
    refine (works_any _).mono ?_
    rintro e w' ⟨rfl, hb⟩
    go_wp2
    go_ret
    exact ⟨rfl, hb⟩
  · have hn : l.length ≤ 65536 := by omega
    have HG := Lib.hid (fun W B d (h1 : l.length ≤ d) (h2 : Lies W W.heap.size B l) => isaGet_any B d l x W h1 (by omega) h2)
    have HD := Lib.hid (fun W (h2 : Lies W W.heap.size A l) => refGet_any A c l x W hlc (by omega) h2)
    unfold GetR at HG HD
    generalize gI l x = i at HG HD
    generalize gN l x = n at HG HD
    generalize gE l x = er at HG HD
    have heq := eql_self i
    have bn : (n == n) = true := by simp
    have be : (er == er) = true := by simp
    unfold iv ic at HG HD
    unfold ic at heq
    go_enter Try.func4, Try.ntmps4
    go_wp2_with fail
    refine (roomy_any A c l _ (by omega) h).mono ?_
    rintro e w1 ⟨rfl, hk1, hb1⟩
    have hi1 := (hk1.lies (List.prefix_append l t8) hk1.lt)
    have HL1 := Lib.hid ((h.below hb1).more hb1.size)
    have HK1 := Lib.hid hk1
    have HB1 := Lib.hid hb1
    have HX1 := Lib.hid hi1
    clear hk1 hb1 hi1 h
    go_wp2_with fail
    refine (HG.out w1 (some ⟨w.heap.size, 0, none⟩) (l.length + 8) (by omega) HX1.out).mono ?_
    rintro e w2 ⟨rfl, hb2⟩
    have hb3 := hb2.alloc hb2.size (.cells #[.int .u8 i.k, .int .u8 i.o, .int .i64 i.r, .int .i64 i.s, .int .i64 i.t, .int .i64 i.n, .int .i64 i.m] 24)
    have HL3 := Lib.hid ((HL1.out.below hb3).more hb3.size)
    have HK3 := Lib.hid (HK1.out.below hb3 HK1.out.lt)
    have HB3 := Lib.hid (HB1.out.trans (hb3.mono HB1.out.size))
    have HI3 := Lib.hid (show InsAt (w2.alloc (.cells #[.int .u8 i.k, .int .u8 i.o, .int .i64 i.r, .int .i64 i.s, .int .i64 i.t, .int .i64 i.n, .int .i64 i.m] 24)) w2.heap.size i from heap_alloc_new _ _)
    clear hb2 hb3 HL1 HK1 HB1 HX1 HG
    go_wp2_with fail
    refine (HD.out _ HL3.out).mono ?_
    rintro e w4 ⟨rfl, hb4⟩
    have hb5 := hb4.alloc hb4.size (.cells #[.int .u8 i.k, .int .u8 i.o, .int .i64 i.r, .int .i64 i.s, .int .i64 i.t, .int .i64 i.n, .int .i64 i.m] 24)
    have HL5 := Lib.hid ((HL3.out.below hb5).more hb5.size)
    have HK5 := Lib.hid (HK3.out.below hb5 HK3.out.lt)
    have HB5 := Lib.hid (HB3.out.trans (hb5.mono HB3.out.size))
    obtain ⟨⟨d0, d1, d2, d3, d4, d5, d6⟩, _⟩ := ins_cells (HI3.out.below hb5 HI3.out.lt)
    clear hb4 hb5 HL3 HK3 HB3 HI3 HD
    go_wp2_with fail
    refine (kept_any _ A c _ l _ (by omega) HK5.out HL5.out).mono ?_
    rintro e w' ⟨rfl, rfl⟩
    go_wp2_with fail
    refine (works_any _).mono ?_
    rintro e w6 ⟨rfl, hb6⟩
    have HB6 := Lib.hid (HB5.out.trans (hb6.mono HB5.out.size))
    clear hb6
    go_wp2_with fail
    go_ret
    exact ⟨rfl, HB6.out⟩

end Go.Proofs.Ytnffiaphpcopjaa
