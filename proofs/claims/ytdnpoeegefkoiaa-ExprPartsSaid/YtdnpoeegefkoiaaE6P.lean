/-
  The walk of ExprGets.
-/
import Derived.Test.YtdnpoeegefkoiaaE6W
import Derived.Test.YtdnpoeegefkoiaaR0B
namespace Go.Proofs.Ytdnpoeegefkoiaa
open Go Go.RowKit

theorem same6_n (A A2 : Option Addr) (n n2 c c2 : Nat) (l : List Lc) (w : World) (hl : l.length = n) (hl2 : l.length = n2) (hn : n ≤ 1000000) (h : LLies w w.heap.size A l) (h2 : LLies w w.heap.size A2 l) :
    Calls Try.prog 14 #[.slice A n c, .slice A2 n2 c2] w (TrueR6 w) := by
  subst hl; subst hl2; exact same6_any A A2 c c2 l w (by omega) h h2
theorem kept6_n (g : Nat) (A : Option Addr) (c B : Nat) (l : List UInt8) (w : World) (hn : l.length ≤ 1099511627776) (hk : Blk w g (l ++ t8)) (h : Lies w B A l) :
    Calls Try.prog 13 #[.slice (some ⟨g, 0, none⟩) l.length (l.length + 8), .slice A l.length c] w fun e w' => e = .returned (.bool true) ∧ w = w' := kept_any g A c B l w hn hk h
theorem geL_len (b : List UInt8) (i : Int) : (geL b i).length ≤ 16 := by
  rcases ge_cases (b := b) i with ⟨_, h, _⟩ | ⟨k, n, _, _, hg, _, _⟩
  · rw [h]; simp
  · exact right_len (gotO_has hg).1

set_option maxRecDepth 100000 in
set_option maxHeartbeats 2000000 in
theorem exprGets_any (A : Option Addr) (c : Nat) (b : List UInt8) (i : Int) (w : World) (h : Lies w w.heap.size A b) :
    Calls Try.prog 4 #[.slice A b.length c, .int .i64 i] w (Yes6 w) := by
  by_cases hbig : 4096 < b.length
  · have hb2 : (4096 : Int) < b.length := by omega
    go_enter Try.func4, Try.ntmps4
    go_wp2_with fail
    refine (works6_any _).mono ?_
    rintro e w' ⟨rfl, hb⟩
    go_wp2
    go_ret
    exact ⟨rfl, hb⟩
  · have hb2 : (b.length : Int) ≤ 4096 := by omega
    have HL := Lib.hid h
    clear h
    go_enter Try.func4, Try.ntmps4
    go_wp2_with fail
    refine (roomy_any A c b _ (by omega) HL.out).mono ?_
    rintro e w1 ⟨rfl, hk1, hb1⟩
    have HK1 := Lib.hid hk1
    have HB1 := Lib.hid hb1
    have HI1 := Lib.hid (hk1.lies (List.prefix_append b t8) hk1.lt)
    have g01 := hk1.lt
    clear hk1 hb1
    go_wp2_with fail
    refine (get6_any _ _ b i w1 (by omega) HI1.out).mono ?_
    rintro e w2 ⟨v2, rfl, ho2, hb2'⟩
    have HB2 := Lib.hid (HB1.out.trans (hb2'.mono HB1.out.size))
    have HK2 := Lib.hid (HK1.out.below hb2' g01)
    have HO2 := Lib.hid ho2
    have g12 := hb2'.size
    clear ho2 hb2'
    go_wp2_with fail
    refine (refGet6_any A c b i w2 (by omega) ((HL.out.below HB2.out).more HB2.out.size)).mono ?_
    rintro e w3 ⟨v3, rfl, ho3, hb3⟩
    have HB3 := Lib.hid (HB2.out.trans (hb3.mono HB2.out.size))
    have HK3 := Lib.hid (HK2.out.below hb3 (by omega))
    have ho23 := HO2.out.below hb3
    have hfew := geL_len b i
    have g23 := hb3.size
    generalize geL b i = ls at *
    generalize geE b i = E at *
    generalize geN b i = N at *
    obtain ⟨A2, n2, c2, rfl, hn2, _, _, hM2⟩ := ho23.formN
    obtain ⟨A3, n3, c3, rfl, hn3, _, _, hM3⟩ := ho3.formN
    have HSM := Lib.hid (same6_n A2 A3 n2 n3 c2 c3 ls w3 hn2.out hn3.out (by rw [← hn2.out]; omega) hM2 hM3)
    clear ho3 hb3 ho23 hM2 hM3 HO2
    go_wp2_with fail
    refine HSM.out.mono ?_
    rintro e w4 ⟨rfl, hb4⟩
    have HB4 := Lib.hid (HB3.out.trans (hb4.mono HB3.out.size))
    have HK4 := Lib.hid (HK3.out.below hb4 (by omega))
    clear hb4
    go_wp2_with fail
    refine (kept6_n w.heap.size A c w.heap.size b w4 (by omega) HK4.out (HL.out.below HB4.out)).mono ?_
    rintro e w' ⟨rfl, rfl⟩
    go_wp2_with fail
    refine (works6_any _).mono ?_
    rintro e w7 ⟨rfl, hb7⟩
    go_wp2_with fail
    go_ret
    exact ⟨rfl, HB4.out.trans (hb7.mono HB4.out.size)⟩
end Go.Proofs.Ytdnpoeegefkoiaa
