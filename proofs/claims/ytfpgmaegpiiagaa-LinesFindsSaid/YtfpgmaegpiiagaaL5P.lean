/-
  The walks of LinesWrites and LinesReads.
-/
import Derived.Test.YtfpgmaegpiiagaaL5W
import Derived.Test.YtfpgmaegpiiagaaR5B
import Derived.Test.YtfpgmaegpiiagaaR5C
import Derived.Test.YtfpgmaegpiiagaaR0B
namespace Go.Proofs.Ytfpgmaegpiiagaa
open Go.RowKit

theorem write_n (A : Option Addr) (n c : Nat) (l : List Rw) (w : World) (hl : l.length = n) (hn : n ≤ 1000000) (h : RLies w w.heap.size A l) :
    Calls Try.prog 9 #[.slice A n c] w (WriteR l w) := by
  subst hl; exact write_any A c l w hn h
theorem same_n (A A2 : Option Addr) (n n2 c c2 : Nat) (l : List Rw) (w : World) (hl : l.length = n) (hl2 : l.length = n2) (hn : n ≤ 1000000) (h : RLies w w.heap.size A l) (h2 : RLies w w.heap.size A2 l) :
    Calls Try.prog 14 #[.slice A n c, .slice A2 n2 c2] w (TrueR w) := by
  subst hl; subst hl2; exact same_any A A2 c c2 l w (by omega) h h2
theorem eqB_n (A A2 : Option Addr) (c c2 B B2 n n2 : Nat) (l : List UInt8) (w : World) (hl : l.length = n) (hl2 : l.length = n2) (hn : n ≤ 1099511627776) (h : Lies w B A l) (h2 : Lies w B2 A2 l) :
    Calls Try.prog 11 #[.slice A n c, .slice A2 n2 c2] w fun e w' => e = .returned (.bool true) ∧ w = w' := by
  have := eqBytes_same A A2 c c2 l w B B2 (by omega) h h2
  subst hl; subst hl2; exact this
theorem wrB_len {l : List Rw} (h : l.length ≤ 1000000) : (wrB l).length ≤ 9000001 := by
  unfold wrB
  split
  · rename_i hr; have := progB_len hr; omega
  · simp
theorem ROwn.next {w w' : World} {A : Option Addr} {l : List Rw} (h : RLies w w.heap.size A l) (hb : Below w.heap.size w w') : RLies w' w'.heap.size A l := h.next hb

set_option maxRecDepth 100000 in
set_option maxHeartbeats 2000000 in
theorem linesWrites_any (A : Option Addr) (c : Nat) (l : List Rw) (w : World) (hc : A = none → c = 0) (h : RLies w w.heap.size A l) :
    Calls Try.prog 3 #[.slice A l.length c] w (Yes5 w) := by
  by_cases hbig : 30000 < l.length
  · have hb2 : (30000 : Int) < l.length := by omega
    go_enter Try.func3, Try.ntmps3
    go_wp2_with fail
    refine (works_any _).mono ?_
    rintro e w' ⟨rfl, hb⟩
    go_wp2
    go_ret
    exact ⟨rfl, hb⟩
  · have hb2 : (l.length : Int) ≤ 30000 := by omega
    have HC := Lib.hid hc
    clear hc
    go_enter Try.func3, Try.ntmps3
    go_wp2_with fail
    refine (twin_any A c l w HC.out (by omega) h).mono ?_
    rintro e w1 ⟨v1, rfl, ho1, hb1⟩
    obtain ⟨A1, n1, c1, rfl, hn1, _, _, hL1⟩ := ho1.formN
    have hn1' : n1 ≤ 1000000 := by rw [← hn1.out]; omega
    have HL1 := Lib.hid hL1
    have HB1 := Lib.hid hb1
    clear ho1 hL1 hb1
    go_wp2_with fail
    refine (write_n A1 n1 c1 l w1 hn1.out hn1' HL1.out).mono ?_
    rintro e w2 ⟨v2, rfl, ho2, hb2'⟩
    have hlen := wrB_len (l := l) (by omega)
    have HL2 := Lib.hid (HL1.out.next hb2')
    have HB2 := Lib.hid (HB1.out.trans (hb2'.mono HB1.out.size))
    have HO2 := Lib.hid ho2
    clear ho2 hb2'
    go_wp2_with fail
    refine (refWrite_any A c l w2 (by omega) (h.next HB2.out)).mono ?_
    rintro e w3 ⟨v3, rfl, ho3, hb3⟩
    have HL3 := Lib.hid (HL2.out.next hb3)
    have HB3 := Lib.hid (HB2.out.trans (hb3.mono HB2.out.size))
    have ho23 := HO2.out.below hb3
    generalize wrB l = bs at *
    generalize wrE l = E at *
    obtain ⟨A2, n2, c2, rfl, hn2, _, _, hM2⟩ := ho23.formN
    obtain ⟨A3, n3, c3, rfl, hn3, _, _, hM3⟩ := ho3.formN
    have HEQ := Lib.hid (eqB_n A2 A3 c2 c3 _ _ n2 n3 bs w3 hn2.out hn3.out (by rw [← hn2.out]; omega) hM2 hM3)
    clear ho3 hb3 ho23 hM2 hM3 HO2
    go_wp2_with (go_at_call 11; refine HEQ.out.mono ?_; rintro e w' ⟨rfl, rfl⟩)
    refine (right_n A1 n1 c1 l w3 hn1.out (by omega) HL3.out).mono ?_
    rintro e w4 ⟨rfl, hb4⟩
    have HL4 := Lib.hid (HL3.out.next hb4)
    have HB4 := Lib.hid (HB3.out.trans (hb4.mono HB3.out.size))
    have HRR := Lib.hid (refRight_any A c l w4 (by omega) (h.next HB4.out))
    unfold RightR at HRR
    clear hb4
    generalize rightB l = t at *
    go_wp2_with fail
    refine HRR.out.mono ?_
    rintro e w5 ⟨rfl, hb5⟩
    have HL5 := Lib.hid (HL4.out.next hb5)
    have HB5 := Lib.hid (HB4.out.trans (hb5.mono HB4.out.size))
    clear hb5 HRR
    go_wp2_with fail
    refine (same_n A1 A n1 l.length c1 c l w5 hn1.out rfl hn1' HL5.out (h.next HB5.out)).mono ?_
    rintro e w6 ⟨rfl, hb6⟩
    have HB6 := Lib.hid (HB5.out.trans (hb6.mono HB5.out.size))
    clear hb6
    go_wp2_with fail
    refine (works_any _).mono ?_
    rintro e w7 ⟨rfl, hb7⟩
    go_wp2_with fail
    go_ret
    exact ⟨rfl, HB6.out.trans (hb7.mono HB6.out.size)⟩

theorem kept_n (g : Nat) (A : Option Addr) (c B : Nat) (l : List UInt8) (w : World) (hn : l.length ≤ 1099511627776) (hk : Blk w g (l ++ t8)) (h : Lies w B A l) :
    Calls Try.prog 18 #[.slice (some ⟨g, 0, none⟩) l.length (l.length + 8), .slice A l.length c] w fun e w' => e = .returned (.bool true) ∧ w = w' := kept_any g A c B l w hn hk h

set_option maxRecDepth 100000 in
set_option maxHeartbeats 2000000 in
theorem linesReads_any (A : Option Addr) (c : Nat) (b : List UInt8) (w : World) (h : Lies w w.heap.size A b) :
    Calls Try.prog 4 #[.slice A b.length c] w (Yes5 w) := by
  by_cases hbig : 65536 < b.length
  · have hb2 : (65536 : Int) < b.length := by omega
    go_enter Try.func4, Try.ntmps4
    go_wp2_with fail
    refine (works_any _).mono ?_
    rintro e w' ⟨rfl, hb⟩
    go_wp2
    go_ret
    exact ⟨rfl, hb⟩
  · have hb2 : (b.length : Int) ≤ 65536 := by omega
    have HL := Lib.hid h
    clear h
    go_enter Try.func4, Try.ntmps4
    go_wp2_with fail
    refine (roomy_any A c b _ (by omega) HL.out).mono ?_
    rintro e w1 ⟨rfl, hk1, hb1⟩
    have HK1 := Lib.hid hk1
    have HB1 := Lib.hid hb1
    have HI1 := Lib.hid (hk1.lies (List.prefix_append b t8) hk1.lt)
    have g01 := hk1.lt
    clear hk1 hb1
    go_wp2_with fail
    refine (read_any _ _ b w1 (by omega) HI1.out).mono ?_
    rintro e w2 ⟨v2, rfl, ho2, hb2'⟩
    have HB2 := Lib.hid (HB1.out.trans (hb2'.mono HB1.out.size))
    have HK2 := Lib.hid (HK1.out.below hb2' g01)
    have HO2 := Lib.hid ho2
    have g12 := hb2'.size
    clear ho2 hb2'
    go_wp2_with fail
    refine (refRead_any A c b w2 (by omega) ((HL.out.below HB2.out).more HB2.out.size)).mono ?_
    rintro e w3 ⟨v3, rfl, ho3, hb3⟩
    have HB3 := Lib.hid (HB2.out.trans (hb3.mono HB2.out.size))
    have HK3 := Lib.hid (HK2.out.below hb3 (by omega))
    have ho23 := HO2.out.below hb3
    have hfew := re_few b
    have g23 := hb3.size
    generalize reL b = ls at *
    generalize reE b = E at *
    obtain ⟨A2, n2, c2, rfl, hn2, _, _, hM2⟩ := ho23.formN
    obtain ⟨A3, n3, c3, rfl, hn3, _, _, hM3⟩ := ho3.formN
    have HSM := Lib.hid (same_n A2 A3 n2 n3 c2 c3 ls w3 hn2.out hn3.out (by rw [← hn2.out]; omega) hM2 hM3)
    clear ho3 hb3 ho23 hM2 hM3 HO2
    go_wp2_with fail
    refine HSM.out.mono ?_
    rintro e w4 ⟨rfl, hb4⟩
    have HB4 := Lib.hid (HB3.out.trans (hb4.mono HB3.out.size))
    have HK4 := Lib.hid (HK3.out.below hb4 (by omega))
    clear hb4
    go_wp2_with fail
    refine (kept_n w.heap.size A c w.heap.size b w4 (by omega) HK4.out (HL.out.below HB4.out)).mono ?_
    rintro e w' ⟨rfl, rfl⟩
    go_wp2_with fail
    refine (works_any _).mono ?_
    rintro e w7 ⟨rfl, hb7⟩
    go_wp2_with fail
    go_ret
    exact ⟨rfl, HB4.out.trans (hb7.mono HB4.out.size)⟩
end Go.Proofs.Ytfpgmaegpiiagaa
