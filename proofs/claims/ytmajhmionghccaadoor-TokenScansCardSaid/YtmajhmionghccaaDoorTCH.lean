/-
  TokenScans, whatever comes in.
-/
import Derived.Test.YtmajhmionghccaaDoorTCG
import Derived.Test.YtmajhmionghccaaDoorR0B
import Derived.Test.YtmajhmionghccaaDoorTKW
namespace Go.Proofs.YtmajhmionghccaaDoor
open Go Go.RowKit

/-- what scanning tells, as data -/
def outP (l : List UInt8) : List Tk × Int × Int :=
  if 16384 < l.length then ([], 0, 11) else match scanP l with
    | .error k => ([], (k : Int), 6)
    | .ok ts => (ts, 0, 0)
theorem scan_out {l : List UInt8} {w w' : World} {e : Ending} (h : ScanR l w e w') :
    Below w.heap.size w w' ∧ ∃ A c, e = .returned (.tuple #[.slice A (outP l).1.length c, .int .i64 (outP l).2.1, .int .i64 (outP l).2.2]) ∧ eT.LiesT w' A (outP l).1 := by
  unfold outP
  obtain ⟨hb, ⟨h, rfl⟩ | ⟨h, ⟨k, hs, rfl⟩ | ⟨ts, v, hs, rfl, ho⟩⟩⟩ := h
  · rw [if_pos h]
    exact ⟨hb, none, 0, rfl, El.LiesT.nil _ _⟩
  · rw [if_neg (by omega), hs]
    exact ⟨hb, none, 0, rfl, El.LiesT.nil _ _⟩
  · rw [if_neg (by omega), hs]
    obtain ⟨A, c, rfl, _, _, h3⟩ := ho.form
    exact ⟨hb, A, c, rfl, h3⟩
theorem out_len (l : List UInt8) : (outP l).1.length ≤ 16384 := by
  unfold outP
  by_cases h : 16384 < l.length
  · rw [if_pos h]
    simp
  · rw [if_neg h]
    rcases hs : scanP l with k | ts
    · simp
    · have h1 := (scan_all _ _ _ _ (Nat.le_refl _) hs).2.2
      have h2 := sk_len false l
      show ts.length ≤ 16384
      omega
set_option maxRecDepth 100000 in
set_option maxHeartbeats 8000000 in
theorem scans_any (A : Option Addr) (c : Nat) (l : List UInt8) (w : World) (hl : Lies w w.heap.size A l) (hlc : l.length ≤ c) (hA : A = none → c = 0) (hL : Laid w) (hn : l.length ≤ 140737488355328) :
    Calls Tryd.prog 3 #[.slice A l.length c] w (TrueR11 w) := by
  by_cases hbig : 65536 < l.length
  · have hbi : (65536 : Int) < (l.length : Int) := by omega
    have HW := Lib.hid (works_any w hL)
    go_enter Tryd.func3, Tryd.ntmps3
    go_wp2_with fail
    refine HW.out.mono ?_
    rintro e w1 ⟨rfl, hb1⟩
    go_wp2_with fail
    go_ret
    exact ⟨rfl, hb1⟩
  have hbi : (l.length : Int) ≤ 65536 := by omega
  have HLi := Lib.hid hl
  have HL := Lib.hid hL
  have HOL := Lib.hid (out_len l)
  have HRM := Lib.hid (roomy_any A c l w (by omega) hl)
  clear hl hL
  go_enter Tryd.func3, Tryd.ntmps3
  go_wp2_with fail
  refine HRM.out.mono ?_
  rintro e w1 ⟨rfl, hk1, hb1⟩
  have HK1 := Lib.hid hk1
  have HB1 := Lib.hid hb1
  have H1 := Lib.hid (scan_any (some ⟨w.heap.size, 0, none⟩) (l.length + 8) l w1 (hk1.lies (List.prefix_append l t8) hk1.lt) (HL.out.below hb1) (by omega))
  have g01 := hk1.lt
  clear hk1 hb1 HRM
  go_wp2_with fail
  refine H1.out.mono ?_
  intro e w2 hr
  obtain ⟨hb2, A2, c2, rfl, hT2⟩ := scan_out hr
  have HB2 := Lib.hid (HB1.out.trans (hb2.mono HB1.out.size))
  have HK2 := Lib.hid (HK1.out.below hb2 g01)
  have HT2 := Lib.hid hT2
  have g12 := hb2.size
  have H2 := Lib.hid (refScan_any A c l w2 ((HLi.out.below HB2.out).more HB2.out.size) hlc hA (by omega))
  clear H1 hb2 hr hT2
  go_wp2_with fail
  refine H2.out.mono ?_
  intro e w3 hr
  obtain ⟨hb3, A3, c3, rfl, hT3⟩ := scan_out hr
  have HB3 := Lib.hid (HB2.out.trans (hb3.mono HB2.out.size))
  have HK3 := Lib.hid (HK2.out.below hb3 (by omega))
  have HT23 := Lib.hid (HT2.out.below hb3)
  have HT3 := Lib.hid hT3
  have g23 := hb3.size
  have HKP := Lib.hid (kept_any w.heap.size A c w.heap.size l w3 (by omega) HK3.out (HLi.out.below HB3.out))
  clear H2 hb3 hr hT3 HT2
  obtain ⟨OUT, HO⟩ : ∃ O, outP l = O := ⟨_, rfl⟩
  rw [HO] at HT23 HT3 HOL ⊢
  clear HO
  obtain ⟨ts, nn, ff⟩ := OUT
  dsimp only at HT23 HT3 HOL ⊢
  go_wp2_with fail
  refine HKP.out.mono ?_
  rintro e w' ⟨rfl, rfl⟩
  clear HKP
  go_wp2_with fail
  go_loopw [10] (fun i wr => ∃ (j : Nat) (L : List UInt8), j ≤ l.length ∧ i = .int .i64 j ∧ L.length = l.length + 8 ∧ Hid (Blk wr w.heap.size L) ∧ Hid (Below w.heap.size w wr) ∧ Hid (eT.LiesT wr A2 ts) ∧ Hid (eT.LiesT wr A3 ts)) (fun i _ => l.length - (intOf i).toNat)
  case atStart => exact ⟨0, l ++ t8, by omega, rfl, by simp [t8], HK3, HB3, HT23, HT3⟩
  case round =>
    obtain ⟨j, L, hj, rfl, hLl, hK, hB, h2, h3⟩ := hrel
    by_cases hlt : j < l.length
    · have hlti : (j : Int) < (l.length : Int) := by omega
      have hcj := hK.out.cell (show j < L.length by omega)
      have hfz := hK.out.frozen j
      have HU : Hid (HasT wr w.heap.size 5) := ⟨_, _, hK.out⟩
      have hbt := ButT.set (T := 5) (p := ⟨w.heap.size, j, none⟩) HU.out (.int .u8 122)
      have HK4 : Hid (Blk (wr.setCell ⟨w.heap.size, j, none⟩ (.int .u8 122)) w.heap.size (L.set j 122)) := hK.out.store j 122
      have HB4 := Lib.hid (hB.out.setCell (p := ⟨w.heap.size, j, none⟩) (Nat.le_refl _) (.int .u8 122))
      have H24 := Lib.hid (h2.out.but hbt (by decide))
      have H34 := Lib.hid (h3.out.but hbt (by decide))
      clear hbt HU
      go_wp2_with fail
      go_round
      case rel => exact ⟨j + 1, L.set j 122, by omega, by go_num, by rw [List.length_set]; exact hLl, HK4, HB4, H24, H34⟩
      case measure => simp [intOf]; omega
    · obtain rfl : j = l.length := by omega
      have HS := Lib.hid (same11_any A2 A3 c2 c3 ts wr (by have := HOL.out; omega) h2.out.lies h3.out.lies)
      clear h2 h3 hK
      go_wp2_with fail
      refine HS.out.mono ?_
      rintro e w5 ⟨rfl, hb5⟩
      have HB5 := Lib.hid (hB.out.trans (hb5.mono hB.out.size))
      have HW := Lib.hid (works_any w5 (HL.out.below HB5.out))
      clear HS hb5
      go_wp2_with fail
      refine HW.out.mono ?_
      rintro e w6 ⟨rfl, hb6⟩
      have HB6 := Lib.hid (HB5.out.trans (hb6.mono HB5.out.size))
      clear HW hb6
      go_wp2_with fail
      go_ret
      exact ⟨rfl, HB6.out⟩
end Go.Proofs.YtmajhmionghccaaDoor
