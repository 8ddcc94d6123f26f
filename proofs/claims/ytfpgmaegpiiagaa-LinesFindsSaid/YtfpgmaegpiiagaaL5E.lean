/-
  Contract of lines.steps.
-/
import Derived.Test.YtfpgmaegpiiagaaL5D
import Derived.Test.YtfpgmaegpiiagaaL2D
namespace Go.Proofs.Ytfpgmaegpiiagaa
open Go.RowKit

theorem one_own (w : World) (x : UInt8) (z : Int) (hz : z = (x.toNat : Int)) : Own (w.alloc (.cells #[.int .u8 z] 5)) w.heap.size (.slice (some ⟨w.heap.size, 0, none⟩) 1 1) [x] := by
  subst hz
  have := Own.of (blk_lit w [x] #[.int .u8 (x.toNat : Int)] rfl) (Nat.le_refl _) 1 (by simp) (by simp [maxLen])
  simpa using this
theorem one_lies (w : World) (x : UInt8) (z : Int) (hz : z = (x.toNat : Int)) : Lies (w.alloc (.cells #[.int .u8 z] 5)) (w.alloc (.cells #[.int .u8 z] 5)).heap.size (some ⟨w.heap.size, 0, none⟩) [x] :=
  lies_lit w 5 _ _ (by subst hz; rfl)

set_option maxRecDepth 100000 in
set_option maxHeartbeats 400000 in
theorem steps_short (d e : Int) (w : World) (h0 : 0 ≤ d) (h1 : d ≤ 20) (h2 : -4 ≤ e) (h3 : e < 8) : Calls Try.prog 23 #[.int .i64 d, .int .i64 e] w (Made w (stepsB d e)) := by
  have HS := Lib.hid (show stepsB d e = [UInt8.ofNat (12 * d + e + 8).toNat] from if_pos ⟨h1, h2, h3⟩)
  have HO := fun z hz => one_own w (UInt8.ofNat (12 * d + e + 8).toNat) z hz
  have HX := short_byte h0 h1 h2 h3
  go_enter Try.func23, Try.ntmps23
  go_wp2
  go_ret
  rw [Made, HS.out]
  refine ⟨_, rfl, HO _ ?_, below_new _ _⟩
  rw [HX]; omega

theorem putU_n (A : Option Addr) (n c : Nat) (l : List UInt8) (x : Int) (w : World) (hl : l.length = n) (hc : A = none → c = 0) (h : Lies w w.heap.size A l) (hn : n ≤ 1099511627776) (h0 : 0 ≤ x) (h1 : x < 18446744073709551616) :
    Calls Try.prog 32 #[.slice A n c, .int .u64 x] w (Made w (l ++ nB false x)) := by
  subst hl
  exact (putU_any A c l x w hc h hn h0 h1).mono fun _ _ h => h.made
theorem putS_n (A : Option Addr) (n c : Nat) (l : List UInt8) (x : Int) (w : World) (hl : l.length = n) (hc : A = none → c = 0) (h : Lies w w.heap.size A l) (hn : n ≤ 1099511627776) (h0 : -9223372036854775808 ≤ x) (h1 : x < 9223372036854775808) :
    Calls Try.prog 33 #[.slice A n c, .int .i64 x] w (Made w (l ++ nB true x)) := by
  subst hl
  exact (putS_any A c l x w hc h hn h0 h1).mono fun _ _ h => h.made

set_option maxRecDepth 100000 in
set_option maxHeartbeats 1000000 in
theorem steps_long (d e : Int) (w : World) (h0 : 0 ≤ d) (h1 : d ≤ 16777216) (h2 : -16777216 ≤ e) (h3 : e ≤ 16777216) (hno : ¬ (d ≤ 20 ∧ -4 ≤ e ∧ e < 8)) : Calls Try.prog 23 #[.int .i64 d, .int .i64 e] w (Made w (stepsB d e)) := by
  have HS := Lib.hid (show stepsB d e = (if d = 0 then [] else 1 :: nB false d) ++ ((if e = 0 then [] else 2 :: nB true e) ++ [3]) from if_neg hno)
  have hz1 := size_le false d
  have hz2 := size_le true e
  have hl1 := nB_len false d
  have hl2 := nB_len true e
  have HB0 := Lib.hid (Below.refl w.heap.size w)
  by_cases hA : 20 < d
  · have hd : d ≠ 0 := by omega
    by_cases he : e = 0
    · subst he
      go_enter Try.func23, Try.ntmps23
      go_wp2_with (first
          | (at_builtin
             refine app_slice _ rfl (.tmp 26) (.tmp 27) rfl w.heap.size _ ([]) rfl ((Own.nil w w.heap.size).alloc _) (some ⟨w.heap.size, 0, none⟩) 1 _ [1] rfl (by simp) (one_lies w 1 _ rfl) (by simp) (by simp) ?_
             intro v1 w1 ho1 hg1
             have hb1 := below_grown (HB0.out.alloc (Nat.le_refl _) _) hg1 ((Own.nil w w.heap.size).alloc _) (by simp)
             have hzw1 := Lib.hid hb1.size
             clear hg1
             obtain ⟨A1, n1, c1, rfl, hn1, _, hc1, hL1⟩ := ho1.formN
             have hle1 : n1 ≤ 1000 := by have := hn1.out; simp at this; omega
             have HP1 := Lib.hid (putU_n A1 n1 c1 _ d _ hn1.out hc1 hL1 (by omega) (by omega) (by omega))
             clear hc1 hL1)
          | (go_at_call 32
             refine HP1.out.mono ?_
             rintro e' w2 ⟨v2, rfl, ho2, hb2'⟩
             have hb2 := hb1.trans (hb2'.mono hzw1.out)
             have hzw2 := Lib.hid hb2.size
             have ho2 := ho2.base hzw1.out)
          | (at_builtin
             refine app_slice _ rfl (.tmp 39) (.tmp 40) rfl w.heap.size _ ((([] ++ [1]) ++ nB false d)) rfl (ho2.alloc _) (some ⟨w2.heap.size, 0, none⟩) 1 _ [3] rfl (by simp) (one_lies w2 3 _ rfl) (by simp; omega) (by have := hzw2.out; simp; omega) ?_
             intro v3 w3 ho3 hg3
             have hb3 := below_grown (hb2.alloc hzw2.out _) hg3 (ho2.alloc _) (by have := hzw2.out; simp; omega)
             have hzw3 := Lib.hid hb3.size
             clear hg3))
      go_ret
      refine ⟨_, rfl, ?_, hb3⟩
      rw [HS.out]
      simpa [hd] using ho3
    · skip
      go_enter Try.func23, Try.ntmps23
      go_wp2_with (first
          | (at_builtin
             refine app_slice _ rfl (.tmp 26) (.tmp 27) rfl w.heap.size _ ([]) rfl ((Own.nil w w.heap.size).alloc _) (some ⟨w.heap.size, 0, none⟩) 1 _ [1] rfl (by simp) (one_lies w 1 _ rfl) (by simp) (by simp) ?_
             intro v1 w1 ho1 hg1
             have hb1 := below_grown (HB0.out.alloc (Nat.le_refl _) _) hg1 ((Own.nil w w.heap.size).alloc _) (by simp)
             have hzw1 := Lib.hid hb1.size
             clear hg1
             obtain ⟨A1, n1, c1, rfl, hn1, _, hc1, hL1⟩ := ho1.formN
             have hle1 : n1 ≤ 1000 := by have := hn1.out; simp at this; omega
             have HP1 := Lib.hid (putU_n A1 n1 c1 _ d _ hn1.out hc1 hL1 (by omega) (by omega) (by omega))
             clear hc1 hL1)
          | (go_at_call 32
             refine HP1.out.mono ?_
             rintro e' w2 ⟨v2, rfl, ho2, hb2'⟩
             have hb2 := hb1.trans (hb2'.mono hzw1.out)
             have hzw2 := Lib.hid hb2.size
             have ho2 := ho2.base hzw1.out)
          | (at_builtin
             refine app_slice _ rfl (.tmp 34) (.tmp 35) rfl w.heap.size _ ((([] ++ [1]) ++ nB false d)) rfl (ho2.alloc _) (some ⟨w2.heap.size, 0, none⟩) 1 _ [2] rfl (by simp) (one_lies w2 2 _ rfl) (by simp; omega) (by have := hzw2.out; simp; omega) ?_
             intro v3 w3 ho3 hg3
             have hb3 := below_grown (hb2.alloc hzw2.out _) hg3 (ho2.alloc _) (by have := hzw2.out; simp; omega)
             have hzw3 := Lib.hid hb3.size
             clear hg3
             obtain ⟨A3, n3, c3, rfl, hn3, _, hc3, hL3⟩ := ho3.formN
             have hle3 : n3 ≤ 1000 := by have := hn3.out; simp at this; omega
             have HP3 := Lib.hid (putS_n A3 n3 c3 _ e _ hn3.out hc3 hL3 (by omega) (by omega) (by omega))
             clear hc3 hL3)
          | (go_at_call 33
             refine HP3.out.mono ?_
             rintro e' w4 ⟨v4, rfl, ho4, hb4'⟩
             have hb4 := hb3.trans (hb4'.mono hzw3.out)
             have hzw4 := Lib.hid hb4.size
             have ho4 := ho4.base hzw3.out)
          | (at_builtin
             refine app_slice _ rfl (.tmp 39) (.tmp 40) rfl w.heap.size _ ((((([] ++ [1]) ++ nB false d) ++ [2]) ++ nB true e)) rfl (ho4.alloc _) (some ⟨w4.heap.size, 0, none⟩) 1 _ [3] rfl (by simp) (one_lies w4 3 _ rfl) (by simp; omega) (by have := hzw4.out; simp; omega) ?_
             intro v5 w5 ho5 hg5
             have hb5 := below_grown (hb4.alloc hzw4.out _) hg5 (ho4.alloc _) (by have := hzw4.out; simp; omega)
             have hzw5 := Lib.hid hb5.size
             clear hg5))
      go_ret
      refine ⟨_, rfl, ?_, hb5⟩
      rw [HS.out]
      simpa [hd, he] using ho5
  · by_cases hB : e < -4
    · have he : e ≠ 0 := by omega
      by_cases hd : d = 0
      · subst hd
        go_enter Try.func23, Try.ntmps23
        go_wp2_with (first
            | (at_builtin
               refine app_slice _ rfl (.tmp 34) (.tmp 35) rfl w.heap.size _ ([]) rfl ((Own.nil w w.heap.size).alloc _) (some ⟨w.heap.size, 0, none⟩) 1 _ [2] rfl (by simp) (one_lies w 2 _ rfl) (by simp) (by simp) ?_
               intro v1 w1 ho1 hg1
               have hb1 := below_grown (HB0.out.alloc (Nat.le_refl _) _) hg1 ((Own.nil w w.heap.size).alloc _) (by simp)
               have hzw1 := Lib.hid hb1.size
               clear hg1
               obtain ⟨A1, n1, c1, rfl, hn1, _, hc1, hL1⟩ := ho1.formN
               have hle1 : n1 ≤ 1000 := by have := hn1.out; simp at this; omega
               have HP1 := Lib.hid (putS_n A1 n1 c1 _ e _ hn1.out hc1 hL1 (by omega) (by omega) (by omega))
               clear hc1 hL1)
            | (go_at_call 33
               refine HP1.out.mono ?_
               rintro e' w2 ⟨v2, rfl, ho2, hb2'⟩
               have hb2 := hb1.trans (hb2'.mono hzw1.out)
               have hzw2 := Lib.hid hb2.size
               have ho2 := ho2.base hzw1.out)
            | (at_builtin
               refine app_slice _ rfl (.tmp 39) (.tmp 40) rfl w.heap.size _ ((([] ++ [2]) ++ nB true e)) rfl (ho2.alloc _) (some ⟨w2.heap.size, 0, none⟩) 1 _ [3] rfl (by simp) (one_lies w2 3 _ rfl) (by simp; omega) (by have := hzw2.out; simp; omega) ?_
               intro v3 w3 ho3 hg3
               have hb3 := below_grown (hb2.alloc hzw2.out _) hg3 (ho2.alloc _) (by have := hzw2.out; simp; omega)
               have hzw3 := Lib.hid hb3.size
               clear hg3))
        go_ret
        refine ⟨_, rfl, ?_, hb3⟩
        rw [HS.out]
        simpa [he] using ho3
      · skip
        go_enter Try.func23, Try.ntmps23
        go_wp2_with (first
            | (at_builtin
               refine app_slice _ rfl (.tmp 26) (.tmp 27) rfl w.heap.size _ ([]) rfl ((Own.nil w w.heap.size).alloc _) (some ⟨w.heap.size, 0, none⟩) 1 _ [1] rfl (by simp) (one_lies w 1 _ rfl) (by simp) (by simp) ?_
               intro v1 w1 ho1 hg1
               have hb1 := below_grown (HB0.out.alloc (Nat.le_refl _) _) hg1 ((Own.nil w w.heap.size).alloc _) (by simp)
               have hzw1 := Lib.hid hb1.size
               clear hg1
               obtain ⟨A1, n1, c1, rfl, hn1, _, hc1, hL1⟩ := ho1.formN
               have hle1 : n1 ≤ 1000 := by have := hn1.out; simp at this; omega
               have HP1 := Lib.hid (putU_n A1 n1 c1 _ d _ hn1.out hc1 hL1 (by omega) (by omega) (by omega))
               clear hc1 hL1)
            | (go_at_call 32
               refine HP1.out.mono ?_
               rintro e' w2 ⟨v2, rfl, ho2, hb2'⟩
               have hb2 := hb1.trans (hb2'.mono hzw1.out)
               have hzw2 := Lib.hid hb2.size
               have ho2 := ho2.base hzw1.out)
            | (at_builtin
               refine app_slice _ rfl (.tmp 34) (.tmp 35) rfl w.heap.size _ ((([] ++ [1]) ++ nB false d)) rfl (ho2.alloc _) (some ⟨w2.heap.size, 0, none⟩) 1 _ [2] rfl (by simp) (one_lies w2 2 _ rfl) (by simp; omega) (by have := hzw2.out; simp; omega) ?_
               intro v3 w3 ho3 hg3
               have hb3 := below_grown (hb2.alloc hzw2.out _) hg3 (ho2.alloc _) (by have := hzw2.out; simp; omega)
               have hzw3 := Lib.hid hb3.size
               clear hg3
               obtain ⟨A3, n3, c3, rfl, hn3, _, hc3, hL3⟩ := ho3.formN
               have hle3 : n3 ≤ 1000 := by have := hn3.out; simp at this; omega
               have HP3 := Lib.hid (putS_n A3 n3 c3 _ e _ hn3.out hc3 hL3 (by omega) (by omega) (by omega))
               clear hc3 hL3)
            | (go_at_call 33
               refine HP3.out.mono ?_
               rintro e' w4 ⟨v4, rfl, ho4, hb4'⟩
               have hb4 := hb3.trans (hb4'.mono hzw3.out)
               have hzw4 := Lib.hid hb4.size
               have ho4 := ho4.base hzw3.out)
            | (at_builtin
               refine app_slice _ rfl (.tmp 39) (.tmp 40) rfl w.heap.size _ ((((([] ++ [1]) ++ nB false d) ++ [2]) ++ nB true e)) rfl (ho4.alloc _) (some ⟨w4.heap.size, 0, none⟩) 1 _ [3] rfl (by simp) (one_lies w4 3 _ rfl) (by simp; omega) (by have := hzw4.out; simp; omega) ?_
               intro v5 w5 ho5 hg5
               have hb5 := below_grown (hb4.alloc hzw4.out _) hg5 (ho4.alloc _) (by have := hzw4.out; simp; omega)
               have hzw5 := Lib.hid hb5.size
               clear hg5))
        go_ret
        refine ⟨_, rfl, ?_, hb5⟩
        rw [HS.out]
        simpa [hd, he] using ho5
    · have hC : 8 ≤ e := by omega
      have he : e ≠ 0 := by omega
      by_cases hd : d = 0
      · subst hd
        go_enter Try.func23, Try.ntmps23
        go_wp2_with (first
            | (at_builtin
               refine app_slice _ rfl (.tmp 34) (.tmp 35) rfl w.heap.size _ ([]) rfl ((Own.nil w w.heap.size).alloc _) (some ⟨w.heap.size, 0, none⟩) 1 _ [2] rfl (by simp) (one_lies w 2 _ rfl) (by simp) (by simp) ?_
               intro v1 w1 ho1 hg1
               have hb1 := below_grown (HB0.out.alloc (Nat.le_refl _) _) hg1 ((Own.nil w w.heap.size).alloc _) (by simp)
               have hzw1 := Lib.hid hb1.size
               clear hg1
               obtain ⟨A1, n1, c1, rfl, hn1, _, hc1, hL1⟩ := ho1.formN
               have hle1 : n1 ≤ 1000 := by have := hn1.out; simp at this; omega
               have HP1 := Lib.hid (putS_n A1 n1 c1 _ e _ hn1.out hc1 hL1 (by omega) (by omega) (by omega))
               clear hc1 hL1)
            | (go_at_call 33
               refine HP1.out.mono ?_
               rintro e' w2 ⟨v2, rfl, ho2, hb2'⟩
               have hb2 := hb1.trans (hb2'.mono hzw1.out)
               have hzw2 := Lib.hid hb2.size
               have ho2 := ho2.base hzw1.out)
            | (at_builtin
               refine app_slice _ rfl (.tmp 39) (.tmp 40) rfl w.heap.size _ ((([] ++ [2]) ++ nB true e)) rfl (ho2.alloc _) (some ⟨w2.heap.size, 0, none⟩) 1 _ [3] rfl (by simp) (one_lies w2 3 _ rfl) (by simp; omega) (by have := hzw2.out; simp; omega) ?_
               intro v3 w3 ho3 hg3
               have hb3 := below_grown (hb2.alloc hzw2.out _) hg3 (ho2.alloc _) (by have := hzw2.out; simp; omega)
               have hzw3 := Lib.hid hb3.size
               clear hg3))
        go_ret
        refine ⟨_, rfl, ?_, hb3⟩
        rw [HS.out]
        simpa [he] using ho3
      · skip
        go_enter Try.func23, Try.ntmps23
        go_wp2_with (first
            | (at_builtin
               refine app_slice _ rfl (.tmp 26) (.tmp 27) rfl w.heap.size _ ([]) rfl ((Own.nil w w.heap.size).alloc _) (some ⟨w.heap.size, 0, none⟩) 1 _ [1] rfl (by simp) (one_lies w 1 _ rfl) (by simp) (by simp) ?_
               intro v1 w1 ho1 hg1
               have hb1 := below_grown (HB0.out.alloc (Nat.le_refl _) _) hg1 ((Own.nil w w.heap.size).alloc _) (by simp)
               have hzw1 := Lib.hid hb1.size
               clear hg1
               obtain ⟨A1, n1, c1, rfl, hn1, _, hc1, hL1⟩ := ho1.formN
               have hle1 : n1 ≤ 1000 := by have := hn1.out; simp at this; omega
               have HP1 := Lib.hid (putU_n A1 n1 c1 _ d _ hn1.out hc1 hL1 (by omega) (by omega) (by omega))
               clear hc1 hL1)
            | (go_at_call 32
               refine HP1.out.mono ?_
               rintro e' w2 ⟨v2, rfl, ho2, hb2'⟩
               have hb2 := hb1.trans (hb2'.mono hzw1.out)
               have hzw2 := Lib.hid hb2.size
               have ho2 := ho2.base hzw1.out)
            | (at_builtin
               refine app_slice _ rfl (.tmp 34) (.tmp 35) rfl w.heap.size _ ((([] ++ [1]) ++ nB false d)) rfl (ho2.alloc _) (some ⟨w2.heap.size, 0, none⟩) 1 _ [2] rfl (by simp) (one_lies w2 2 _ rfl) (by simp; omega) (by have := hzw2.out; simp; omega) ?_
               intro v3 w3 ho3 hg3
               have hb3 := below_grown (hb2.alloc hzw2.out _) hg3 (ho2.alloc _) (by have := hzw2.out; simp; omega)
               have hzw3 := Lib.hid hb3.size
               clear hg3
               obtain ⟨A3, n3, c3, rfl, hn3, _, hc3, hL3⟩ := ho3.formN
               have hle3 : n3 ≤ 1000 := by have := hn3.out; simp at this; omega
               have HP3 := Lib.hid (putS_n A3 n3 c3 _ e _ hn3.out hc3 hL3 (by omega) (by omega) (by omega))
               clear hc3 hL3)
            | (go_at_call 33
               refine HP3.out.mono ?_
               rintro e' w4 ⟨v4, rfl, ho4, hb4'⟩
               have hb4 := hb3.trans (hb4'.mono hzw3.out)
               have hzw4 := Lib.hid hb4.size
               have ho4 := ho4.base hzw3.out)
            | (at_builtin
               refine app_slice _ rfl (.tmp 39) (.tmp 40) rfl w.heap.size _ ((((([] ++ [1]) ++ nB false d) ++ [2]) ++ nB true e)) rfl (ho4.alloc _) (some ⟨w4.heap.size, 0, none⟩) 1 _ [3] rfl (by simp) (one_lies w4 3 _ rfl) (by simp; omega) (by have := hzw4.out; simp; omega) ?_
               intro v5 w5 ho5 hg5
               have hb5 := below_grown (hb4.alloc hzw4.out _) hg5 (ho4.alloc _) (by have := hzw4.out; simp; omega)
               have hzw5 := Lib.hid hb5.size
               clear hg5))
        go_ret
        refine ⟨_, rfl, ?_, hb5⟩
        rw [HS.out]
        simpa [hd, he] using ho5

theorem steps_any (d e : Int) (w : World) (h0 : 0 ≤ d) (h1 : d ≤ 16777216) (h2 : -16777216 ≤ e) (h3 : e ≤ 16777216) : Calls Try.prog 23 #[.int .i64 d, .int .i64 e] w (Made w (stepsB d e)) := by
  by_cases h : d ≤ 20 ∧ -4 ≤ e ∧ e < 8
  · exact steps_short d e w h0 h.1 h.2.1 h.2.2
  · exact steps_long d e w h0 h1 h2 h3 h
end Go.Proofs.Ytfpgmaegpiiagaa
