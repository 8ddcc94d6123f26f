/-
  Contract of the document's Write.
-/
import Derived.Test.YtfpgmaegpiiagaaL5F
import Derived.Test.YtfpgmaegpiiagaaR2A
namespace Go.Proofs.Ytfpgmaegpiiagaa
open Go.RowKit

theorem refPutU_n (A : Option Addr) (n c : Nat) (l : List UInt8) (x : Int) (w : World) (hl : l.length = n) (hc : A = none → c = 0) (h : Lies w w.heap.size A l) (hn : n ≤ 1099511627776) (h0 : 0 ≤ x) (h1 : x < 18446744073709551616) :
    Calls Try.prog 24 #[.slice A n c, .int .u64 x] w (Made w (l ++ nB false x)) := by
  subst hl
  exact refPutU_any A c l x w hc h hn h0 h1
theorem refPutS_n (A : Option Addr) (n c : Nat) (l : List UInt8) (x : Int) (w : World) (hl : l.length = n) (hc : A = none → c = 0) (h : Lies w w.heap.size A l) (hn : n ≤ 1099511627776) (h0 : -9223372036854775808 ≤ x) (h1 : x < 9223372036854775808) :
    Calls Try.prog 25 #[.slice A n c, .int .i64 x] w (Made w (l ++ nB true x)) := by
  subst hl
  exact refPutS_any A c l x w hc h hn h0 h1
theorem stepsB_short {d e : Int} (h : d ≤ 20 ∧ -4 ≤ e ∧ e < 8) : stepsB d e = [UInt8.ofNat (12 * d + e + 8).toNat] := if_pos h
theorem stepsB_long {d e : Int} (h : ¬ (d ≤ 20 ∧ -4 ≤ e ∧ e < 8)) : stepsB d e = (if d = 0 then [] else 1 :: nB false d) ++ ((if e = 0 then [] else 2 :: nB true e) ++ [3]) := if_neg h

set_option maxRecDepth 100000 in
set_option maxHeartbeats 4000000 in
theorem refWrite_any (A : Option Addr) (c : Nat) (l : List Rw) (w : World) (hn : l.length ≤ 1000000) (h : RLies w w.heap.size A l) :
    Calls Try.prog 10 #[.slice A l.length c] w (WriteR l w) := by
  have HP := Lib.hid (refRight_any A c l w (by omega) h)
  unfold RightR at HP
  by_cases hr : rightB l = true
  · have HA := Lib.hid (ahead_start hr)
    have HR := Lib.hid (show wrE l = 0 ∧ wrB l = progB l by unfold wrE wrB; rw [if_pos hr, if_pos hr]; exact ⟨rfl, rfl⟩)
    rw [hr] at HP
    clear hr
    go_enter Try.func10, Try.ntmps10
    go_wp2_with (go_at_call 13; refine HP.out.mono ?_; rintro e w1 ⟨rfl, hb1⟩; have HB1 := Lib.hid hb1; clear hb1)
    go_loopw [4, 5, 6, 7] (fun v x y i wr => ∃ (k : Nat) (q : Rw) (bs : List UInt8), k ≤ l.length ∧ i = .int .i64 k ∧ x = .int .i64 q.pc ∧ y = .int .i64 q.pt ∧ Hid (Own wr w.heap.size v bs) ∧ Hid (Below w.heap.size w wr) ∧ Hid (Ahead l k q bs)) (fun _ _ _ i _ => l.length - (intOf i).toNat)
    case atStart => exact ⟨0, r0, [], by omega, rfl, rfl, rfl, Own.nil _ _, HB1, HA⟩
    case round =>
      obtain ⟨k, q, bs, hk, rfl, rfl, rfl, hv, hB, hA⟩ := hrel
      clear HA HB1
      by_cases hlt : k < l.length
      · obtain ⟨g, o, rfl, hg, cw0, cw1⟩ := h.at_ hlt
        obtain ⟨d0, d1, d2, d3, hA2⟩ := hA.out.row hlt
        have q0 := hA.out.pc0
        have q1 := hA.out.pc1
        have q2 := hA.out.pt0
        have q3 := hA.out.pt1
        have hbl := hA.out.len
        have HA2 := Lib.hid hA2
        have CW := Lib.hid (And.intro cw0 cw1)
        clear hA hA2
        have c0 := (hB.out.cell (p := ⟨g, o + k * 2, none⟩) hg).trans cw0
        have c1 := (hB.out.cell (p := ⟨g, o + k * 2 + 1, none⟩) hg).trans cw1
        clear cw0 cw1
        generalize l[k] = r at *
        have hz := Lib.hid hB.out.size
        have z1 := size_pc d0 (show r.pc - q.pc ≤ 16777216 by omega)
        have z2 := size_pt (e := r.pt - q.pt) (by omega) (by omega)
        have l1 := nB_len false (r.pc - q.pc)
        have l2 := nB_len true (r.pt - q.pt)
        have HSS := Lib.hid (fun h => stepsB_short (d := r.pc - q.pc) (e := r.pt - q.pt) h)
        have HSL := Lib.hid (fun h => stepsB_long (d := r.pc - q.pc) (e := r.pt - q.pt) h)
        have HX := Lib.hid (fun h1 h2 h3 => short_byte (d := r.pc - q.pc) (e := r.pt - q.pt) d0 h1 h2 h3)
        by_cases hA : 20 < r.pc - q.pc
        · have hd : r.pc - q.pc ≠ 0 := by omega
          by_cases he : r.pt - q.pt = 0
          · skip
            go_wp2_with (first
                | (at_builtin
                   refine app_slice _ rfl (.tmp 55) (.tmp 56) rfl w.heap.size _ (bs) rfl (hv.out.alloc _) (some ⟨wr.heap.size, 0, none⟩) 1 _ [1] rfl (by simp) (one_lies wr (1) _ (rfl)) (by simp; omega) (by have := hz.out; simp; omega) ?_
                   intro v1 w1 ho1 hg1
                   have hb1 := below_grown (hB.out.alloc hz.out _) hg1 (hv.out.alloc _) (by have := hz.out; simp; omega)
                   have hzw1 := Lib.hid hb1.size
                   clear hg1
                   obtain ⟨A1, n1, c1', rfl, hn1, _, hc1, hL1⟩ := ho1.formN
                   have hle1 : n1 ≤ 100000000 := by have := hn1.out; simp at this; omega
                   have HP1 := Lib.hid (refPutU_n A1 n1 c1' _ (r.pc - q.pc) _ hn1.out hc1 hL1 (by omega) (by omega) (by omega))
                   clear hc1 hL1)
                | (go_at_call 24
                   refine HP1.out.mono ?_
                   rintro e' w2 ⟨v2, rfl, ho2, hb2'⟩
                   have hb2 := hb1.trans (hb2'.mono hzw1.out)
                   have hzw2 := Lib.hid hb2.size
                   have ho2 := ho2.base hzw1.out)
                | (at_builtin
                   refine app_slice _ rfl (.tmp 68) (.tmp 69) rfl w.heap.size _ (((bs ++ [1]) ++ nB false (r.pc - q.pc))) rfl (ho2.alloc _) (some ⟨w2.heap.size, 0, none⟩) 1 _ [3] rfl (by simp) (one_lies w2 (3) _ (rfl)) (by simp; omega) (by have := hzw2.out; simp; omega) ?_
                   intro v3 w3 ho3 hg3
                   have hb3 := below_grown (hb2.alloc hzw2.out _) hg3 (ho2.alloc _) (by have := hzw2.out; simp; omega)
                   have hzw3 := Lib.hid hb3.size
                   clear hg3
                   have c2 := (hb3.cell (p := ⟨g, o + k * 2, none⟩) hg).trans CW.out.1
                   have c3 := (hb3.cell (p := ⟨g, o + k * 2 + 1, none⟩) hg).trans CW.out.2))
            go_roundw
            case rel =>
              refine ⟨k + 1, r, _, by omega, by go_num, rfl, rfl, Lib.hid ?_, hb3, HA2⟩
              rw [HSL.out (by omega)]
              simpa [hd, he] using ho3
            case measure => simp [intOf]; omega
          · skip
            go_wp2_with (first
                | (at_builtin
                   refine app_slice _ rfl (.tmp 55) (.tmp 56) rfl w.heap.size _ (bs) rfl (hv.out.alloc _) (some ⟨wr.heap.size, 0, none⟩) 1 _ [1] rfl (by simp) (one_lies wr (1) _ (rfl)) (by simp; omega) (by have := hz.out; simp; omega) ?_
                   intro v1 w1 ho1 hg1
                   have hb1 := below_grown (hB.out.alloc hz.out _) hg1 (hv.out.alloc _) (by have := hz.out; simp; omega)
                   have hzw1 := Lib.hid hb1.size
                   clear hg1
                   obtain ⟨A1, n1, c1', rfl, hn1, _, hc1, hL1⟩ := ho1.formN
                   have hle1 : n1 ≤ 100000000 := by have := hn1.out; simp at this; omega
                   have HP1 := Lib.hid (refPutU_n A1 n1 c1' _ (r.pc - q.pc) _ hn1.out hc1 hL1 (by omega) (by omega) (by omega))
                   clear hc1 hL1)
                | (go_at_call 24
                   refine HP1.out.mono ?_
                   rintro e' w2 ⟨v2, rfl, ho2, hb2'⟩
                   have hb2 := hb1.trans (hb2'.mono hzw1.out)
                   have hzw2 := Lib.hid hb2.size
                   have ho2 := ho2.base hzw1.out)
                | (at_builtin
                   refine app_slice _ rfl (.tmp 63) (.tmp 64) rfl w.heap.size _ (((bs ++ [1]) ++ nB false (r.pc - q.pc))) rfl (ho2.alloc _) (some ⟨w2.heap.size, 0, none⟩) 1 _ [2] rfl (by simp) (one_lies w2 (2) _ (rfl)) (by simp; omega) (by have := hzw2.out; simp; omega) ?_
                   intro v3 w3 ho3 hg3
                   have hb3 := below_grown (hb2.alloc hzw2.out _) hg3 (ho2.alloc _) (by have := hzw2.out; simp; omega)
                   have hzw3 := Lib.hid hb3.size
                   clear hg3
                   obtain ⟨A3, n3, c3', rfl, hn3, _, hc3, hL3⟩ := ho3.formN
                   have hle3 : n3 ≤ 100000000 := by have := hn3.out; simp at this; omega
                   have HP3 := Lib.hid (refPutS_n A3 n3 c3' _ (r.pt - q.pt) _ hn3.out hc3 hL3 (by omega) (by omega) (by omega))
                   clear hc3 hL3)
                | (go_at_call 25
                   refine HP3.out.mono ?_
                   rintro e' w4 ⟨v4, rfl, ho4, hb4'⟩
                   have hb4 := hb3.trans (hb4'.mono hzw3.out)
                   have hzw4 := Lib.hid hb4.size
                   have ho4 := ho4.base hzw3.out)
                | (at_builtin
                   refine app_slice _ rfl (.tmp 68) (.tmp 69) rfl w.heap.size _ (((((bs ++ [1]) ++ nB false (r.pc - q.pc)) ++ [2]) ++ nB true (r.pt - q.pt))) rfl (ho4.alloc _) (some ⟨w4.heap.size, 0, none⟩) 1 _ [3] rfl (by simp) (one_lies w4 (3) _ (rfl)) (by simp; omega) (by have := hzw4.out; simp; omega) ?_
                   intro v5 w5 ho5 hg5
                   have hb5 := below_grown (hb4.alloc hzw4.out _) hg5 (ho4.alloc _) (by have := hzw4.out; simp; omega)
                   have hzw5 := Lib.hid hb5.size
                   clear hg5
                   have c2 := (hb5.cell (p := ⟨g, o + k * 2, none⟩) hg).trans CW.out.1
                   have c3 := (hb5.cell (p := ⟨g, o + k * 2 + 1, none⟩) hg).trans CW.out.2))
            go_roundw
            case rel =>
              refine ⟨k + 1, r, _, by omega, by go_num, rfl, rfl, Lib.hid ?_, hb5, HA2⟩
              rw [HSL.out (by omega)]
              simpa [hd, he] using ho5
            case measure => simp [intOf]; omega
        · by_cases hB2 : r.pt - q.pt < -4
          · have he : r.pt - q.pt ≠ 0 := by omega
            by_cases hd : r.pc - q.pc = 0
            · skip
              go_wp2_with (first
                  | (at_builtin
                     refine app_slice _ rfl (.tmp 63) (.tmp 64) rfl w.heap.size _ (bs) rfl (hv.out.alloc _) (some ⟨wr.heap.size, 0, none⟩) 1 _ [2] rfl (by simp) (one_lies wr (2) _ (rfl)) (by simp; omega) (by have := hz.out; simp; omega) ?_
                     intro v1 w1 ho1 hg1
                     have hb1 := below_grown (hB.out.alloc hz.out _) hg1 (hv.out.alloc _) (by have := hz.out; simp; omega)
                     have hzw1 := Lib.hid hb1.size
                     clear hg1
                     obtain ⟨A1, n1, c1', rfl, hn1, _, hc1, hL1⟩ := ho1.formN
                     have hle1 : n1 ≤ 100000000 := by have := hn1.out; simp at this; omega
                     have HP1 := Lib.hid (refPutS_n A1 n1 c1' _ (r.pt - q.pt) _ hn1.out hc1 hL1 (by omega) (by omega) (by omega))
                     clear hc1 hL1)
                  | (go_at_call 25
                     refine HP1.out.mono ?_
                     rintro e' w2 ⟨v2, rfl, ho2, hb2'⟩
                     have hb2 := hb1.trans (hb2'.mono hzw1.out)
                     have hzw2 := Lib.hid hb2.size
                     have ho2 := ho2.base hzw1.out)
                  | (at_builtin
                     refine app_slice _ rfl (.tmp 68) (.tmp 69) rfl w.heap.size _ (((bs ++ [2]) ++ nB true (r.pt - q.pt))) rfl (ho2.alloc _) (some ⟨w2.heap.size, 0, none⟩) 1 _ [3] rfl (by simp) (one_lies w2 (3) _ (rfl)) (by simp; omega) (by have := hzw2.out; simp; omega) ?_
                     intro v3 w3 ho3 hg3
                     have hb3 := below_grown (hb2.alloc hzw2.out _) hg3 (ho2.alloc _) (by have := hzw2.out; simp; omega)
                     have hzw3 := Lib.hid hb3.size
                     clear hg3
                     have c2 := (hb3.cell (p := ⟨g, o + k * 2, none⟩) hg).trans CW.out.1
                     have c3 := (hb3.cell (p := ⟨g, o + k * 2 + 1, none⟩) hg).trans CW.out.2))
              go_roundw
              case rel =>
                refine ⟨k + 1, r, _, by omega, by go_num, rfl, rfl, Lib.hid ?_, hb3, HA2⟩
                rw [HSL.out (by omega)]
                simpa [he, hd] using ho3
              case measure => simp [intOf]; omega
            · skip
              go_wp2_with (first
                  | (at_builtin
                     refine app_slice _ rfl (.tmp 55) (.tmp 56) rfl w.heap.size _ (bs) rfl (hv.out.alloc _) (some ⟨wr.heap.size, 0, none⟩) 1 _ [1] rfl (by simp) (one_lies wr (1) _ (rfl)) (by simp; omega) (by have := hz.out; simp; omega) ?_
                     intro v1 w1 ho1 hg1
                     have hb1 := below_grown (hB.out.alloc hz.out _) hg1 (hv.out.alloc _) (by have := hz.out; simp; omega)
                     have hzw1 := Lib.hid hb1.size
                     clear hg1
                     obtain ⟨A1, n1, c1', rfl, hn1, _, hc1, hL1⟩ := ho1.formN
                     have hle1 : n1 ≤ 100000000 := by have := hn1.out; simp at this; omega
                     have HP1 := Lib.hid (refPutU_n A1 n1 c1' _ (r.pc - q.pc) _ hn1.out hc1 hL1 (by omega) (by omega) (by omega))
                     clear hc1 hL1)
                  | (go_at_call 24
                     refine HP1.out.mono ?_
                     rintro e' w2 ⟨v2, rfl, ho2, hb2'⟩
                     have hb2 := hb1.trans (hb2'.mono hzw1.out)
                     have hzw2 := Lib.hid hb2.size
                     have ho2 := ho2.base hzw1.out)
                  | (at_builtin
                     refine app_slice _ rfl (.tmp 63) (.tmp 64) rfl w.heap.size _ (((bs ++ [1]) ++ nB false (r.pc - q.pc))) rfl (ho2.alloc _) (some ⟨w2.heap.size, 0, none⟩) 1 _ [2] rfl (by simp) (one_lies w2 (2) _ (rfl)) (by simp; omega) (by have := hzw2.out; simp; omega) ?_
                     intro v3 w3 ho3 hg3
                     have hb3 := below_grown (hb2.alloc hzw2.out _) hg3 (ho2.alloc _) (by have := hzw2.out; simp; omega)
                     have hzw3 := Lib.hid hb3.size
                     clear hg3
                     obtain ⟨A3, n3, c3', rfl, hn3, _, hc3, hL3⟩ := ho3.formN
                     have hle3 : n3 ≤ 100000000 := by have := hn3.out; simp at this; omega
                     have HP3 := Lib.hid (refPutS_n A3 n3 c3' _ (r.pt - q.pt) _ hn3.out hc3 hL3 (by omega) (by omega) (by omega))
                     clear hc3 hL3)
                  | (go_at_call 25
                     refine HP3.out.mono ?_
                     rintro e' w4 ⟨v4, rfl, ho4, hb4'⟩
                     have hb4 := hb3.trans (hb4'.mono hzw3.out)
                     have hzw4 := Lib.hid hb4.size
                     have ho4 := ho4.base hzw3.out)
                  | (at_builtin
                     refine app_slice _ rfl (.tmp 68) (.tmp 69) rfl w.heap.size _ (((((bs ++ [1]) ++ nB false (r.pc - q.pc)) ++ [2]) ++ nB true (r.pt - q.pt))) rfl (ho4.alloc _) (some ⟨w4.heap.size, 0, none⟩) 1 _ [3] rfl (by simp) (one_lies w4 (3) _ (rfl)) (by simp; omega) (by have := hzw4.out; simp; omega) ?_
                     intro v5 w5 ho5 hg5
                     have hb5 := below_grown (hb4.alloc hzw4.out _) hg5 (ho4.alloc _) (by have := hzw4.out; simp; omega)
                     have hzw5 := Lib.hid hb5.size
                     clear hg5
                     have c2 := (hb5.cell (p := ⟨g, o + k * 2, none⟩) hg).trans CW.out.1
                     have c3 := (hb5.cell (p := ⟨g, o + k * 2 + 1, none⟩) hg).trans CW.out.2))
              go_roundw
              case rel =>
                refine ⟨k + 1, r, _, by omega, by go_num, rfl, rfl, Lib.hid ?_, hb5, HA2⟩
                rw [HSL.out (by omega)]
                simpa [hd, he] using ho5
              case measure => simp [intOf]; omega
          · by_cases hC : 7 < r.pt - q.pt
            · have he : r.pt - q.pt ≠ 0 := by omega
              by_cases hd : r.pc - q.pc = 0
              · skip
                go_wp2_with (first
                    | (at_builtin
                       refine app_slice _ rfl (.tmp 63) (.tmp 64) rfl w.heap.size _ (bs) rfl (hv.out.alloc _) (some ⟨wr.heap.size, 0, none⟩) 1 _ [2] rfl (by simp) (one_lies wr (2) _ (rfl)) (by simp; omega) (by have := hz.out; simp; omega) ?_
                       intro v1 w1 ho1 hg1
                       have hb1 := below_grown (hB.out.alloc hz.out _) hg1 (hv.out.alloc _) (by have := hz.out; simp; omega)
                       have hzw1 := Lib.hid hb1.size
                       clear hg1
                       obtain ⟨A1, n1, c1', rfl, hn1, _, hc1, hL1⟩ := ho1.formN
                       have hle1 : n1 ≤ 100000000 := by have := hn1.out; simp at this; omega
                       have HP1 := Lib.hid (refPutS_n A1 n1 c1' _ (r.pt - q.pt) _ hn1.out hc1 hL1 (by omega) (by omega) (by omega))
                       clear hc1 hL1)
                    | (go_at_call 25
                       refine HP1.out.mono ?_
                       rintro e' w2 ⟨v2, rfl, ho2, hb2'⟩
                       have hb2 := hb1.trans (hb2'.mono hzw1.out)
                       have hzw2 := Lib.hid hb2.size
                       have ho2 := ho2.base hzw1.out)
                    | (at_builtin
                       refine app_slice _ rfl (.tmp 68) (.tmp 69) rfl w.heap.size _ (((bs ++ [2]) ++ nB true (r.pt - q.pt))) rfl (ho2.alloc _) (some ⟨w2.heap.size, 0, none⟩) 1 _ [3] rfl (by simp) (one_lies w2 (3) _ (rfl)) (by simp; omega) (by have := hzw2.out; simp; omega) ?_
                       intro v3 w3 ho3 hg3
                       have hb3 := below_grown (hb2.alloc hzw2.out _) hg3 (ho2.alloc _) (by have := hzw2.out; simp; omega)
                       have hzw3 := Lib.hid hb3.size
                       clear hg3
                       have c2 := (hb3.cell (p := ⟨g, o + k * 2, none⟩) hg).trans CW.out.1
                       have c3 := (hb3.cell (p := ⟨g, o + k * 2 + 1, none⟩) hg).trans CW.out.2))
                go_roundw
                case rel =>
                  refine ⟨k + 1, r, _, by omega, by go_num, rfl, rfl, Lib.hid ?_, hb3, HA2⟩
                  rw [HSL.out (by omega)]
                  simpa [he, hd] using ho3
                case measure => simp [intOf]; omega
              · skip
                go_wp2_with (first
                    | (at_builtin
                       refine app_slice _ rfl (.tmp 55) (.tmp 56) rfl w.heap.size _ (bs) rfl (hv.out.alloc _) (some ⟨wr.heap.size, 0, none⟩) 1 _ [1] rfl (by simp) (one_lies wr (1) _ (rfl)) (by simp; omega) (by have := hz.out; simp; omega) ?_
                       intro v1 w1 ho1 hg1
                       have hb1 := below_grown (hB.out.alloc hz.out _) hg1 (hv.out.alloc _) (by have := hz.out; simp; omega)
                       have hzw1 := Lib.hid hb1.size
                       clear hg1
                       obtain ⟨A1, n1, c1', rfl, hn1, _, hc1, hL1⟩ := ho1.formN
                       have hle1 : n1 ≤ 100000000 := by have := hn1.out; simp at this; omega
                       have HP1 := Lib.hid (refPutU_n A1 n1 c1' _ (r.pc - q.pc) _ hn1.out hc1 hL1 (by omega) (by omega) (by omega))
                       clear hc1 hL1)
                    | (go_at_call 24
                       refine HP1.out.mono ?_
                       rintro e' w2 ⟨v2, rfl, ho2, hb2'⟩
                       have hb2 := hb1.trans (hb2'.mono hzw1.out)
                       have hzw2 := Lib.hid hb2.size
                       have ho2 := ho2.base hzw1.out)
                    | (at_builtin
                       refine app_slice _ rfl (.tmp 63) (.tmp 64) rfl w.heap.size _ (((bs ++ [1]) ++ nB false (r.pc - q.pc))) rfl (ho2.alloc _) (some ⟨w2.heap.size, 0, none⟩) 1 _ [2] rfl (by simp) (one_lies w2 (2) _ (rfl)) (by simp; omega) (by have := hzw2.out; simp; omega) ?_
                       intro v3 w3 ho3 hg3
                       have hb3 := below_grown (hb2.alloc hzw2.out _) hg3 (ho2.alloc _) (by have := hzw2.out; simp; omega)
                       have hzw3 := Lib.hid hb3.size
                       clear hg3
                       obtain ⟨A3, n3, c3', rfl, hn3, _, hc3, hL3⟩ := ho3.formN
                       have hle3 : n3 ≤ 100000000 := by have := hn3.out; simp at this; omega
                       have HP3 := Lib.hid (refPutS_n A3 n3 c3' _ (r.pt - q.pt) _ hn3.out hc3 hL3 (by omega) (by omega) (by omega))
                       clear hc3 hL3)
                    | (go_at_call 25
                       refine HP3.out.mono ?_
                       rintro e' w4 ⟨v4, rfl, ho4, hb4'⟩
                       have hb4 := hb3.trans (hb4'.mono hzw3.out)
                       have hzw4 := Lib.hid hb4.size
                       have ho4 := ho4.base hzw3.out)
                    | (at_builtin
                       refine app_slice _ rfl (.tmp 68) (.tmp 69) rfl w.heap.size _ (((((bs ++ [1]) ++ nB false (r.pc - q.pc)) ++ [2]) ++ nB true (r.pt - q.pt))) rfl (ho4.alloc _) (some ⟨w4.heap.size, 0, none⟩) 1 _ [3] rfl (by simp) (one_lies w4 (3) _ (rfl)) (by simp; omega) (by have := hzw4.out; simp; omega) ?_
                       intro v5 w5 ho5 hg5
                       have hb5 := below_grown (hb4.alloc hzw4.out _) hg5 (ho4.alloc _) (by have := hzw4.out; simp; omega)
                       have hzw5 := Lib.hid hb5.size
                       clear hg5
                       have c2 := (hb5.cell (p := ⟨g, o + k * 2, none⟩) hg).trans CW.out.1
                       have c3 := (hb5.cell (p := ⟨g, o + k * 2 + 1, none⟩) hg).trans CW.out.2))
                go_roundw
                case rel =>
                  refine ⟨k + 1, r, _, by omega, by go_num, rfl, rfl, Lib.hid ?_, hb5, HA2⟩
                  rw [HSL.out (by omega)]
                  simpa [hd, he] using ho5
                case measure => simp [intOf]; omega
            · skip
              go_wp2_with (first
                  | (at_builtin
                     refine app_slice _ rfl (.tmp 43) (.tmp 51) rfl w.heap.size _ (bs) rfl (hv.out.alloc _) (some ⟨wr.heap.size, 0, none⟩) 1 _ [UInt8.ofNat (12 * (r.pc - q.pc) + (r.pt - q.pt) + 8).toNat] rfl (by simp) (one_lies wr (UInt8.ofNat (12 * (r.pc - q.pc) + (r.pt - q.pt) + 8).toNat) _ (by rw [HX.out (by omega) (by omega) (by omega)]; omega)) (by simp; omega) (by have := hz.out; simp; omega) ?_
                     intro v1 w1 ho1 hg1
                     have hb1 := below_grown (hB.out.alloc hz.out _) hg1 (hv.out.alloc _) (by have := hz.out; simp; omega)
                     have hzw1 := Lib.hid hb1.size
                     clear hg1
                     have c2 := (hb1.cell (p := ⟨g, o + k * 2, none⟩) hg).trans CW.out.1
                     have c3 := (hb1.cell (p := ⟨g, o + k * 2 + 1, none⟩) hg).trans CW.out.2))
              go_roundw
              case rel =>
                refine ⟨k + 1, r, _, by omega, by go_num, rfl, rfl, Lib.hid ?_, hb1, HA2⟩
                rw [HSS.out (by omega)]
                exact ho1
              case measure => simp [intOf]; omega
      · obtain rfl : k = l.length := by omega
        have HL := Lib.hid hA.out.last
        have hbl := hA.out.len
        clear hA
        go_wp2_with (at_builtin
                     refine app_slice _ rfl (.tmp 81) (.tmp 82) rfl w.heap.size _ bs rfl (hv.out.alloc _) (some ⟨wr.heap.size, 0, none⟩) 1 _ [0] rfl (by simp) (one_lies wr 0 _ rfl) (by simp; omega) (by have := hB.out.size; simp; omega) ?_
                     intro v4 w4 ho4 hg4
                     have hB4 := Lib.hid (below_grown (hB.out.alloc hB.out.size _) hg4 (hv.out.alloc _) (by have := hB.out.size; simp; omega))
                     clear hg4)
        go_ret2
        rw [WriteR, HR.out.1, HR.out.2]
        rw [HL.out] at ho4
        exact ⟨v4, rfl, ho4, hB4.out⟩
  · have HR := Lib.hid (show wrE l = 1 ∧ wrB l = [] by unfold wrE wrB; rw [if_neg hr, if_neg hr]; exact ⟨rfl, rfl⟩)
    rw [Bool.not_eq_true] at hr
    rw [hr] at HP
    clear hr
    go_enter Try.func10, Try.ntmps10
    go_wp2_with (go_at_call 13; refine HP.out.mono ?_; rintro e w1 ⟨rfl, hb1⟩; have HB1 := Lib.hid hb1; clear hb1)
    go_ret2
    rw [WriteR, HR.out.1, HR.out.2]
    exact ⟨_, rfl, Own.nil _ _, HB1.out⟩
end Go.Proofs.Ytfpgmaegpiiagaa
