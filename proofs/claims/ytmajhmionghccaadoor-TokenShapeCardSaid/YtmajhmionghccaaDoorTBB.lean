/-
  The walk of TokenBack, where the source has tokens.
-/
import Derived.Test.YtmajhmionghccaaDoorTBA
import Derived.Test.YtmajhmionghccaaDoorTKU
import Derived.Deep.DeepMust
namespace Go.Proofs.YtmajhmionghccaaDoor
open Go Go.RowKit

def lnI (t : Tk) : Int := (t.ln : Int)
theorem cat_but {w w' : World} {g : Nat} {e T : TypeId} {cs : List Value} (h : CAt w g e cs) (hb : ButT T w w') (hT : e ≠ T) : CAt w' g e cs := (hb g e ⟨_, _, h⟩ hT).trans h
theorem tok_cell {w : World} {g o : Nat} {ts : List Tk} (h : eT.LiesT w (some ⟨g, o, none⟩) ts) {k : Nat} (hk : k < ts.length) : w.cell? ⟨g, o + k * 4 + 1, none⟩ = some (.string (str (ts[k]).tx)) := by
  obtain ⟨g', o', e, _, hc⟩ := h.lies.at_ hk
  cases e
  exact hc 1 _ rfl
theorem sum_le {α : Type} (f : α → Nat) : ∀ {l : List α} {x : α}, x ∈ l → f x ≤ (l.map f).sum
  | y :: l, x, h => by
    rcases List.mem_cons.1 h with rfl | h
    · simp
    · have := sum_le f h
      simp only [List.map_cons, List.sum_cons]
      omega
theorem lines_two {w : World} {A A2 : Option Addr} {LT : List Tk} (h : eT.Lies w w.heap.size A LT) (h2 : eI.Lies w w.heap.size A2 (LT.map lnI)) {k : Nat} (hk : k < LT.length) :
    ∃ g o g' o', A = some ⟨g, o, none⟩ ∧ A2 = some ⟨g', o', none⟩ ∧ ∀ wr, Below w.heap.size w wr → wr.cell? ⟨g, o + k * 4 + 3, none⟩ = some (.int .i64 ((LT[k]).ln : Int)) ∧ wr.cell? ⟨g', o' + k, none⟩ = some (.int .i64 ((LT[k]).ln : Int)) := by
  obtain ⟨g, o, rfl, hg, hc⟩ := h.at_ hk
  obtain ⟨g', o', rfl, hg', hc'⟩ := h2.at_ (j := k) (by rw [List.length_map]; exact hk)
  refine ⟨g, o, g', o', rfl, rfl, fun wr hb => ⟨(hb.cell hg).trans (hc 3 _ rfl), (hb.cell hg').trans ?_⟩⟩
  have := hc' 0 (.int .i64 ((LT[k]).ln : Int)) (by simp [eI, lnI])
  rw [show o' + k = o' + k * eI.sz + 0 by show _ = o' + k * 1 + 0; omega]
  exact this
def blkC : List Value := [.string (str [32]), .string (str [10]), .string (str [9, 32, 13]), .string (str [32, 47, 47, 32, 120, 32, 61, 32, 48, 55, 32, 38, 32, 10]), .string (str [10, 10])]
theorem blkC_get (r : Nat) (h : r < 5) : blkC[r]'h = .string (str (blankL.getD (((some r).getD 0)) [32])) := by
  have : r = 0 ∨ r = 1 ∨ r = 2 ∨ r = 3 ∨ r = 4 := by omega
  rcases this with rfl | rfl | rfl | rfl | rfl <;> rfl
theorem rem5 (x : UInt8) : Int.tmod (x.toNat : Int) 5 = ((x.toNat % 5 : Nat) : Int) := by
  rw [Int.tmod_eq_emod_of_nonneg (by omega)]
  omega
set_option maxRecDepth 100000 in
set_option maxHeartbeats 16000000 in
theorem back_ok (A B : Option Addr) (c d : Nat) (src bw : List UInt8) (w : World) (hA : Lies w w.heap.size A src) (hBw : Lies w w.heap.size B bw) (hL : Laid w) (hn : src.length ≤ 4096) (hbl : bw.length ≤ 140737488355328) (ts : List Tk) (hs : scanP src = .ok ts) :
    Calls Tryd.prog 4 #[.slice A src.length c, .slice B bw.length d] w (TrueR11 w) := by
  have hni : (src.length : Int) ≤ 4096 := by omega
  have hbli : (bw.length : Int) ≤ 140737488355328 := by omega
  obtain ⟨hok, hsum, htl⟩ := scan_all _ _ _ _ (Nat.le_refl _) hs
  have hsk := sk_len false src
  have H1 := Lib.hid (scan_ok (c := c) hA hL (by omega) hs)
  have HL := Lib.hid hL
  have HBw := Lib.hid hBw
  have HTL := Lib.hid (fun t (ht : t ∈ ts) => (show t.tx.length ≤ 4096 from Nat.le_trans (Nat.le_trans (sum_le (fun t : Tk => t.tx.length) ht) hsum) (by omega)))
  have htl2 : ts.length ≤ 4096 := by omega
  have HOK := Lib.hid hok
  have HPX := Lib.hid (fun k => (show ∀ q ∈ (psOf bw 0 ts).take k, nl q.2.tx = 0 from fun q hq => nl_zero (tok_nl (hok _ (psOf_in bw 0 ts q (List.mem_of_mem_take hq)).2))))
  have HNX := Lib.hid (fun k (hk : k < ts.length) => (show nl (ts[k]).tx = 0 from nl_zero (tok_nl (hok _ (List.getElem_mem hk)))))
  have HLY := Lib.hid (fun k => (show (lay ((psOf bw 0 ts).take k)).length ≤ 16834560 from Nat.le_trans (lay_len _ fun p hp => ⟨(psOf_in bw 0 ts p (List.mem_of_mem_take hp)).1, HTL.out _ (psOf_in bw 0 ts p (List.mem_of_mem_take hp)).2⟩) (by rw [List.length_take, psOf_len]; omega)))
  clear hA hBw hL hs hok hsum hsk htl
  go_enter Tryd.func4, Tryd.ntmps4
  go_wp2_with fail
  refine H1.out.mono ?_
  rintro e w1 ⟨hb1, A1, c1, rfl, hc1, hc1n, hT1⟩
  have hbX : Below w1.heap.size w1 (w1.alloc (.cells #[.string ⟨#[32]⟩, .string ⟨#[10]⟩, .string ⟨#[9, 32, 13]⟩, .string ⟨#[32, 47, 47, 32, 120, 32, 61, 32, 48, 55, 32, 38, 32, 10]⟩, .string ⟨#[10, 10]⟩] 9)) := (Below.refl _ _).alloc (Nat.le_refl _) _
  have HTX0 := Lib.hid (hT1.below hbX)
  have HCX0 := Lib.hid (show CAt _ w1.heap.size 9 blkC from heap_alloc_new w1 (.cells #[.string ⟨#[32]⟩, .string ⟨#[10]⟩, .string ⟨#[9, 32, 13]⟩, .string ⟨#[32, 47, 47, 32, 120, 32, 61, 32, 48, 55, 32, 38, 32, 10]⟩, .string ⟨#[10, 10]⟩] 9))
  have HBX0 := Lib.hid (hb1.trans (hbX.mono hb1.size))
  clear H1 hb1 hT1 hbX
  go_wp2_with fail
  go_loopw [9, 10, 11, 12] (fun v9 v10 ln i wr => ∃ (k : Nat) (A9 : Option Addr) (n9 c9 : Nat) (A10 : Option Addr) (n10 c10 : Nat), k ≤ ts.length ∧ v9 = .slice A9 n9 c9 ∧ v10 = .slice A10 n10 c10 ∧ i = .int .i64 k ∧ ln = .int .i64 ((1 + nl (lay ((psOf bw 0 ts).take k)) : Nat) : Int) ∧ Hid ((lay ((psOf bw 0 ts).take k)).length = n9) ∧ Hid (eB.Own wr w.heap.size (.slice A9 n9 c9) (lay ((psOf bw 0 ts).take k))) ∧ Hid (((linesT 1 ((psOf bw 0 ts).take k)).map lnI).length = n10) ∧ Hid (eI.Own wr w.heap.size (.slice A10 n10 c10) ((linesT 1 ((psOf bw 0 ts).take k)).map lnI)) ∧ Hid (Below w.heap.size w wr) ∧ Hid (CAt wr w1.heap.size 9 blkC) ∧ Hid (eT.LiesT wr A1 ts)) (fun _ _ _ i _ => ts.length - (intOf i).toNat)
  case atStart => exact ⟨0, none, 0, 0, none, 0, 0, by omega, rfl, rfl, rfl, rfl, rfl, El.Own.nil _ _, rfl, El.Own.nil _ _, HBX0, HCX0, HTX0⟩
  case round =>
    obtain ⟨k, A9, n9, c9, A10, n10, c10, hk, rfl, rfl, rfl, rfl, hn9, ho, hn10, hi, hB, hC, hT⟩ := hrel
    by_cases hlt : k < ts.length
    · obtain ⟨g, o, rfl, hg, hcell⟩ := hT.out.lies.at_ hlt
      clear hcell hg
      obtain ⟨S, HS⟩ : ∃ S, Hid (blk bw k = S) := ⟨_, rfl⟩
      have HSB : Hid (S ∈ blankL) := by have := blk_in bw k; rw [HS.out] at this; exact this
      have HTX := Lib.hid (HTL.out (ts[k]) (List.getElem_mem hlt))
      have HLL := Lib.hid (show (lay ((psOf bw 0 ts).take k)).length ≤ 16834560 from HLY.out k)
      have HLM := Lib.hid (show ((linesT 1 ((psOf bw 0 ts).take k)).map lnI).length ≤ 4096 by
        rw [List.length_map, lines_len, List.length_take, psOf_len]; omega)
      obtain ⟨q, HQ⟩ : ∃ q, Hid (1 + nl (lay ((psOf bw 0 ts).take k)) = q) := ⟨_, rfl⟩
      have hq20 : q ≤ 16834561 := by have h1 := nl_le (lay ((psOf bw 0 ts).take k)); have h2 := HLL.out; have h3 := HQ.out; omega
      rw [HQ.out]
      have cb0 : wr.cell? ⟨w1.heap.size, 0, none⟩ = some (.string (str [32])) := hC.out.cell (j := 0) (by decide)
      have HI5X := Lib.hid (fun (w5 : World) (v : Value) (h : eI.Own w5 w.heap.size v (((linesT 1 ((psOf bw 0 ts).take k)).map lnI) ++ [(q : Int) + (nl S : Int)])) => (show eI.Own w5 w.heap.size v ((linesT 1 ((psOf bw 0 ts).take (k + 1))).map lnI) by
        have e1 := psOf_take bw 0 ts k hlt
        rw [Nat.zero_add, HS.out] at e1
        rw [e1, lines_snoc _ _ _ (HPX.out k), List.map_append]
        have hq := HQ.out
        show eI.Own w5 w.heap.size v (_ ++ [((1 + nl (lay ((psOf bw 0 ts).take k)) + nl S : Nat) : Int)])
        rw [hq, Int.natCast_add]
        exact h))
      have HLE := Lib.hid (show ((linesT 1 ((psOf bw 0 ts).take (k + 1))).map lnI).length = (((linesT 1 ((psOf bw 0 ts).take k)).map lnI) ++ [(q : Int) + (nl S : Int)]).length by
        rw [List.length_append, List.length_map, List.length_map, lines_len, lines_len, List.length_take, List.length_take, psOf_len, List.length_singleton]; omega)
      by_cases hbw : k < bw.length
      · have hbwi : (k : Int) < (bw.length : Int) := by omega
        obtain ⟨gb, ob, rfl, hgb, hcb⟩ := (HBw.out.below hB.out).at_ hbw
        have hrem : Int.tmod ((bw[k]).toNat : Int) 5 = (((bw[k]).toNat % 5 : Nat) : Int) := rem5 (bw[k])
        have hx0 : (0 : Int) ≤ ((bw[k]).toNat : Int) := by omega
        have hr5 : (bw[k]).toNat % 5 < 5 := Nat.mod_lt _ (by omega)
        have cbr : wr.cell? ⟨w1.heap.size, (bw[k]).toNat % 5, none⟩ = some (.string (str S)) := by
          rw [hC.out.cell (j := (bw[k]).toNat % 5) hr5]
          have h1 := HS.out
          unfold blk at h1
          rw [List.getElem?_eq_getElem hbw] at h1
          rw [← h1]
          exact congrArg some (blkC_get _ hr5)
        have hx8 : ((bw[k]).toNat : Int) ≤ 255 := by have := (bw[k]).toNat_lt; omega
        generalize hR : (bw[k]).toNat % 5 = R at *
        clear hR
        generalize ((bw[k]).toNat : Int) = X at *
        have HBL1 := Lib.hid (show S.length ≤ 14 from blank_len S HSB.out)
        go_wp2_with (at_builtin
                     refine app_eStr _ rfl (.tmp 62) (.tmp 63) rfl w.heap.size _ (lay ((psOf bw 0 ts).take k)) rfl ho.out S rfl (by have := HBL1.out; have := HLL.out; omega) hB.out.size ?_
                     intro v9 w2 ho2 hg2
                     have HG2 := Lib.hid hg2
                     have HO2 := Lib.hid ho2
                     obtain ⟨A92, n92, c92, rfl, hn92, _, _, _⟩ := ho2.formN
                     clear ho2 hg2)
        have HBT2 := Lib.hid (ButT.grown HG2.out (fun q e => ho.out.has q e))
        have HB2 := Lib.hid (El.below_grown hB.out HG2.out ho.out hB.out.size)
        have HI2 := Lib.hid (hi.out.but HBT2.out (by decide))
        have HT2 := Lib.hid (hT.out.but HBT2.out (by decide))
        have HC2 := Lib.hid (cat_but hC.out HBT2.out (by decide))
        clear ho hB hi hT hC HG2 HBT2
        have hss := str_sz S
        have hsl : S.length ≤ 14 := HBL1.out
        go_loop [11, 14] (fun ln j => ∃ m : Nat, m ≤ S.length ∧ j = .int .i64 m ∧ ln = .int .i64 ((q + nl (S.take m) : Nat) : Int)) (fun _ j => S.length - (intOf j).toNat)
        case atStart => exact ⟨0, by omega, rfl, rfl⟩
        case round =>
          obtain ⟨m, hm, rfl, rfl⟩ := hrel
          have hq3 : nl (S.take m) ≤ 14 := by have := nl_take_le S m; omega
          by_cases hlt2 : m < S.length
          · have hix := run_idx_str w2 S m hlt2
            have hst := Lib.hid (nl_take hlt2)
            generalize nl (S.take m) = r at *
            by_cases hx : S[m] = 10
            · have hs1 := Lib.hid (show nl (S.take (m + 1)) = r + 1 by rw [hst.out, if_pos hx])
              rw [hx] at hix
              replace hix : (Instr.index 9 (.string (str S)) (.int .i64 m)).run Tryd.prog w2 = .ok (.int .u8 10) w2 := hix
              clear hx hst
              go_wp2_with fail
              go_round
              case rel => exact ⟨m + 1, by omega, by go_num, by rw [hs1.out]; go_num⟩
              case measure => simp [intOf]; omega
            · have hs1 := Lib.hid (show nl (S.take (m + 1)) = r by rw [hst.out, if_neg hx]; rfl)
              have hx2 : ¬ ((S[m]).toNat : Int) = 10 := fun e => hx (UInt8.toNat_inj.1 (show (S[m]).toNat = 10 by omega))
              clear hx hst
              generalize ((S[m]).toNat : Int) = X at *
              go_wp2_with fail
              go_round
              case rel => exact ⟨m + 1, by omega, by go_num, by rw [hs1.out]⟩
              case measure => simp [intOf]; omega
          · obtain rfl : m = S.length := by omega
            rw [List.take_length]
            rw [List.take_length] at hq3
            clear hlt2
            have HI3 := Lib.hid (HI2.out.below ((Below.refl w2.heap.size w2).alloc (Nat.le_refl _) (.cells #[.int .i64 ((q : Int) + (nl S : Int))] 3)))
            have hz2 : w.heap.size ≤ w2.heap.size := HB2.out.size
            have hal : Below w2.heap.size w2 (w2.alloc (.cells #[.int .i64 ((q : Int) + (nl S : Int))] 3)) := (Below.refl _ _).alloc (Nat.le_refl _) _
            have HT3 := Lib.hid (HT2.out.below hal)
            have HC3 := Lib.hid (HC2.out.below hal HC2.out.lt)
            have HO3 := Lib.hid (HO2.out.below hal)
            have HB3 := Lib.hid (HB2.out.trans (hal.mono hz2))
            have HZ3 := Lib.hid (HB3.out.size)
            have HLK := hlt
            clear hal HI2 HT2 HC2 HO2 HB2
            go_wp2_with (first
              | (at_builtin
                 refine El.app1 eI _ rfl 33 (.int .i64 0) 8 Tryd.underlying33 int_info rfl (by omega) (by decide) (.tmp 77) (.tmp 79) rfl w.heap.size _ ((linesT 1 ((psOf bw 0 ts).take k)).map lnI) rfl HI3.out w2.heap.size 1 ((q : Int) + (nl S : Int)) rfl 3 (heap_alloc_new w2 _) (by have := HLM.out; omega) HZ3.out ?_
                 intro v10 w4 ho4 hg4
                 have HBT4 := Lib.hid (ButT.grown hg4 (fun q e => HI3.out.has q e))
                 have HB4 := Lib.hid (El.below_grown HB3.out hg4 HI3.out HZ3.out)
                 have HT4 := Lib.hid (HT3.out.but HBT4.out (by decide))
                 have HC4 := Lib.hid (cat_but HC3.out HBT4.out (by decide))
                 have HO4 := Lib.hid (HO3.out.but HBT4.out (by decide))
                 have HI4 := Lib.hid ho4
                 obtain ⟨A10b, n10b, c10b, rfl, hn10b, _, _, _⟩ := ho4.formN
                 have ct := tok_cell HT4.out hlt
                 clear ho4 hg4)
              | (at_builtin
                 refine app_eStr _ rfl (.tmp 81) (.tmp 86) rfl w.heap.size _ (lay ((psOf bw 0 ts).take k) ++ S) rfl HO4.out (ts[k]).tx rfl (by rw [List.length_append]; have := HBL1.out; have := HLL.out; have := HTX.out; omega) HB4.out.size ?_
                 intro v9c w5 ho5 hg5
                 have HBT5 := Lib.hid (ButT.grown hg5 (fun q e => HO4.out.has q e))
                 have HB5 := Lib.hid (El.below_grown HB4.out hg5 HO4.out HB4.out.size)
                 have HT5 := Lib.hid (HT4.out.but HBT5.out (by decide))
                 have HC5 := Lib.hid (cat_but HC4.out HBT5.out (by decide))
                 have HI5 := Lib.hid (HI4.out.but HBT5.out (by decide))
                 have HO5 := Lib.hid ho5
                 obtain ⟨A95, n95, c95, rfl, hn95, _, _, _⟩ := ho5.formN
                 clear ho5 hg5))
            go_roundw
            case rel =>
              have e1 := psOf_take bw 0 ts k hlt
              rw [Nat.zero_add, HS.out] at e1
              have e2 : lay ((psOf bw 0 ts).take (k + 1)) = (lay ((psOf bw 0 ts).take k) ++ S) ++ (ts[k]).tx := by rw [e1, lay_snoc]
              have e3 : nl (lay ((psOf bw 0 ts).take (k + 1))) = nl (lay ((psOf bw 0 ts).take k)) + nl S := by rw [e2, nl_append, nl_append, HNX.out k hlt, Nat.add_zero]
              refine ⟨k + 1, A95, n95, c95, A10b, n10b, c10b, by omega, rfl, rfl, by go_num, ?_, (by rw [e2]; exact hn95), ?_, (HLE.out.trans hn10b), HI5X.out _ _ HI5.out, HB5.out, HC5.out, HT5.out⟩
              · rw [e3]
                have := HQ.out
                exact congrArg (Value.int .i64) (by omega)
              · rw [e2]; exact HO5.out
            case measure => simp [intOf]; omega
      · have hbwi : (bw.length : Int) ≤ (k : Int) := by omega
        have hS32 : S = [32] := by
          have h1 := HS.out
          unfold blk at h1
          rw [List.getElem?_eq_none (by omega)] at h1
          exact h1.symm
        rw [← hS32] at cb0
        clear hS32
        have HBL1 := Lib.hid (show S.length ≤ 14 from blank_len S HSB.out)
        go_wp2_with (at_builtin
                     refine app_eStr _ rfl (.tmp 62) (.tmp 63) rfl w.heap.size _ (lay ((psOf bw 0 ts).take k)) rfl ho.out S rfl (by have := HBL1.out; have := HLL.out; omega) hB.out.size ?_
                     intro v9 w2 ho2 hg2
                     have HG2 := Lib.hid hg2
                     have HO2 := Lib.hid ho2
                     obtain ⟨A92, n92, c92, rfl, hn92, _, _, _⟩ := ho2.formN
                     clear ho2 hg2)
        have HBT2 := Lib.hid (ButT.grown HG2.out (fun q e => ho.out.has q e))
        have HB2 := Lib.hid (El.below_grown hB.out HG2.out ho.out hB.out.size)
        have HI2 := Lib.hid (hi.out.but HBT2.out (by decide))
        have HT2 := Lib.hid (hT.out.but HBT2.out (by decide))
        have HC2 := Lib.hid (cat_but hC.out HBT2.out (by decide))
        clear ho hB hi hT hC HG2 HBT2
        have hss := str_sz S
        have hsl : S.length ≤ 14 := HBL1.out
        go_loop [11, 14] (fun ln j => ∃ m : Nat, m ≤ S.length ∧ j = .int .i64 m ∧ ln = .int .i64 ((q + nl (S.take m) : Nat) : Int)) (fun _ j => S.length - (intOf j).toNat)
        case atStart => exact ⟨0, by omega, rfl, rfl⟩
        case round =>
          obtain ⟨m, hm, rfl, rfl⟩ := hrel
          have hq3 : nl (S.take m) ≤ 14 := by have := nl_take_le S m; omega
          by_cases hlt2 : m < S.length
          · have hix := run_idx_str w2 S m hlt2
            have hst := Lib.hid (nl_take hlt2)
            generalize nl (S.take m) = r at *
            by_cases hx : S[m] = 10
            · have hs1 := Lib.hid (show nl (S.take (m + 1)) = r + 1 by rw [hst.out, if_pos hx])
              rw [hx] at hix
              replace hix : (Instr.index 9 (.string (str S)) (.int .i64 m)).run Tryd.prog w2 = .ok (.int .u8 10) w2 := hix
              clear hx hst
              go_wp2_with fail
              go_round
              case rel => exact ⟨m + 1, by omega, by go_num, by rw [hs1.out]; go_num⟩
              case measure => simp [intOf]; omega
            · have hs1 := Lib.hid (show nl (S.take (m + 1)) = r by rw [hst.out, if_neg hx]; rfl)
              have hx2 : ¬ ((S[m]).toNat : Int) = 10 := fun e => hx (UInt8.toNat_inj.1 (show (S[m]).toNat = 10 by omega))
              clear hx hst
              generalize ((S[m]).toNat : Int) = X at *
              go_wp2_with fail
              go_round
              case rel => exact ⟨m + 1, by omega, by go_num, by rw [hs1.out]⟩
              case measure => simp [intOf]; omega
          · obtain rfl : m = S.length := by omega
            rw [List.take_length]
            rw [List.take_length] at hq3
            clear hlt2
            have HI3 := Lib.hid (HI2.out.below ((Below.refl w2.heap.size w2).alloc (Nat.le_refl _) (.cells #[.int .i64 ((q : Int) + (nl S : Int))] 3)))
            have hz2 : w.heap.size ≤ w2.heap.size := HB2.out.size
            have hal : Below w2.heap.size w2 (w2.alloc (.cells #[.int .i64 ((q : Int) + (nl S : Int))] 3)) := (Below.refl _ _).alloc (Nat.le_refl _) _
            have HT3 := Lib.hid (HT2.out.below hal)
            have HC3 := Lib.hid (HC2.out.below hal HC2.out.lt)
            have HO3 := Lib.hid (HO2.out.below hal)
            have HB3 := Lib.hid (HB2.out.trans (hal.mono hz2))
            have HZ3 := Lib.hid (HB3.out.size)
            have HLK := hlt
            clear hal HI2 HT2 HC2 HO2 HB2
            go_wp2_with (first
              | (at_builtin
                 refine El.app1 eI _ rfl 33 (.int .i64 0) 8 Tryd.underlying33 int_info rfl (by omega) (by decide) (.tmp 77) (.tmp 79) rfl w.heap.size _ ((linesT 1 ((psOf bw 0 ts).take k)).map lnI) rfl HI3.out w2.heap.size 1 ((q : Int) + (nl S : Int)) rfl 3 (heap_alloc_new w2 _) (by have := HLM.out; omega) HZ3.out ?_
                 intro v10 w4 ho4 hg4
                 have HBT4 := Lib.hid (ButT.grown hg4 (fun q e => HI3.out.has q e))
                 have HB4 := Lib.hid (El.below_grown HB3.out hg4 HI3.out HZ3.out)
                 have HT4 := Lib.hid (HT3.out.but HBT4.out (by decide))
                 have HC4 := Lib.hid (cat_but HC3.out HBT4.out (by decide))
                 have HO4 := Lib.hid (HO3.out.but HBT4.out (by decide))
                 have HI4 := Lib.hid ho4
                 obtain ⟨A10b, n10b, c10b, rfl, hn10b, _, _, _⟩ := ho4.formN
                 have ct := tok_cell HT4.out hlt
                 clear ho4 hg4)
              | (at_builtin
                 refine app_eStr _ rfl (.tmp 81) (.tmp 86) rfl w.heap.size _ (lay ((psOf bw 0 ts).take k) ++ S) rfl HO4.out (ts[k]).tx rfl (by rw [List.length_append]; have := HBL1.out; have := HLL.out; have := HTX.out; omega) HB4.out.size ?_
                 intro v9c w5 ho5 hg5
                 have HBT5 := Lib.hid (ButT.grown hg5 (fun q e => HO4.out.has q e))
                 have HB5 := Lib.hid (El.below_grown HB4.out hg5 HO4.out HB4.out.size)
                 have HT5 := Lib.hid (HT4.out.but HBT5.out (by decide))
                 have HC5 := Lib.hid (cat_but HC4.out HBT5.out (by decide))
                 have HI5 := Lib.hid (HI4.out.but HBT5.out (by decide))
                 have HO5 := Lib.hid ho5
                 obtain ⟨A95, n95, c95, rfl, hn95, _, _, _⟩ := ho5.formN
                 clear ho5 hg5))
            go_roundw
            case rel =>
              have e1 := psOf_take bw 0 ts k hlt
              rw [Nat.zero_add, HS.out] at e1
              have e2 : lay ((psOf bw 0 ts).take (k + 1)) = (lay ((psOf bw 0 ts).take k) ++ S) ++ (ts[k]).tx := by rw [e1, lay_snoc]
              have e3 : nl (lay ((psOf bw 0 ts).take (k + 1))) = nl (lay ((psOf bw 0 ts).take k)) + nl S := by rw [e2, nl_append, nl_append, HNX.out k hlt, Nat.add_zero]
              refine ⟨k + 1, A95, n95, c95, A10b, n10b, c10b, by omega, rfl, rfl, by go_num, ?_, (by rw [e2]; exact hn95), ?_, (HLE.out.trans hn10b), HI5X.out _ _ HI5.out, HB5.out, HC5.out, HT5.out⟩
              · rw [e3]
                have := HQ.out
                exact congrArg (Value.int .i64) (by omega)
              · rw [e2]; exact HO5.out
            case measure => simp [intOf]; omega
    · obtain rfl : k = ts.length := by omega
      clear hlt
      have hP : (psOf bw 0 ts).take ts.length = psOf bw 0 ts := List.take_of_length_le (by rw [psOf_len]; omega)
      rw [hP] at hn9 ho hn10 hi ⊢
      have HZ := hB.out.size
      have hq3 : nl (lay (psOf bw 0 ts)) ≤ 16834560 := by have h1 := nl_le (lay (psOf bw 0 ts)); have h2 := HLY.out ts.length; rw [hP] at h2; omega
      have hln : (linesT 1 (psOf bw 0 ts)).length = ts.length := by rw [lines_len, psOf_len]
      have hn10b : ts.length = n10 := by have := hn10.out; rw [List.length_map, hln] at this; exact this
      have hn9b := hn9.out
      have hn9c : n9 ≤ 16834560 := by have h2 := HLY.out ts.length; rw [hP] at h2; omega
      by_cases hbig : 16384 < n9
      · have hbi : (16384 : Int) < (n9 : Int) := by omega
        have HW := Lib.hid (works_any wr (HL.out.below hB.out))
        generalize nl (lay (psOf bw 0 ts)) = Q at *
        clear HBw HTL HOK HPX HNX HLY hn9 hn10 ho hi hC hT hP hn9b
        go_wp2_with fail
        refine HW.out.mono ?_
        rintro e w9 ⟨rfl, hb9⟩
        have HB9 := Lib.hid (hB.out.trans (hb9.mono HZ))
        clear HW hb9
        go_wp2_with fail
        go_ret
        exact ⟨rfl, HB9.out⟩
      · have hbi : (n9 : Int) ≤ 16384 := by omega
        have hform : Lies wr wr.heap.size A9 (lay (psOf bw 0 ts)) := by
          obtain ⟨A', c', e, h1, h2, h3⟩ := ho.out.form
          injection e with e1 e2 e3
          subst e1
          exact eB_to h3.lies
        have hformI : eI.LiesT wr A10 ((linesT 1 (psOf bw 0 ts)).map lnI) := by
          obtain ⟨A', c', e, h1, h2, h3⟩ := hi.out.form
          injection e with e1 e2 e3
          subst e1
          exact h3
        have HS := Lib.hid (scan_ok (c := c9) hform (HL.out.below hB.out) (by omega) (scanP_lay (fun p hp => (psOf_in bw 0 ts p hp).1) (fun p hp => HOK.out _ (psOf_in bw 0 ts p hp).2)))
        rw [hn9b] at HS
        have HFI := Lib.hid hformI
        have HKY := Lib.hid (show ts.map Tk.key = (linesT 1 (psOf bw 0 ts)).map Tk.key by rw [lines_key, psOf_snd])
        have HT := Lib.hid hT.out
        clear HBw HTL HOK HPX HNX HLY hn9 hn10 ho hi hC hT hP hn9b hform hformI
        generalize nl (lay (psOf bw 0 ts)) = Q at *
        generalize linesT 1 (psOf bw 0 ts) = LT at *
        rw [hln] at HS
        have HLN := Lib.hid hln
        have HN10 := Lib.hid hn10b
        clear hln hn10b
        go_wp2_with fail
        refine HS.out.mono ?_
        rintro e w2 ⟨hb2, A2, c2, rfl, hc2, hc2n, hT2⟩
        have HB2 := Lib.hid (hB.out.trans (hb2.mono HZ))
        have HK := Lib.hid (kinds11_any A1 A2 c1 c2 ts LT w2 (by omega) HKY.out (HT.out.below hb2).lies hT2.lies)
        rw [HLN.out] at HK
        have H2 := Lib.hid (fun k (hk : k < LT.length) => lines_two hT2.lies (HFI.out.below hb2).lies hk)
        clear HS hb2 hT2 HFI HT
        go_wp2_with fail
        refine HK.out.mono ?_
        rintro e w3 ⟨rfl, hb3⟩
        have HB3 := Lib.hid hb3
        clear HK hb3
        go_wp2_with fail
        go_loopw [18] (fun i wr2 => ∃ k : Nat, k ≤ ts.length ∧ i = .int .i64 k ∧ Hid (Below w2.heap.size w2 wr2)) (fun i _ => ts.length - (intOf i).toNat)
        case atStart => exact ⟨0, by omega, rfl, HB3.out⟩
        case round =>
          obtain ⟨k, hk, rfl, hBr⟩ := hrel
          by_cases hlt : k < ts.length
          · have hkL : k < LT.length := by have := HLN.out; omega
            obtain ⟨g, o, g', o', rfl, rfl, hcc⟩ := H2.out k hkL
            obtain ⟨hcr, hcr'⟩ := hcc _ hBr.out
            clear hcc H2
            generalize (LT[k]).ln = L at *
            have hlt10 : k < n10 := by have := HN10.out; omega
            go_wp2
            go_region
            go_wp2
            go_roundw
            case rel => exact ⟨k + 1, by omega, by go_num, hBr.out.drew⟩
            case measure => simp [intOf]; omega
          · obtain rfl : k = ts.length := by omega
            have HBR := Lib.hid (HB2.out.trans (hBr.out.mono HB2.out.size))
            have HW := Lib.hid (works_any wr (HL.out.below HBR.out))
            go_wp2_with fail
            refine HW.out.mono ?_
            rintro e w9 ⟨rfl, hb9⟩
            have HB9 := Lib.hid (HBR.out.trans (hb9.mono HBR.out.size))
            clear HW hb9
            go_wp2_with fail
            go_ret
            exact ⟨rfl, HB9.out⟩
end Go.Proofs.YtmajhmionghccaaDoor
