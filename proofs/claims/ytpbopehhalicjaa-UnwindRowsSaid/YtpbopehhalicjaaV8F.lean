/-
  The walk of UnwindRows.
-/
import Derived.Test.YtpbopehhalicjaaV8H
import Derived.BigQuiet
import Derived.WalkSpells
namespace Go.Proofs.Ytpbopehhalicjaa
open Go Go.RowKit

set_option maxRecDepth 100000 in
set_option maxHeartbeats 60000000 in
theorem unwindRows_any (A0 A1 A2 : Option Addr) (c0 c1 c2 : Nat) (us ss : List UInt8) (st : List Int) (w : World) (h0 : Lies w w.heap.size A0 us) (h1 : Lies w w.heap.size A1 ss) (h2 : NLies7 w w.heap.size A2 st) :
    Calls Try.prog 3 #[.slice A0 us.length c0, .slice A1 ss.length c1, .slice A2 st.length c2] w (BoolR true w) := by
  by_cases hu : 20 < us.length
  ·
    as_aux_lemma =>
      have hui : (20 : Int) < (us.length : Int) := by omega
      go_enter Try.func3, Try.ntmps3
      go_wp2_with fail
      refine (works8_any _).mono ?_
      rintro e w' ⟨rfl, hb⟩
      go_wp2_with fail
      go_ret
      exact ⟨rfl, hb⟩
  by_cases hs : ss.length < us.length
  ·
    as_aux_lemma =>
      have hui : (us.length : Int) ≤ 20 := by omega
      have hsi : (ss.length : Int) < (us.length : Int) := by omega
      go_enter Try.func3, Try.ntmps3
      go_wp2_with fail
      refine (works8_any _).mono ?_
      rintro e w' ⟨rfl, hb⟩
      go_wp2_with fail
      go_ret
      exact ⟨rfl, hb⟩
  by_cases ht : st.length < 6
  ·
    as_aux_lemma =>
      have hui : (us.length : Int) ≤ 20 := by omega
      have hsi : (us.length : Int) ≤ (ss.length : Int) := by omega
      have hti : (st.length : Int) < 6 := by omega
      go_enter Try.func3, Try.ntmps3
      go_wp2_with fail
      refine (works8_any _).mono ?_
      rintro e w' ⟨rfl, hb⟩
      go_wp2_with fail
      go_ret
      exact ⟨rfl, hb⟩
  have hui : (us.length : Int) ≤ 20 := by omega
  have hsi : (us.length : Int) ≤ (ss.length : Int) := by omega
  have hti : (6 : Int) ≤ (st.length : Int) := by omega
  have HL0 := Lib.hid h0
  have HL1 := Lib.hid h1
  have HL2 := Lib.hid h2
  clear h0 h1 h2
  go_enter Try.func3, Try.ntmps3
  go_wp2_with (first
    | (at_make
       refine make_row _ rfl 23 2 (.const (.int .i64 600)) (.const (.int .i64 600)) rfl _ 1 8 Try.underlying23 i64_info 600 _ _ rfl rfl rfl rfl (by omega) (by omega) ?_
       intro w1 hk1 hb1 hs1
       have HK1 := Lib.hid hk1
       have HB1 := Lib.hid hb1
       have hz1 := hs1
       clear hk1 hb1 hs1)
    | (at_make
       refine make_row _ rfl 23 2 (.const (.int .i64 16)) (.const (.int .i64 16)) rfl _ 1 8 Try.underlying23 i64_info 16 _ _ rfl rfl rfl rfl (by omega) (by omega) ?_
       intro w2 hk2 hb2 hs2
       have HK2 := Lib.hid hk2
       have HB2 := Lib.hid hb2
       have hz2 := hs2
       clear hk2 hb2 hs2))
  have e600 : (madeCells (Value.int .i64 0).cells (600 * 1)).toList = (List.replicate 600 (0 : Int)).map n7 := by kernel_rfl
  have e16 : (madeCells (Value.int .i64 0).cells (16 * 1)).toList = (List.replicate 16 (0 : Int)).map n7 := by kernel_rfl
  rw [e600] at HK1
  rw [e16] at HK2
  obtain ⟨P, hPw, hPW, hPR, hPB⟩ : ∃ P : Pla, P.w = w ∧ P.gW = w.heap.size ∧ P.gR = w1.heap.size ∧ P.B = w2.heap.size := ⟨⟨w, w.heap.size, w1.heap.size, w2.heap.size, Nat.le_refl _, hz1, hz2⟩, rfl, rfl, rfl, rfl⟩
  have HRW := Lib.hid (show Rw P w2 (List.replicate 600 0) (List.replicate 16 0) (.slice none 0 0) (.slice none 0 0) [] [] from
    ⟨by rw [hPW]; exact HK1.out.below HB2.out hz1, by rw [hPR]; exact HK2.out, SpOwn.nil _ _, WOwn.nil _ _, by rw [hPw]; exact HB1.out.trans (HB2.out.mono (by omega)), by omega⟩)
  rw [← hPW, ← hPR]
  have hp1 := P.h1
  have hp2 := P.h2
  have hp3 := P.h3
  rw [hPw] at hp1
  clear e600 e16 HK1 HK2 HB1 HB2 hPW hPR hPB hz1 hz2
  go_loopw [9] (fun i wr => ∃ (k : Nat) (R : List Int), k ≤ 6 ∧ R.length = 16 ∧ i = .int .i64 k ∧ Hid (Rw P wr (List.replicate 600 0) R (.slice none 0 0) (.slice none 0 0) [] [])) (fun i _ => 6 - (intOf i).toNat)
  case atStart => exact ⟨0, _, by omega, by simp, rfl, HRW⟩
  case round =>
    obtain ⟨k, R, hk, hR16, rfl, hRW⟩ := hrel
    clear HRW
    by_cases hlt : k < 6
    · have hki : (k : Int) < 6 := by omega
      as_aux_lemma =>
        obtain ⟨g2, o2, rfl, hg2, hc2⟩ := (HL2.out.below (by rw [← hPw]; exact hRW.out.hb)) (by omega)
        have q2 := hc2 k (by omega)
        have qf := hRW.out.hR.frozen
        have q3 := hRW.out.hR.cell (j := 6 + k) (by simp; omega)
        simp only [List.getElem_map, n7] at q3
        have HS := Lib.hid (hRW.out.setR (6 + k) (st[k]'(by omega)))
        clear hc2
        go_wp2_with fail
        go_roundw
        case rel => exact ⟨k + 1, R.set (6 + k) (st[k]'(by omega)), by omega, by simp [hR16], by go_num, HS⟩
        case measure => simp [intOf]; omega
    · have hki : (6 : Int) ≤ k := by omega
      have q3 := hRW.out.hR.cell (j := 15) (by simp; omega)
      have qf := hRW.out.hR.frozen
      simp only [List.getElem_map, n7] at q3
      have HS := Lib.hid (hRW.out.setR 15 600)
      have HS2 := HS
      go_wp2_with fail
      clear HL2 qf q3 HS
      have HRW := Lib.hid HS2.out
      go_loopw [10, 11, 12] (fun vt vw i wx => ∃ (n : Nat) (was : List (List Int)) (R : List Int) (ls : List Sp) (bs : List Nat) (Ws : List Int), n ≤ us.length ∧ i = .int .i64 n ∧ Hid (Laid n Ws (was ++ [R]) ls bs) ∧ Hid (Rw P wx Ws R vt vw ls was)) (fun _ _ i _ => 20 - (intOf i).toNat)
      case atStart => exact ⟨0, [], R.set 15 600, [], [600], List.replicate 600 0, by omega, rfl, laid_start hR16, HRW⟩
      case round =>
        obtain ⟨n, was, R, ls, bs, Ws, hn, rfl, hLaid, hRW⟩ := hrel
        clear HRW
        by_cases hlt : n < us.length
        · have hni : (n : Int) < (us.length : Int) := by omega
          as_aux_lemma =>
            obtain ⟨g0, o0, rfl, hg0, hcu⟩ := HL0.out (by omega)
            obtain ⟨g1, o1, rfl, hg1, hcs⟩ := HL1.out (by omega)
            obtain ⟨hwl, hR16, hW6, hll, b, hb, hb0, hb1, h15⟩ := hLaid.out.now (by omega)
            have hbt := hRW.out.hs
            obtain ⟨bm, rfl⟩ : ∃ bm, b = bm + 1 := ⟨b - 1, by omega⟩
            obtain ⟨vs0, hvl0, hvg0⟩ := hRW.out.hw.row
            obtain ⟨Aw, nw, cw, rfl, _, _, _⟩ := hvg0.cellsN
            clear hvg0 hvl0
            have q0 := hcu n hlt
            have q1 := hcs n (by omega)
            rw [← hPw] at q0 q1 hg0 hg1
            have HCU := Lib.hid (fun wz (q : Below P.w.heap.size P.w wz) => (q.cell (p := ⟨g0, o0 + n, none⟩) hg0).trans q0)
            have HCS := Lib.hid (fun wz (q : Below P.w.heap.size P.w wz) => (q.cell (p := ⟨g1, o1 + n, none⟩) hg1).trans q1)
            have HB := Lib.hid (And.intro hb h15)
            clear hcu hcs hb h15 q0 q1
            go_upto_if 93 with (first
              | (at_builtin
                 refine app_r16 _ rfl (.tmp 67) (.tmp 68) rfl wr.heap.size _ rfl (SRow.empty wr) (some ⟨P.gR, 0, none⟩) 16 _ R hR16 rfl (by simp) (cat_nlies (hRW.out.hR.below (below_lnew wr _) hRW.out.hR.lt)) (by simp) ?_
                 intro v3 w3 ho3 hg3
                 have HB3 := Lib.hid (below_srow (below_lnew wr _) hg3 (SRow.empty wr) (by simp))
                 have HR3 := Lib.hid (hRW.out.below HB3.out)
                 have HO3 := Lib.hid (ho3.base hbt)
                 have hz3 := HB3.out.size
                 clear ho3 hg3
                 obtain ⟨A3, n3, c3, rfl, hn3, _, _, _⟩ := HO3.out.formN
                 have HB4 := Lib.hid (below_lnew w3 (.cells #[.slice A3 n3 c3] 23))
                 have HR4 := Lib.hid (HR3.out.below HB4.out)
                 obtain ⟨vs, hvl, HG, HK⟩ := HR4.out.keep (.slice A3 n3 c3) (HO3.out.below HB4.out)
                 replace HG := Lib.hid HG
                 replace HK := Lib.hid HK)
              | (at_builtin
                 go_must (refine app_g _ rfl 26 23 _ 24 Try.underlying26 rows_info rfl (by omega) (.tmp 66) (.tmp 70) rfl P.B _ vs rfl HG.out w3.heap.size 1 (.slice A3 n3 c3) rfl (cell_new _ _ _) rfl (by omega) (by simp; omega) ?_)
                 intro v5 w5 ho5 hg5
                 have HR5 := Lib.hid (HK.out w5 v5 ho5 hg5)
                 have y0 := HCU.out w5 HR5.out.hb
                 have HI := Lib.hid (HR5.out.begin (10 * (n : Int)) (10 * (n : Int) + 10) (10 + (us[n].toNat : Int) % 10))
                 unfold pK at HI
                 dsimp only [List.length_nil] at HI
                 have y1 := cat_at HI.out.hR HB.out.2
                 have y2 := cat_at HI.out.hW (j := bm) (List.getElem?_eq_getElem (by omega))
                 have yf := HI.out.hW.frozen
                 clear ho5 hg5))
            have HI2 := Lib.hid (HI.out.setW bm 9999)
            have y3 := cat_at HI2.out.hW (j := bm) (x := 9999) (List.getElem?_set_self (by omega))
            have yf3 := HI2.out.hW.frozen
            clear y0 y1 y2 yf HI
            go_cut [] from 94 to 102 (fun wx => Hid (Inn P w5 wx (Ws.set bm (backI n)) R ⟨10 * (n : Int), 10 * (n : Int) + 10, 10 + (us[n].toNat : Int) % 10, [], none, 0⟩))
            case first =>
              by_cases hn0 : 0 < n
              · have hn0i : (0 : Int) < (n : Int) := by omega
                have HI3 := Lib.hid (HI2.out.setW bm (10 * ((n : Int) - 1) + 5))
                rw [List.set_set, show (10 * ((n : Int) - 1) + 5) = backI n from (if_neg (by omega)).symm] at HI3
                have HE := Lib.hid (show backI n = 10 * ((n : Int) - 1) + 5 from if_neg (by omega))
                go_wp2_with fail
                go_meet
                rw [HE.out] at HI3
                rw [HE.out]
                exact HI3
              · have hn0i : (n : Int) ≤ 0 := by omega
                have HE := Lib.hid (show backI n = 9999 from if_pos (by omega))
                go_wp2_with fail
                go_meet
                rw [HE.out]
                exact HI2
            case rest =>
              have HPa := Lib.hid (show Part 0 n R R (Ws.set bm (backI n)) [] (bm + 1) from Part.start hR16 (by rw [show bm + 1 - 1 = bm by omega]; exact List.getElem?_set_self (by omega)))
              have HLa := Lib.hid (hLaid.out.put HB.out.1 (m := bm) (by omega) (backI n))
              have hW6' : (Ws.set bm (backI n)).length = 600 := by rw [List.length_set]; exact hW6
              clear HI2 y3 yf3
              have HI := Lib.hid hcut.out
              clear hcut
              go_wp2_with fail
              go_loopw [15] (fun i wx => ∃ (k : Nat) (Rc Wc : List Int) (p : Ps), k ≤ 6 ∧ i = .int .i64 k ∧ Hid (Inn P w5 wx Wc Rc ⟨10 * (n : Int), 10 * (n : Int) + 10, 10 + (us[n].toNat : Int) % 10, p.a, p.A, p.c⟩) ∧ Hid (Part k n R Rc Wc p.a (bm + 1)) ∧ Hid (Laid n Wc (was ++ [R]) ls bs) ∧ Hid (Wc.length = 600)) (fun i _ => 6 - (intOf i).toNat)
              case atStart => exact ⟨0, R, Ws.set bm (backI n), ⟨0, 0, 0, [], none, 0⟩, by omega, rfl, HI, HPa, HLa, hW6'⟩
              case round =>
                obtain ⟨k, Rc, Wc, ⟨_, _, _, pa, pA, pc⟩, hk, rfl, hIn, hPt, hLd, hWc⟩ := hrel
                dsimp only at hIn hPt
                clear HI HPa HLa hW6'
                by_cases hk6 : k < 6
                · have hki : (k : Int) < 6 := by omega
                  as_aux_lemma =>
                    have z1 := HCS.out wr hIn.out.hb
                    have hRc := hPt.out.lR
                    have hla := hPt.out.la
                    have hW600 := hWc.out
                    by_cases hbit : (bits .and .u8 ((ss[n].toNat : Int) / 2 ^ k) 1 == 1) = true
                    · obtain ⟨q, hq⟩ : ∃ q : Nat, (q : Int) = ((bm + 1 : Nat) : Int) + (-2 - (pa.length : Int)) := ⟨(((bm + 1 : Nat) : Int) + (-2 - (pa.length : Int))).toNat, by omega⟩
                      have HQ := Lib.hid hq
                      have zu := hIn.out.hu.at_
                      have zuf := hIn.out.hu.frozen
                      dsimp only at zu
                      have zr := cat_at hIn.out.hR (j := 6 + k) (List.getElem?_eq_getElem (by omega))
                      have zw := cat_at hIn.out.hW (j := q) (List.getElem?_eq_getElem (by omega))
                      have zw2 := cat_at hIn.out.hW (j := ((bm : Int) + 1 + (-2 - (pa.length : Int))).toNat) (List.getElem?_eq_getElem (by omega))
                      have zwf := hIn.out.hW.frozen
                      have HI2 := Lib.hid (hIn.out.setW q (Rc[6 + k]'(by omega)))
                      have HP2 := Lib.hid (hPt.out.save hk6 (by omega) (by omega) hW600 (Rc[6 + k]'(by omega)) (1000 * (n : Int) + (k : Int)) (List.getElem?_eq_getElem (by omega)) q (by omega))
                      have HL2 := Lib.hid (hLd.out.put HB.out.1 (m := q) (by omega) (Rc[6 + k]'(by omega)))
                      go_upto_region 27 with fail
                      have eq1 : ((bm : Int) + 1 + (-2 - (pa.length : Int))).toNat = q := by have := HQ.out; omega
                      rw [eq1]
                      clear zu zuf zr zw zw2 zwf eq1
                      generalize wr.setCell ⟨P.gW, q, none⟩ (.int .i64 (Rc[6 + k]'(by omega))) = X at *
                      have zu := HI2.out.hu.at_
                      dsimp only at zu
                      have hb7 := below_lnew X (.cells (cK ⟨6 + (k : Int), -2 - (pa.length : Int)⟩) 31)
                      have HI3 := Lib.hid (HI2.out.below hb7)
                      have HLo := Lib.hid (locAt_new X ⟨6 + (k : Int), -2 - (pa.length : Int)⟩)
                      unfold cK at HI3 HLo
                      dsimp only at HI3 HLo
                      clear hb7
                      go_upto_region 28 with (at_builtin
                                              go_must (refine app_loc _ rfl (.tmp 129) (.tmp 134) rfl (w5.heap.size + 1) _ pa rfl HI3.out.ho X.heap.size 1 ⟨6 + (k : Int), -2 - (pa.length : Int)⟩ rfl HLo.out (by omega) (by have := HI3.out.hu.lt; omega) ?_)
                                              intro v8 w8 ho8 hg8
                                              have HG8 := Lib.hid hg8
                                              have HO8 := Lib.hid ho8
                                              have yuf := (HI3.out.mid hg8).2.2.1.frozen
                                              have yu := (HI3.out.mid hg8).2.2.1.at_
                                              dsimp only at yu
                                              clear hg8 ho8
                                              obtain ⟨A8, n8, c8, rfl, hn8, _, _, _⟩ := HO8.out.formN)
                      have hl8 : (pa ++ [(⟨6 + (k : Int), -2 - (pa.length : Int)⟩ : Lc)]).length = n8 := hn8.out
                      have HI4 := HI3.out.push HG8.out A8 c8 (pa ++ [⟨6 + (k : Int), -2 - (pa.length : Int)⟩]) (by rw [hl8]; exact HO8.out)
                      rw [hl8] at HI4
                      dsimp only at HI4
                      replace HI4 := Lib.hid HI4
                      clear yu yuf zu hl8
                      generalize w8.setCell ⟨w5.heap.size, 3, none⟩ (.slice A8 n8 c8) = Y at *
                      have zr := cat_at HI4.out.hR (j := 6 + k) (List.getElem?_eq_getElem (by omega))
                      have zrf := HI4.out.hR.frozen
                      have HI5 := Lib.hid (HI4.out.setR (6 + k) (1000 * (n : Int) + (k : Int)))
                      go_wp2_with fail
                      go_roundw
                      case rel => exact ⟨k + 1, Rc.set (6 + k) (1000 * (n : Int) + (k : Int)), Wc.set q (Rc[6 + k]'(by omega)), ⟨0, 0, 0, pa ++ [⟨6 + (k : Int), -2 - (pa.length : Int)⟩], A8, c8⟩, by omega, by go_num, HI5, HP2, HL2, by rw [List.length_set]; exact hW600⟩
                      case measure => simp [intOf]; omega
                    · have hbf : (bits .and .u8 ((ss[n].toNat : Int) / 2 ^ k) 1 == 1) = false := by simpa using hbit
                      have HPs := Lib.hid hPt.out.skip
                      go_wp2_with fail
                      go_roundw
                      case rel => exact ⟨k + 1, Rc, Wc, ⟨0, 0, 0, pa, pA, pc⟩, by omega, by go_num, hIn, HPs, hLd, hWc⟩
                      case measure => simp [intOf]; omega
                · have hki : (6 : Int) ≤ (k : Int) := by omega
                  as_aux_lemma =>
                    go_upto_region 29 with fail
                    have hke : k = 6 := by omega
                    rw [hke] at hPt
                    clear hke
                    have HL := Lib.hid (hLd.out.more (by omega) HB.out.1 hPt.out (10 + (us[n].toNat : Int) % 10) (bm + 1 - (10 + us[n].toNat % 10)) (by omega) (by omega) (by omega))
                    have HI := Lib.hid (hIn.out.setR 15 (((bm + 1 : Nat) : Int) - (10 + (us[n].toNat : Int) % 10)))
                    obtain ⟨HW, HO⟩ := HI.out.ends HR5.out
                    replace HW := Lib.hid HW
                    replace HO := Lib.hid HO
                    have hU := Lib.hid HI.out.hu
                    have r15 := hIn.out.hR.cell (j := 15) (by have := hPt.out.lR; simp; omega)
                    have rf := hIn.out.hR.frozen
                    have u2 := hIn.out.hu.up
                    dsimp only at u2
                    have heb : (((bm + 1 : Nat) : Int) - (10 + (us[n].toNat : Int) % 10)) = (bm : Int) + 1 - (10 + (us[n].toNat : Int) % 10) := by omega
                    rw [heb] at HL HI HW HO hU
                    clear heb
                    obtain ⟨At, nt, ct, rfl, _, _, _, _⟩ := HW.out.ht.formN8
                    go_upto_region 30 with fail
                    clear r15 rf u2
                    obtain ⟨X, hX⟩ : ∃ X, X = wr.setCell ⟨P.gR, 15, none⟩ (.int .i64 ((bm : Int) + 1 - (10 + (us[n].toNat : Int) % 10))) := ⟨_, rfl⟩
                    rw [← hX] at HW HO hU ⊢
                    clear HI hX hIn hLd hPt
                    have hb6 := below_lnew X (.cells (pK ⟨10 * (n : Int), 10 * (n : Int) + 10, 10 + (us[n].toNat : Int) % 10, pa, pA, pc⟩) 29)
                    have HW6 := Lib.hid (HW.out.below hb6)
                    have HO6 := Lib.hid (HO.out.below hb6)
                    have HS6 := Lib.hid (spAt_new X ⟨10 * (n : Int), 10 * (n : Int) + 10, 10 + (us[n].toNat : Int) % 10, pa, pA, pc⟩)
                    have w0 := hU.out.fr
                    have w1' := hU.out.to
                    have w2' := hU.out.up
                    have w3' := hU.out.at_
                    unfold pK at HW6 HO6 HS6
                    dsimp only at HW6 HO6 HS6 w0 w1' w2' w3'
                    have hlsl := Lib.hid (show ls.length ≤ 1000000 by omega)
                    clear hb6
                    clear w0 w1' w2' w3'
                    have w0 := hU.out.fr
                    have w1' := hU.out.to
                    have w2' := hU.out.up
                    have w3' := hU.out.at_
                    go_upto_region 14 with (at_builtin
                                            refine app_sp _ rfl (.tmp 151) (.tmp 153) rfl P.B _ ls rfl HW6.out.ht X.heap.size 1 ⟨10 * (n : Int), 10 * (n : Int) + 10, 10 + (us[n].toNat : Int) % 10, pa, pA, pc⟩ rfl HS6.out HO6.out hlsl.out HW6.out.hs ?_
                                            intro v7 w7 ho7 hg7 _
                                            have HW7 := Lib.hid (HW6.out.entry hg7 ho7)
                                            clear ho7 hg7)
                    go_wp2_with fail
                    go_roundw
                    case rel => exact ⟨n + 1, was ++ [R], _, _, _, Wc, by omega, by go_num, HL, HW7⟩
                    case measure => simp [intOf]; omega
        ·
          as_aux_lemma =>
            have hnl : n = us.length := by omega
            have hni : (us.length : Int) ≤ (n : Int) := by omega
            obtain ⟨hwl, hR16, hW6, hll, b, hb, hb0, hb1, h15⟩ := hLaid.out.now (by omega)
            have hbt := hRW.out.hs
            have HB := Lib.hid (And.intro hb (And.intro h15 hnl))
            obtain ⟨wr4, rfl⟩ : ∃ x, x = wr := ⟨wr, rfl⟩
            obtain ⟨At, ct, pst, rfl, hpe, hct, hcn, hSL⟩ := hRW.out.ht.form
            obtain ⟨Aw, cw, rfl, hwa⟩ := hRW.out.hw.at_
            replace hpe := Lib.hid hpe
            replace hSL := Lib.hid hSL
            replace hwa := Lib.hid hwa
            have hv4 := show CAt (wr4.alloc (.cells #[.slice none 0 0, .slice (some ⟨P.gR, 0, none⟩) 16 16, .int .i64 0, .slice (some ⟨P.gW, 0, none⟩) 600 600] 34)) wr4.heap.size 34 [.slice none 0 0, .slice (some ⟨P.gR, 0, none⟩) 16 16, .int .i64 0, .slice (some ⟨P.gW, 0, none⟩) 600 600] from heap_alloc_new wr4 _
            have HV4 := Lib.hid hv4
            have hb4 := below_lnew wr4 (.cells #[.slice none 0 0, .slice (some ⟨P.gR, 0, none⟩) 16 16, .int .i64 0, .slice (some ⟨P.gW, 0, none⟩) 600 600] 34)
            have HB4 := Lib.hid hb4
            have hz4 : wr4.heap.size + 1 ≤ (wr4.alloc (.cells #[.slice none 0 0, .slice (some ⟨P.gR, 0, none⟩) 16 16, .int .i64 0, .slice (some ⟨P.gW, 0, none⟩) 600 600] 34)).heap.size := by simp
            have HZ4 := Lib.hid hz4
            have HWL := Lib.hid hwl
            have HLL := Lib.hid hll
            clear hb h15 hnl hv4 hb4 hz4 hwl hll
            go_wp2_with fail
            go_loopw [18] (fun i wx => ∃ (k : Nat) (vk : Value), k ≤ 16 ∧ i = .int .i64 k ∧ Hid (CAt wx wr4.heap.size 34 [vk, .slice (some ⟨P.gR, 0, none⟩) 16 16, .int .i64 0, .slice (some ⟨P.gW, 0, none⟩) 600 600]) ∧ Hid (GRow wx (wr4.heap.size + 1) 4 vk (List.replicate k (.bool true))) ∧ Hid (Below wr4.heap.size wr4 wx) ∧ Hid (wr4.heap.size + 1 ≤ wx.heap.size)) (fun i _ => 16 - (intOf i).toNat)
            case atStart => exact ⟨0, _, by omega, rfl, HV4, GRow.nil _ _ _, HB4, HZ4⟩
            case round =>
              obtain ⟨k, vk, hk, rfl, hC, hG, hBw, hZ⟩ := hrel
              clear HV4 HB4 HZ4
              by_cases hlt4 : k < 16
              · have hki : (k : Int) < 16 := by omega
                as_aux_lemma =>
                  have z0 := hC.out.cell (j := 0) (by simp)
                  simp only [List.getElem_cons_zero] at z0
                  have hb5 := below_lnew wr (.cells #[.bool true] 4)
                  have HG5 := Lib.hid (hG.out.kept fun k _ b _ => hb5.block k b)
                  have HC5 := Lib.hid (hC.out.below hb5 hC.out.lt)
                  have HBw5 := Lib.hid (hBw.out.trans (hb5.mono (by have := hZ.out; omega)))
                  have HZ5 := Lib.hid (show _ + 1 ≤ (wr.alloc (.cells #[.bool true] 4)).heap.size from Nat.le_trans hZ.out hb5.size)
                  obtain ⟨A5, n5, c5, rfl, _, _, _⟩ := hG.out.cellsN
                  clear hb5
                  go_wp2_with (at_builtin
                               go_must (refine app_g _ rfl 32 4 _ 1 Try.underlying32 bool_info rfl (by omega) (.tmp 163) (.tmp 164) rfl _ _ _ rfl HG5.out wr.heap.size 1 (.bool true) rfl (cell_new _ _ _) rfl (by simp; omega) HZ5.out ?_)
                               intro v6 w6 ho6 hg6
                               have HZ6 := Lib.hid (Nat.le_trans HZ5.out hg6.size)
                               have HC6 := Lib.hid (show CAt w6 _ _ _ from (hg6.block _ HC5.out.lt (fun q => by have := (HG5.out.lt _ q.symm).1; omega)).trans HC5.out)
                               have HB6 := Lib.hid (HBw5.out.grown hg6 HBw5.out.size (fun j e => by have := (HG5.out.lt j e).1; omega))
                               have HG6 := Lib.hid ho6
                               have y0 := HC6.out.cell (j := 0) (by simp)
                               have yf := HC6.out.frozen
                               clear ho6 hg6
                               obtain ⟨A6, n6, c6, rfl, _, _, _⟩ := HG6.out.cellsN)
                  go_roundw
                  case rel => exact ⟨k + 1, .slice A6 n6 c6, by omega, by go_num, HC6.out.set 0 _, (by rw [List.replicate_succ']; exact HG6.out.kept fun q a _ _ => Below.heap_setCell w6 _ _ _ (by dsimp only; omega)), HB6.out.setCell (Nat.le_refl _) _, by have := HZ6.out; exact Lib.hid (by simpa [World.setCell] using this)⟩
                  case measure => simp [intOf]; omega
              · have hki : (16 : Int) ≤ k := by omega
                as_aux_lemma =>
                  have hk16 : k = 16 := by omega
                  have hG16 := hG.out
                  rw [hk16] at hG16
                  obtain ⟨A1, cK, rfl, hcK, _, hlK, _⟩ := hG16.cells
                  obtain ⟨gK, oK, rfl, _, _⟩ := hlK (by rw [List.length_replicate]; omega)
                  rw [List.length_replicate] at hcK
                  simp only [List.length_replicate] at hC
                  have HR5 := Lib.hid (hRW.out.below hBw.out)
                  obtain ⟨V0, hV0⟩ : ∃ V0 : Vw, V0 = ⟨⟨gK, oK, none⟩, cK, ⟨P.gR, 0, none⟩, 16, 0, some ⟨P.gW, 0, none⟩, 600, List.replicate 16 true, R, Ws⟩ := ⟨_, rfl⟩
                  have HV0 := Lib.hid hV0
                  have HVA := Lib.hid (show ViewAt wr _ V0 from by
                    have := hC.out
                    unfold CAt at this
                    rw [HV0.out]
                    unfold ViewAt vC
                    dsimp only
                    rw [hW6]
                    exact this)
                  have HVL := Lib.hid (show VL wr wr.heap.size V0 from by
                    rw [HV0.out]
                    exact ⟨List.length_replicate, hR16, hcK, Nat.le_refl _, by rw [List.map_replicate]; exact hlK, HR5.out.hR.lies, HR5.out.hW.lies, fun e => (by cases e), by rw [hW6]; omega⟩)
                  have HVD := Lib.hid (show V0.W = Ws ∧ ∃ Rm, (was ++ [R])[us.length]? = some Rm ∧ (∀ j, 6 ≤ j → j ≤ 11 → V0.R[j]? = Rm[j]?) ∧ V0.R[15]? = Rm[15]? ∧ (∀ j, 6 ≤ j → j ≤ 11 → V0.K[j]? = some true) ∧ V0.K[15]? = some true from by
                    rw [HV0.out]
                    exact ⟨rfl, R, by rw [← HB.out.2.2, ← HWL.out, List.getElem?_append_right (Nat.le_refl _)]; simp, fun _ _ _ => rfl, rfl, fun j _ _ => by dsimp only; rw [List.getElem?_replicate, if_pos (by omega)], rfl⟩)
                  have HBw := hBw
                  clear hV0 hC hG hk16 hG16 hlK hBw
                  go_wp2_with fail
                  go_loopw [19] (fun i wx => ∃ (m : Nat) (V : Vw), m ≤ us.length ∧ i = .int .i64 ((m : Int) - 1) ∧ Hid (ViewAt wx wr4.heap.size V) ∧ Hid (VL wx wx.heap.size V) ∧ Hid (V.W = Ws ∧ ∃ Rm, (was ++ [R])[m]? = some Rm ∧ (∀ j, 6 ≤ j → j ≤ 11 → V.R[j]? = Rm[j]?) ∧ V.R[15]? = Rm[15]? ∧ (∀ j, 6 ≤ j → j ≤ 11 → V.K[j]? = some true) ∧ V.K[15]? = some true) ∧ Hid (Below wr4.heap.size wr4 wx)) (fun i _ => (intOf i + 1).toNat)
                  case atStart => exact ⟨us.length, V0, Nat.le_refl _, rfl, HVA, HVL, HVD, HBw⟩
                  case round =>
                    obtain ⟨m, V, hm, rfl, hVA, hVL, hVD, hBv⟩ := hrel
                    clear HVA HVL HVD HBw HV0
                    by_cases hm0 : 0 < m
                    · have hmi : (0 : Int) ≤ (m : Int) - 1 := by omega
                      as_aux_lemma =>
                        obtain ⟨i, rfl⟩ : ∃ i, m = i + 1 := ⟨m - 1, by omega⟩
                        rw [show (((i + 1 : Nat) : Int) - 1) = (i : Int) by omega] at hmi ⊢
                        have hi : i < us.length := by omega
                        have hnu := HB.out.2.2
                        have hPL := Lib.hid (show pst.length ≤ 20 by have := congrArg List.length hpe.out; rw [List.length_map] at this; have := HLL.out; omega)
                        obtain ⟨hVW, Rm, hRm, h6, h15, k6, k15⟩ := hVD.out
                        obtain ⟨hp, bb, Ri, hT⟩ := row_told hLaid.out (by omega) hpe.out (show i < n by omega) hVL.out.hR hVW hRm h6 h15 k6 k15
                        have hwi : i < was.length := by have := HWL.out; have := HB.out.2.2; omega
                        have hRi : was[i] = Ri := by
                          have := hT.ri
                          rw [List.getElem?_append_left hwi] at this
                          exact get_of this hwi
                        obtain ⟨gA, oA, g2, o2, c2', hAw, hgA, hcA, hc2, hg2, hRl⟩ := hwa.out i hwi (by rw [hRi]; exact hT.r16)
                        rw [hRi] at hRl
                        subst hAw
                        have HT := Lib.hid hT
                        have hzr := hBv.out.size
                        have hsl := (hSL.out.below hBv.out).more hzr
                        have HSL := Lib.hid hsl
                        have eb : (bb : Int) - pst[i].u + pst[i].u = (bb : Int) := by omega
                        have hF := frameAll8_any At ct pst (10 * (i : Int) + 5) i V wr hp (by have := hPL.out; omega) hT.al hT.yes hT.no hsl hVL.out hT.k15 ((bb : Int) - pst[i].u) hT.v15 hT.l0 hT.l1 hT.u0 hT.u1
                        rw [eb] at hF
                        have hU := fun (w6 : World) (hb6 : Below wr.heap.size wr w6) => up8_any At ct pst (10 * (i : Int) + 5) i V w6 hp (by have := hPL.out; omega) hT.al hT.yes hT.no (hsl.next hb6) (hVL.out.next hb6) hT.k15 ((bb : Int) - pst[i].u) hT.v15 hT.l0 hT.l1 hT.right (fun j hj a b => hT.k6 j _ a b) (bb - 1) (backI i) (by have := hT.b1; rw [eb]; omega) hT.bl hT.bw (by unfold backI; split <;> omega) (by unfold backI; split <;> omega) (by rw [eb]; exact hT.inn)
                        rw [eb] at hU
                        unfold vC at hF hU
                        have HF := Lib.hid hF
                        have HU := Lib.hid hU
                        have y0 := hVA.out.k
                        have y1 := hVA.out.r
                        have y2 := hVA.out.b
                        have y3 := hVA.out.wd
                        have hgv := hVA.out.lt
                        clear hF hU hT hsl hRm h6 h15 k6 k15 eb hVD hRi
                        have HVW := Lib.hid hVW
                        have HNU := Lib.hid hnu
                        clear hVW hnu
                        go_upto_region 41 with (go_at_call 5
                                                refine HF.out.mono ?_
                                                rintro e w5 ⟨F1, F2, F3, fn, fc, rfl, hb5⟩)
                        obtain ⟨w6, hw6⟩ : ∃ x, x = w5.alloc (.cells #[.slice F1 16 16, .slice F2 16 16, .int .i64 (bb : Int), .slice F3 fn fc] 34) := ⟨_, rfl⟩
                        rw [← hw6]
                        have f0 := heap_alloc_new w5 (.cells #[.slice F1 16 16, .slice F2 16 16, .int .i64 (bb : Int), .slice F3 fn fc] 34)
                        have hb56 := below_lnew w5 (.cells #[.slice F1 16 16, .slice F2 16 16, .int .i64 (bb : Int), .slice F3 fn fc] 34)
                        have hz56 : w5.heap.size < w6.heap.size := by rw [hw6]; simp
                        rw [← hw6] at f0 hb56
                        have fb : w6.cell? ⟨w5.heap.size, 2, none⟩ = some (.int .i64 (bb : Int)) := by simp [World.cell?, f0]
                        have hB6 := hb5.trans (hb56.mono hb5.size)
                        have z0 := (hB6.cell (p := ⟨wr4.heap.size, 0, none⟩) hgv).trans y0
                        have z1 := (hB6.cell (p := ⟨wr4.heap.size, 1, none⟩) hgv).trans y1
                        have z2 := (hB6.cell (p := ⟨wr4.heap.size, 2, none⟩) hgv).trans y2
                        have z3 := (hB6.cell (p := ⟨wr4.heap.size, 3, none⟩) hgv).trans y3
                        have HU6 := Lib.hid (HU.out w6 hB6)
                        have HB6 := Lib.hid hB6
                        clear HU HF y0 y1 y2 y3 hb5 f0 hb56 hw6 hB6
                        go_upto_region 42 with (go_at_call 6
                                                refine HU6.out.mono ?_
                                                rintro e w7 ⟨V2, rfl, hVL2, hK2, hR2, hW2, hb7⟩
                                                obtain ⟨a1, d1, a2, d2, bB2, A3, d3, K2, R2, W2⟩ := V2
                                                unfold vC
                                                dsimp only at hK2 hR2 hW2 ⊢
                                                have HK2 := Lib.hid hK2
                                                have HR2 := Lib.hid hR2
                                                have HW2 := Lib.hid hW2
                                                clear hK2 hR2 hW2)
                        have hzw7 := hb7.size
                        obtain ⟨w8, hw8⟩ : ∃ x, x = w7.alloc (.cells #[.slice (some a1) 16 d1, .slice (some a2) 16 d2, .int .i64 bB2, .slice A3 W2.length d3] 34) := ⟨_, rfl⟩
                        rw [← hw8]
                        have f8 := heap_alloc_new w7 (.cells #[.slice (some a1) 16 d1, .slice (some a2) 16 d2, .int .i64 bB2, .slice A3 W2.length d3] 34)
                        have hb78 := below_lnew w7 (.cells #[.slice (some a1) 16 d1, .slice (some a2) 16 d2, .int .i64 bB2, .slice A3 W2.length d3] 34)
                        have hz78 : w7.heap.size < w8.heap.size := by rw [hw8]; simp
                        rw [← hw8] at f8 hb78
                        obtain ⟨q0, q1, q2, q3⟩ : w8.cell? ⟨w7.heap.size, 0, none⟩ = some (.slice (some a1) 16 d1) ∧ w8.cell? ⟨w7.heap.size, 1, none⟩ = some (.slice (some a2) 16 d2) ∧ w8.cell? ⟨w7.heap.size, 2, none⟩ = some (.int .i64 bB2) ∧ w8.cell? ⟨w7.heap.size, 3, none⟩ = some (.slice A3 W2.length d3) := by simp [World.cell?, f8]
                        have hB8 := hb7.trans (hb78.mono hzw7)
                        have hB68 := HB6.out.trans (hB8.mono HB6.out.size)
                        have hB48 := hBv.out.trans (hB68.mono hzr)
                        have fb8 := (hB8.cell (p := ⟨w5.heap.size, 2, none⟩) hz56).trans fb
                        have hVL8 := hVL2.next hb78
                        obtain ⟨g3, o3, e3, hg3, hk3⟩ := hVL8.known
                        obtain ⟨g4, o4, e4, hg4, hr4⟩ := hVL8.regs
                        dsimp only at e3 e4 hk3 hr4
                        have hm1 := (hB48.cell (p := ⟨gA, oA + i, none⟩) hgA).trans hcA
                        have HRL := Lib.hid (hRl.below hB48)
                        have ri15 := cl_at HRL.out HT.out.r15
                        have hKL := hVL8.hK
                        have hRL := hVL8.hR
                        dsimp only at hKL hRL
                        have hK15 : K2[15]? = some true := by rw [HK2.out]; rfl
                        have hR15 : R2[15]? = some (bb : Int) := by rw [HR2.out, List.getElem?_set_self (by have := hRL; rw [HR2.out, List.length_set] at this; omega)]
                        have kc15 := hk3 15 (by omega)
                        have rc15 := hr4 15 (by omega)
                        rw [get_of hK15 (by omega)] at kc15
                        rw [get_of hR15 (by omega)] at rc15
                        have hwii : (i : Int) < (was.length : Int) := by omega
                        have HB48 := Lib.hid hB48
                        have HB68 := Lib.hid hB68
                        have HVL8 := Lib.hid hVL8
                        have HK3 := Lib.hid (fun (j : Nat) (x : Bool) (e : K2[j]? = some x) (hj : j < 16) => show w8.cell? ⟨g3, o3 + j, none⟩ = some (.bool x) by rw [hk3 j hj, get_of e _])
                        have HR4 := Lib.hid (fun (j : Nat) (x : Int) (e : R2[j]? = some x) (hj : j < 16) => show w8.cell? ⟨g4, o4 + j, none⟩ = some (.int .i64 x) by rw [hr4 j hj, get_of e _])
                        have HS48 := Lib.hid hB48.size
                        have HR15 := Lib.hid hR15
                        have HZ := Lib.hid (And.intro hz78 (And.intro hg3 (And.intro hg4 (And.intro hgA (And.intro hg2 hgv)))))
                        have hvf := (hVA.out.below HB68.out hgv)
                        have HVF := Lib.hid hvf
                        subst e3
                        subst e4
                        clear hw8 f8 hb78 hB8 hB68 hB48 hVL8 hVL2 hk3 hr4 hK15 hR15 hb7 fb z0 z1 z2 z3 hKL hRL hvf HU6
                        go_quiet (fail)
                        have hb9 := below_draws (B := w8.heap.size) (w := w8) nq
                        obtain ⟨w9, hw9⟩ : ∃ x, x = w8.drewN nq := ⟨_, rfl⟩
                        rw [← hw9] at hb9 ⊢
                        have HB9 := Lib.hid hb9
                        clear hw9 hb9 ri15 kc15 rc15 fb8
                        go_upto_region 44 with fail
                        go_cut [258] from 241 to 259 (fun v wx => v = .bool false ∧ wx = w9)
                        case first =>
                          by_cases hi0 : 0 < i
                          · have hii : (0 : Int) < (i : Int) := by omega
                            have hbq : (backI i != 10 * ((i : Int) - 1) + 5) = false := by unfold backI; rw [if_neg (by omega)]; simp
                            go_wp2_with fail
                            go_meet
                            exact ⟨rfl, rfl⟩
                          · have hii : (i : Int) ≤ 0 := by omega
                            have hiq : ((i : Int) == 0) = true := by simp; omega
                            have hbq : (backI i != 9999) = false := by unfold backI; rw [if_pos (by omega)]; rfl
                            go_wp2_with fail
                            go_meet
                            exact ⟨rfl, rfl⟩
                        case rest =>
                          obtain ⟨rfl, rfl⟩ := hcut
                          go_wp2_with fail
                          go_loopw [26] (fun q wx => ∃ k : Nat, 6 ≤ k ∧ k ≤ 12 ∧ q = .int .i64 k ∧ Hid (Below w8.heap.size w8 wx)) (fun q _ => 12 - (intOf q).toNat)
                          case atStart => exact ⟨6, by omega, by omega, rfl, HB9⟩
                          case round =>
                            obtain ⟨k, hk6, hk12, rfl, hBx⟩ := hrel
                            clear HB9
                            by_cases hk11 : k ≤ 11
                            · have hki : (k : Int) ≤ 11 := by omega
                              obtain ⟨x, hx⟩ : ∃ x, Ri[k]? = some x := ⟨_, List.getElem?_eq_getElem (show k < Ri.length by have := HT.out.r16; omega)⟩
                              have hr2 : R2[k]? = some x := by rw [HR2.out, HT.out.rk k hk6 hk11, hx]
                              have hk2 : K2[k]? = some true := by rw [HK2.out]; exact call_k6 hk6 hk11
                              have r0 := (hBx.out.cell (p := ⟨w7.heap.size, 0, none⟩) HZ.out.1).trans q0
                              have r1 := (hBx.out.cell (p := ⟨w7.heap.size, 1, none⟩) HZ.out.1).trans q1
                              have y1 := (hBx.out.cell (p := ⟨g3, o3 + k, none⟩) HZ.out.2.1).trans (HK3.out k true hk2 (by omega))
                              have y2 := (hBx.out.cell (p := ⟨g4, o4 + k, none⟩) HZ.out.2.2.1).trans (HR4.out k x hr2 (by omega))
                              have y3 := (hBx.out.cell (p := ⟨gA, oA + i, none⟩) (Nat.lt_of_lt_of_le HZ.out.2.2.2.1 HS48.out)).trans hm1
                              have y4 := (hBx.out.cell (p := ⟨g2, o2 + k, none⟩) (Nat.lt_of_lt_of_le HZ.out.2.2.2.2.1 HS48.out)).trans (cl_at HRL.out hx)
                              clear hx hr2 hk2
                              go_wp2_with fail
                              go_quiet (fail)
                              have HBq := Lib.hid (hBx.out.trans (below_draws nq))
                              go_wp2_with fail
                              go_roundw
                              case rel => exact ⟨k + 1, by omega, by omega, by go_num, HBq⟩
                              case measure => simp [intOf]; omega
                            · have hki : (11 : Int) < k := by omega
                              have HBx := hBx
                              clear hBx
                              go_wp2_with fail
                              go_loopw [27] (fun q wx => ∃ k2 : Nat, k2 ≤ 6 ∧ q = .int .i64 k2 ∧ Hid (Below w8.heap.size w8 wx)) (fun q _ => 6 - (intOf q).toNat)
                              case atStart => exact ⟨0, by omega, rfl, HBx⟩
                              case round =>
                                obtain ⟨k2, hk2, rfl, hBy⟩ := hrel
                                clear HBx
                                have r0 := (hBy.out.cell (p := ⟨w7.heap.size, 0, none⟩) HZ.out.1).trans q0
                                by_cases hk26 : k2 < 6
                                · have hk2i : (k2 : Int) < 6 := by omega
                                  obtain ⟨r, hr⟩ : ∃ r : Nat, r = k2 % 3 := ⟨_, rfl⟩
                                  have hr3 : r < 3 := by omega
                                  have hm0 : ((k2 : Int) % 3) = (r : Int) := by omega
                                  have hm2 : (k2 : Int).tmod 3 = (r : Int) := by rw [Int.tmod_eq_emod_of_nonneg (by omega)]; omega
                                  have y1 := (hBy.out.cell (p := ⟨g3, o3 + k2, none⟩) HZ.out.2.1).trans (HK3.out k2 false (by rw [HK2.out]; exact (call_k0 hk26).1) (by omega))
                                  have y2 := (hBy.out.cell (p := ⟨g3, o3 + (12 + r), none⟩) HZ.out.2.1).trans (HK3.out (12 + r) false (by rw [HK2.out, hr]; exact (call_k0 hk26).2) (by omega))
                                  clear hr
                                  go_wp2_with fail
                                  go_roundw
                                  case rel => exact ⟨k2 + 1, by omega, by go_num, hBy⟩
                                  case measure => simp [intOf]; omega
                                · have hk2i : (6 : Int) ≤ k2 := by omega
                                  have r1 := (hBy.out.cell (p := ⟨w7.heap.size, 1, none⟩) HZ.out.1).trans q1
                                  have r2 := (hBy.out.cell (p := ⟨w7.heap.size, 2, none⟩) HZ.out.1).trans q2
                                  have r3 := (hBy.out.cell (p := ⟨w7.heap.size, 3, none⟩) HZ.out.1).trans q3
                                  have hlv : wr4.heap.size < w8.heap.size := HVF.out.lt
                                  have hva := HVF.out.below hBy.out hlv
                                  have vf0 := hva.frozen 0
                                  have vf1 := hva.frozen 1
                                  have vf2 := hva.frozen 2
                                  have vf3 := hva.frozen 3
                                  have vc0 := hva.k
                                  have vc1 := hva.r
                                  have vc2 := hva.b
                                  have vc3 := hva.wd
                                  have hvl := HVL8.out.next hBy.out
                                  have HNA := Lib.hid (view_set4 hva ⟨⟨g3, o3, none⟩, d1, ⟨g4, o4, none⟩, d2, bB2, A3, d3, K2, R2, W2⟩)
                                  have HNL := Lib.hid (hvl.all4 (b := wr4.heap.size) (view_no_k hva hvl) (view_no_n hva hvl.r (by have := hvl.hR; omega) _ rfl) (view_no_n hva hvl.ww (by dsimp only; rw [HW2.out, HVW.out]; omega)) (.slice (some ⟨g3, o3, none⟩) 16 d1) (.slice (some ⟨g4, o4, none⟩) 16 d2) (.int .i64 bB2) (.slice A3 W2.length d3))
                                  have HNB := Lib.hid (((((HB48.out.trans (hBy.out.mono HS48.out)).setCell (p := ⟨wr4.heap.size, 0, none⟩) (Nat.le_refl _) (.slice (some ⟨g3, o3, none⟩) 16 d1)).setCell (p := ⟨wr4.heap.size, 1, none⟩) (Nat.le_refl _) (.slice (some ⟨g4, o4, none⟩) 16 d2)).setCell (p := ⟨wr4.heap.size, 2, none⟩) (Nat.le_refl _) (.int .i64 bB2)).setCell (p := ⟨wr4.heap.size, 3, none⟩) (Nat.le_refl _) (.slice A3 W2.length d3))
                                  have HND := Lib.hid (show W2 = Ws ∧ ∃ Rm, (was ++ [R])[i]? = some Rm ∧ (∀ j, 6 ≤ j → j ≤ 11 → R2[j]? = Rm[j]?) ∧ R2[15]? = Rm[15]? ∧ (∀ j, 6 ≤ j → j ≤ 11 → K2[j]? = some true) ∧ K2[15]? = some true from
                                    ⟨HW2.out.trans HVW.out, Ri, HT.out.ri, fun j a b => by rw [HR2.out]; exact HT.out.rk j a b, by rw [HR15.out, HT.out.r15], fun j a b => by rw [HK2.out]; exact call_k6 a b, by rw [HK2.out]; rfl⟩)
                                  clear hva hvl
                                  go_wp2_with fail
                                  go_roundw
                                  case rel => exact ⟨i, ⟨⟨g3, o3, none⟩, d1, ⟨g4, o4, none⟩, d2, bB2, A3, d3, K2, R2, W2⟩, by omega, by go_num, HNA, by simpa only [World.size_setCell] using HNL, HND, HNB⟩
                                  case measure => simp [intOf]
                    · have hmi : ¬ (0 : Int) ≤ (m : Int) - 1 := by omega
                      go_wp2_with fail
                      refine (works8_any _).mono ?_
                      rintro e w' ⟨rfl, hb⟩
                      go_wp2_with fail
                      go_ret
                      exact ⟨rfl, by have h9 := hRW.out.hb; rw [hPw] at h9; exact (h9.trans (hBv.out.mono h9.size)).trans (hb.mono (by have := h9.size; have := hBv.out.size; omega))⟩
end Go.Proofs.Ytpbopehhalicjaa
