/-
  The contract of expr.Eval.
-/
import Derived.Test.YtdnpoeegefkoiaaE6K
import Derived.Deep.RegionHeld3
namespace Go.Proofs.Ytdnpoeegefkoiaa
open Go Go.RowKit

set_option maxRecDepth 100000 in
set_option maxHeartbeats 2000000 in
theorem eval6_any (A : Option Addr) (c : Nat) (l : List Lc) (V : Vw) (P : Vp) (w : World) (hn : l.length ≤ 1099511627776) (h : LLies w w.heap.size A l) (hV : VLies w w.heap.size V P) :
    Calls Try.prog 22 #[.slice A l.length c, .agg (vK V P)] w (EvalR V l w) := by
  have hb0 := below_lnew w (.cells (vK V P) 42)
  have hx0 := heap_alloc_new w (.cells (vK V P) 42)
  have HS := Lib.hid (steps_any A c l (w.alloc (.cells (vK V P) 42)) hn (h.next hb0))
  have HV := Lib.hid hV
  have HB0 := Lib.hid hb0
  have HX0 := Lib.hid hx0
  unfold StepsR at HS
  unfold vK at HS HB0 HX0
  clear h hV hb0 hx0
  cases hrt : rightC l with
  | false =>
    rw [hrt] at HS
    have HE := Lib.hid (ev_wrong (V := V) hrt)
    clear hrt
    unfold vK
    go_enter Try.func22, Try.ntmps22
    go_wp2_with fail
    refine HS.out.mono ?_
    rintro e w1 ⟨v, rfl, hb1, _⟩
    have HB1 := Lib.hid (HB0.out.trans (hb1.mono HB0.out.size))
    clear hb1 HS
    go_wp2_with fail
    go_ret2
    exact ⟨by rw [HE.out.1, HE.out.2]; rfl, HB1.out⟩
  | true =>
    rw [hrt] at HS
    by_cases h0 : l.length = 0
    · have HE := Lib.hid (show evX V l = 0 ∧ evE V l = 4 by rw [List.eq_nil_of_length_eq_zero h0]; exact ev_gone)
      have H00 := Lib.hid h0
      clear h0
      unfold vK
      go_enter Try.func22, Try.ntmps22
      go_wp2_with fail
      refine HS.out.mono ?_
      rintro e w1 ⟨v, rfl, hb1, hv⟩
      have HB1 := Lib.hid (HB0.out.trans (hb1.mono HB0.out.size))
      have hv1 := hv (by first | rfl | trivial)
      obtain ⟨A2, c2, rfl, hc2, hL2⟩ := hv1.form
      clear hb1 HS hv hv1 hL2
      rw [H00.out]
      go_wp2_with fail
      go_ret2
      exact ⟨by rw [HE.out.1, HE.out.2]; rfl, HB1.out⟩
    · have hlen := right_len hrt
      have HM := Lib.hid (right_mem hrt)
      have HD0 := Lib.hid (show deep 0 l = some 1 by
        simp only [rightC, Bool.and_eq_true, Bool.or_eq_true, decide_eq_true_eq] at hrt
        rcases hrt.2 with q | q
        · exact absurd q h0
        · exact q)
      have HNo := Lib.hid (fun hr => ev_none (V := V) hrt h0 hr)
      have HYes := Lib.hid (fun s hr => ev_some (V := V) (s := s) hrt h0 hr)
      have h0i : ¬ (l.length : Int) = 0 := by omega
      clear hrt
      unfold vK
      go_enter Try.func22, Try.ntmps22
      go_wp2_with fail
      refine HS.out.mono ?_
      rintro e w1 ⟨v, rfl, hb1, hv⟩
      have HB1 := Lib.hid (HB0.out.trans (hb1.mono HB0.out.size))
      have HX1 := Lib.hid ((hb1.block w.heap.size (by simp)).trans HX0.out)
      have hz1 : w.heap.size < w1.heap.size := by have := hb1.size; simp at this; omega
      have hv1 := hv (by first | rfl | trivial)
      obtain ⟨A2, c2, rfl, hc2, hL2⟩ := hv1.form
      have HL2 := Lib.hid hL2
      clear hb1 HS hv hv1 hL2 HX0 HB0
      go_wp2_with (refine make_nums _ rfl (.const (.int .i64 0)) (.const (.int .i64 8)) rfl rfl rfl ?_
                   intro w2 hs2 hb2
                   have HS2 := Lib.hid hs2
                   have HB2 := Lib.hid hb2
                   have hz2 := hb2.size
                   clear hs2 hb2)
      go_loopw [8, 27] (fun v i wr => ∃ (k n : Nat) (s : List Int), k ≤ l.length ∧ n ≤ 8 ∧ i = .int .i64 k ∧ v = .slice (some ⟨w1.heap.size, 0, none⟩) n 8 ∧ Hid (s.length = n) ∧ Hid (runV V [] l = runV V s (l.drop k)) ∧ Hid (deep 0 l = deep n (l.drop k)) ∧ Hid (Stk wr w1.heap.size s) ∧ Hid (Below w1.heap.size w1 wr)) (fun _ i _ => l.length - (intOf i).toNat)
      case atStart => exact ⟨0, 0, [], by omega, by omega, rfl, rfl, rfl, rfl, rfl, HS2, HB2⟩
      case round =>
        obtain ⟨k, n, s, hk, hn8, rfl, rfl, hsn, hR, hD, hS, hB⟩ := hrel
        by_cases hlt : k < l.length
        · have hmay : mayL n l[k] := by
            by_cases hm : mayL n l[k]
            · exact hm
            · have := hD.out.trans (deep_out hlt hm)
              rw [HD0.out] at this
              cases this
          have HDn := Lib.hid (hD.out.trans (deep_at hlt hmay))
          have HRs := Lib.hid (fun s' hs' => hR.out.trans (runV_at (s' := s') hlt hs'))
          have HRn := Lib.hid (fun hs' => hR.out.trans (runV_out hlt hs'))
          obtain ⟨g', o', rfl, hg', c3⟩ := (HL2.out.below hB.out).at_ (j := k) (by simpa using hlt)
          rw [List.getElem_map] at c3
          clear hR hD
          generalize l[k] = x at *
          obtain ⟨hi, hf, ht, h8⟩ := hmay
          obtain ⟨fF, fN, fT, hsv, hst⟩ := stp_of x hi
          obtain ⟨mF, mL, mN, mT, nA, eF, eL, eN, eT, cF, cN, cT⟩ := hst
          have CT := Lib.hid cT
          rw [hsv] at c3
          have htk := tk_le x.k
          clear mF mN eF eN cF cN cT hsv
          obtain ⟨m, hm⟩ : ∃ m, n = m + tk x.k := ⟨n - tk x.k, by omega⟩
          have hs : s = s.take m ++ s.drop m := (List.take_append_drop m s).symm
          have hl1 : (s.take m).length = m := by have := hsn.out; simp; omega
          have hl2 : (s.drop m).length = tk x.k := by have := hsn.out; simp; omega
          have HS1 := Lib.hid (hS.out)
          generalize s.take m = s1 at *
          generalize s.drop m = s2 at *
          subst hs
          have hfact := HS1.out.fact
          have HSf := Lib.hid (HS1.out.front)
          have HV2 := Lib.hid ((HV.out.below (HB1.out.trans (hB.out.mono HB1.out.size))).more (Nat.le_trans HB1.out.size hB.out.size))
          have HL := Lib.hid (lays_any x V P (some ⟨w1.heap.size, m, none⟩) (8 - m) (tk x.k) s2 wr.drew hi hf (HV2.out.below (Below.refl _ _).drew) ((show CLies wr wr.heap.size (some ⟨w1.heap.size, m, none⟩) (s2.map iV6) by rw [← hl1]; exact CLies.tail hfact.2.2).below (Below.refl _ _).drew) hl2 rfl (by omega))
          have HY := Lib.hid (fun y hy => HRs.out _ (stepV_some (x := x) (y := y) rfl hl2 hy))
          have HN := Lib.hid (fun hy => HRn.out (stepV_none (x := x) rfl hl2 hy))
          have hx := (hB.out.block w.heap.size hz1).trans HX1.out
          obtain ⟨hg2, hg3, _⟩ := hfact
          have hm8 : m < 8 := by omega
          have h8m : ¬ 8 = m := by omega
          have hbx : w.heap.size < wr.heap.size := by have := hB.out.size; omega
          have x0 : wr.cell? ⟨w.heap.size, 0, none⟩ = some (.slice P.a1 V.K.length P.c1) := by simp [World.cell?, hx]
          have x1 : wr.cell? ⟨w.heap.size, 1, none⟩ = some (.slice P.a2 V.R.length P.c2) := by simp [World.cell?, hx]
          have x2 : wr.cell? ⟨w.heap.size, 2, none⟩ = some (.int .i64 V.B) := by simp [World.cell?, hx]
          have x3 : wr.cell? ⟨w.heap.size, 3, none⟩ = some (.slice P.a3 V.W.length P.c3) := by simp [World.cell?, hx]
          unfold vK at HL
          clear HRs HRn hS HS1 hf hi HV2 hl2
          generalize layV V x s2 = y at *
          generalize tk x.k = t at *
          generalize tyL x.k = T at *
          generalize fnL x.k = fL at *
          subst hm
          have hq1 : m ≤ m + t := Nat.le_add_right _ _
          have hq2 : (m : Int) ≤ (m : Int) + (t : Int) := by omega
          have hq5 : (m : Int) + (t : Int) ≤ 8 := by omega
          go_wp2_with fail
          refine (CT.out _).mono ?_
          rintro e w3 ⟨rfl, rfl⟩
          go_wp2_with fail
          have HXk := Lib.hid (fun w4 (hb : Below wr.heap.size wr w4) => (show w4.cell? ⟨w.heap.size, 0, none⟩ = some (.slice P.a1 V.K.length P.c1) ∧ w4.cell? ⟨w.heap.size, 1, none⟩ = some (.slice P.a2 V.R.length P.c2) ∧ w4.cell? ⟨w.heap.size, 2, none⟩ = some (.int .i64 V.B) ∧ w4.cell? ⟨w.heap.size, 3, none⟩ = some (.slice P.a3 V.W.length P.c3) from
            ⟨(hb.cell hbx).trans x0, (hb.cell hbx).trans x1, (hb.cell hbx).trans x2, (hb.cell hbx).trans x3⟩))
          go_region_held3 (fun W => W.cell? ⟨w.heap.size, 0, none⟩ = some (.slice P.a1 V.K.length P.c1) ∧ W.cell? ⟨w.heap.size, 1, none⟩ = some (.slice P.a2 V.R.length P.c2) ∧ W.cell? ⟨w.heap.size, 2, none⟩ = some (.int .i64 V.B) ∧ W.cell? ⟨w.heap.size, 3, none⟩ = some (.slice P.a3 V.W.length P.c3)) (first | (go_keep; done) | exact HXk.out _ hb4 | exact HXk.out _ ((Below.refl _ _).drew.trans hb4)) (first
            | ((with_reducible refine HL.out.mono ?_); rintro e w4 ⟨rfl, hb4⟩))
          have HB4 := Lib.hid (hB.out.trans (((Below.refl wr.heap.size wr).drew.trans hb4).mono hB.out.size))
          have HS4 := Lib.hid (HSf.out.below ((Below.refl wr.heap.size wr).drew.trans hb4))
          clear hb4 hB HSf HXk HL x0 x1 x2 x3 hx c3 nA mT mL eL eT
          cases y with
          | none =>
            have HE := Lib.hid (HNo.out (HN.out rfl))
            clear HNo HYes HN HY
            go_wp2_with fail
            go_ret2
            exact ⟨by rw [HE.out.1, HE.out.2]; rfl, HB1.out.trans (HB4.out.mono HB1.out.size)⟩
          | some z =>
            have HR5 := Lib.hid (HY.out z rfl)
            have hbb := below_lnew w4 (.cells #[.int .i64 z] 2)
            have HB5 := Lib.hid (HB4.out.trans (hbb.mono HB4.out.size))
            have HS5 := Lib.hid (HS4.out.below hbb)
            have hm0 : (0 : Int) ≤ (m : Int) := by omega
            have hm8i : (m : Int) ≤ 8 := by omega
            clear HNo HYes HN HY hbb
            simp only [Option.getD_some, Option.isSome_some]
            go_wp2_with (at_builtin
                         refine app_num _ rfl (.tmp 52) (.tmp 54) rfl w1.heap.size m s1 rfl hl1 HS5.out w4.heap.size 1 z rfl (cell_new1 w4 _ _) (by omega) ?_
                         intro w6 hs6 hg6
                         have HS6 := Lib.hid hs6
                         have HB6 := Lib.hid (HB5.out.grown hg6 HB5.out.size (fun j e => by cases e; exact Nat.le_refl _))
                         clear hs6 hg6)
            go_roundw
            case rel => exact ⟨k + 1, m + 1, s1 ++ [z], by omega, by omega, by go_num, rfl, by rw [List.length_append, hl1]; rfl, HR5, (by have := HDn.out; rwa [show m + t + 1 - t = m + 1 by omega] at this), HS6, HB6⟩
            case measure => simp [intOf]; omega
        · obtain rfl : k = l.length := by omega
          have hd := hD.out
          rw [HD0.out, List.drop_length, deep_nil] at hd
          obtain rfl : n = 1 := by simpa using hd.symm
          have hr := hR.out
          rw [List.drop_length] at hr
          have HE := Lib.hid (HYes.out s hr)
          match s, hsn.out with
          | [z], _ =>
            obtain ⟨hg2, _, hcl⟩ := hS.out.fact
            obtain ⟨g, o, e, _, c0⟩ := hcl.int (j := 0) (by simp)
            cases e
            simp only [List.getElem_cons_zero, Nat.add_zero] at c0
            clear hR hD hS hd hr HNo HYes hcl hsn
            go_wp2_with fail
            go_ret2
            exact ⟨by rw [HE.out.1, HE.out.2]; rfl, HB1.out.trans (hB.out.mono HB1.out.size)⟩
end Go.Proofs.Ytdnpoeegefkoiaa
