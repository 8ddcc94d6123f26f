/-
  Merged for a claim: R3G.
-/
import Derived.Test.YtdnpoeegefkoiaaGreatFJ6
import Derived.Deep.RegionWith
namespace Go.Proofs.YtdnpoeegefkoiaaGreat
open Go.RowKit

theorem wpAnyH_takeD {P : Program} {ops : Array Oper} {Q : Exit → Act → World → Prop} {md : Region.Mode} {S : World → Prop} {i : Nat} {oi : Oper} {d : Option Tmp} {v : Value} {fuel : Nat} {listed : Array Bool} {a : Act} {w : World} (hi : ops[i]? = some oi) (hd : oi.dst = d)
    (hs : Region.noSelect ops = true) (hf : Region.free md ops listed i = true) (hr : (Region.ready md ops listed).contains i = true)
    (hQ : ∀ c a w, Q (.panic c) (a.put d v) w → Q (.panic c) a w) (hw : Region.wanted oi (yielded ops a.tmps) = true) (hy : ∀ w, S w → (execOp a.eval oi).run P w = .ok (.value v) w) (hS : S w)
    (h : wpAnyH P md ops Q S fuel (listed.setIfInBounds i true) (a.put d v) w) : wpAnyH P md ops Q S (fuel + 1) listed a w := by
  subst hd
  exact wpAnyH_take hi hs hf hr hQ (.inl ⟨hw, hy⟩) hS h
theorem wpAnyH_skip {P : Program} {ops : Array Oper} {Q : Exit → Act → World → Prop} {md : Region.Mode} {S : World → Prop} {i : Nat} {oi : Oper} {d : Option Tmp} {fuel : Nat} {listed : Array Bool} {a : Act} {w : World} (hi : ops[i]? = some oi) (hd : oi.dst = d)
    (hs : Region.noSelect ops = true) (hf : Region.free md ops listed i = true) (hr : (Region.ready md ops listed).contains i = true)
    (hQ : ∀ c a w, Q (.panic c) (a.put d undef) w → Q (.panic c) a w) (hw : Region.wanted oi (yielded ops a.tmps) = false) (hS : S w)
    (h : wpAnyH P md ops Q S fuel (listed.setIfInBounds i true) (a.put d undef) w) : wpAnyH P md ops Q S (fuel + 1) listed a w := by
  subst hd
  exact wpAnyH_take hi hs hf hr hQ (.inr ⟨hw, rfl⟩) hS h

set_option maxRecDepth 100000 in
set_option maxHeartbeats 4000000 in
theorem refGet_in (A : Option Addr) (c : Nat) (l : List UInt8) (k : Nat) (w : World) (hk : k < l.length) (hcap : l.length ≤ c) (hn : l.length ≤ 1099511627776) (h : Lies w w.heap.size A l) :
    Calls Tryz.prog 28 #[.slice A l.length c, .int .i64 k] w (GetR l k w) := by
  have HLi := Lib.hid h
  obtain ⟨g, o, rfl, hg, hc⟩ := h.at_ hk
  have hc0 : ((w.alloc (.cells #[.int .u8 0, .int .u8 0, .int .i64 0, .int .i64 0, .int .i64 0, .int .i64 0, .int .i64 0] 53)).alloc (.cells #[.int .u8 0, .int .u8 0, .int .i64 0, .int .i64 0, .int .i64 0, .int .i64 0, .int .i64 0] 53)).cell? ⟨g, o + k, none⟩ = some (.int .u8 (oneX l k)) := by
    rw [(one_at hk).2.1]
    exact ((below_box2 w _ _).cell (p := ⟨g, o + k, none⟩) hg).trans hc
  have HY := Lib.hid (fun i n => got_yes (i := i) (n := n) hk)
  have HW := Lib.hid (fun i n => got_wrong (i := i) (n := n) hk)
  have HF := Lib.hid (got_fail hk)
  have HR := Lib.hid (fun i n => got_right (l := l) (k := k) (i := i) (n := n))
  have hu := oneX_u8 l k
  have HP := Lib.hid (fun w => refParts_any (oneX l k) w hu.1 hu.2)
  unfold PartsR3 at HP
  generalize oneX l k = K at *
  have hl := str_pts K
  have h4 := pts_len K
  have HI0 := Lib.hid (three w (.cells #[.int .u8 0, .int .u8 0, .int .i64 0, .int .i64 0, .int .i64 0, .int .i64 0, .int .i64 0] 53) (.cells #[.int .u8 0, .int .u8 0, .int .i64 0, .int .i64 0, .int .i64 0, .int .i64 0, .int .i64 0] 53) (.cells #[.int .u8 K, .int .u8 0, .int .i64 0, .int .i64 0, .int .i64 0, .int .i64 0, .int .i64 0] 53))
  have HB0 := Lib.hid (below3 w (.cells #[.int .u8 0, .int .u8 0, .int .i64 0, .int .i64 0, .int .i64 0, .int .i64 0, .int .i64 0] 53) (.cells #[.int .u8 0, .int .u8 0, .int .i64 0, .int .i64 0, .int .i64 0, .int .i64 0, .int .i64 0] 53) (.cells #[.int .u8 K, .int .u8 0, .int .i64 0, .int .i64 0, .int .i64 0, .int .i64 0, .int .i64 0] 53))
  have hk1 : ¬ ((l.length : Int) < (k : Int)) := by omega
  have hk2 : ((k : Int) == (l.length : Int)) = false := nbeq_of (by omega)
  clear h hc
  go_enter Tryz.func28, Tryz.ntmps28
  go_wp2_with fail
  refine (HP.out _).mono ?_
  rintro e w4 ⟨rfl, hb4⟩
  have HI4 : Hid (GotI l K ((k : Int) + 1) w 0 ((k : Int) + 1) w4) :=
    ⟨insOf K, rfl, InsAt.below HI0.out.2.2 hb4 (by simp), InsAt.below HI0.out.1 hb4 (by simp <;> omega), InsAt.below HI0.out.2.1 hb4 (by simp <;> omega), HB0.out.trans (hb4.mono (by simp <;> omega))⟩
  clear hb4 HI0 HB0 HP hc0 hk1 hk2
  go_wp2_with fail
  go_loopw [11, 12] (fun nx j wr => ∃ (q : Nat) (y : Int), q ≤ (ptsOf K).length ∧ nx = .int .i64 y ∧ j = .int .i64 q ∧ Hid (GotI l K ((k : Int) + 1) w q y wr)) (fun _ j _ => (ptsOf K).length - (intOf j).toNat)
  case atStart => exact ⟨0, (k : Int) + 1, by omega, rfl, rfl, HI4⟩
  case round =>
    obtain ⟨q, y, hq, rfl, rfl, hI⟩ := hrel
    clear HI4
    obtain ⟨i, hi, a1, a2, a3, a4⟩ := hI.out
    have hz := a4.size
    have HA1 := Lib.hid a1
    have HA2 := Lib.hid a2
    have HA3 := Lib.hid a3
    have HA4 := Lib.hid a4
    by_cases hlt : q < (ptsOf K).length
    · obtain ⟨p, hp⟩ : ∃ p, (ptsOf K)[q]? = some p := ⟨_, List.getElem?_eq_getElem hlt⟩
      have hix := index_ltr hp
      have HST := Lib.hid (goti_step hp hi a2 a3 a4)
      have HFA := Lib.hid (fun he => HF.out (goti_fail hp hi he))
      have h0 := cells0 a3
      unfold Cells0 at h0
      obtain ⟨c0, c1, c2, c3, c4, c5, c6⟩ := h0
      obtain ⟨⟨d0, d1, d2, d3, d4, d5, d6⟩, df⟩ := ins_cells a1
      have h0 := cells0 a2
      unfold Cells0 at h0
      obtain ⟨r0, r1, r2, r3, r4, r5, r6⟩ := h0
      have rf := (ins_cells a2).2
      clear hp hi a1 a2 a3 a4 hI
      cases p
      case op =>
        simp only [ltrZ] at hix
        have hx := oneX_u8 l y
        have HO := Lib.hid (refOne_any (some ⟨g, o, none⟩) c l y wr w.heap.size hn (HLi.out.below HA4.out))
        have HST := Lib.hid (fun (he : stV l.length y 1 = 0) => HST.out he)
        have HFA := Lib.hid (fun (he : ¬ stV l.length y 1 = 0) => HFA.out he)
        by_cases he : stV l.length y 1 = 0
        · rw [he] at HO
          have HS := Lib.hid (HST.out he)
          clear he HST HFA c0 c1 c2 c3 c4 c5 c6 r0 r1 r2 r3 r4 r5 r6 rf
          go_wp2_with (go_at_call 40; refine HO.out.mono ?_; rintro e w' ⟨rfl, rfl⟩)
          go_roundw
          case rel => exact ⟨q + 1, oneN l y, by omega, rfl, by go_num, HS.out _ (grown_set _ _ _ _) (set_o HA1.out _)⟩
          case measure => simp [intOf]; omega
        · have b0 := (show (stV l.length y 1 != 0) = true by simpa using he)
          have HN := Lib.hid (HFA.out he)
          have HX := Lib.hid (got_out (i := insOf 0) (W := wr.setCell ⟨w.heap.size + 1 + 1, 1, none⟩ (.int .u8 (oneX l y))) HA2.out HA4.out (grown_set _ _ _ _))
          clear he HST HFA
          go_wp2_with (go_at_call 40; refine HO.out.mono ?_; rintro e w' ⟨rfl, rfl⟩)
          refine bodyPost_ret (ins_back3 rfl rfl HX.out.1) rfl ?_
          unfold GetR
          rw [HN.out.1, HN.out.2.1, HN.out.2.2]
          exact ⟨rfl, HX.out.2⟩
      case reg =>
        simp only [ltrZ] at hix
        have hx := oneX_u8 l y
        have HO := Lib.hid (refOne_any (some ⟨g, o, none⟩) c l y wr w.heap.size hn (HLi.out.below HA4.out))
        have HST := Lib.hid (fun (he : stV l.length y 1 = 0) => HST.out he)
        have HFA := Lib.hid (fun (he : ¬ stV l.length y 1 = 0) => HFA.out he)
        by_cases he : stV l.length y 1 = 0
        · rw [he] at HO
          have HS := Lib.hid (HST.out he)
          clear he HST HFA c0 c1 c2 c3 c4 c5 c6 r0 r1 r2 r3 r4 r5 r6 rf
          go_wp2_with (go_at_call 40; refine HO.out.mono ?_; rintro e w' ⟨rfl, rfl⟩)
          go_roundw
          case rel => exact ⟨q + 1, oneN l y, by omega, rfl, by go_num, HS.out _ (grown_set _ _ _ _) (set_r HA1.out _)⟩
          case measure => simp [intOf]; omega
        · have b0 := (show (stV l.length y 1 != 0) = true by simpa using he)
          have HN := Lib.hid (HFA.out he)
          have HX := Lib.hid (got_out (i := insOf 0) (W := wr.setCell ⟨w.heap.size + 1 + 1, 2, none⟩ (.int .i64 (oneX l y))) HA2.out HA4.out (grown_set _ _ _ _))
          clear he HST HFA
          go_wp2_with (go_at_call 40; refine HO.out.mono ?_; rintro e w' ⟨rfl, rfl⟩)
          refine bodyPost_ret (ins_back3 rfl rfl HX.out.1) rfl ?_
          unfold GetR
          rw [HN.out.1, HN.out.2.1, HN.out.2.2]
          exact ⟨rfl, HX.out.2⟩
      case both =>
        simp only [ltrZ] at hix
        have hx := oneX_u8 l y
        have HO := Lib.hid (refOne_any (some ⟨g, o, none⟩) c l y wr w.heap.size hn (HLi.out.below HA4.out))
        have HST := Lib.hid (fun (he : stV l.length y 1 = 0) => HST.out he)
        have HFA := Lib.hid (fun (he : ¬ stV l.length y 1 = 0) => HFA.out he)
        by_cases he : stV l.length y 1 = 0
        · rw [he] at HO
          have HS := Lib.hid (HST.out he)
          clear he HST HFA c0 c1 c2 c3 c4 c5 c6 r0 r1 r2 r3 r4 r5 r6 rf
          go_wp2_with (go_at_call 40; refine HO.out.mono ?_; rintro e w' ⟨rfl, rfl⟩)
          go_roundw
          case rel => exact ⟨q + 1, oneN l y, by omega, rfl, by go_num, HS.out _ ((grown_set _ _ _ _).trans (grown_set _ _ _ _)) (set_s (set_r HA1.out _) _)⟩
          case measure => simp [intOf]; omega
        · have b0 := (show (stV l.length y 1 != 0) = true by simpa using he)
          have HN := Lib.hid (HFA.out he)
          have HX := Lib.hid (got_out (i := insOf 0) (W := (wr.setCell ⟨w.heap.size + 1 + 1, 2, none⟩ (.int .i64 (oneX l y / 16))).setCell ⟨w.heap.size + 1 + 1, 3, none⟩ (.int .i64 (oneX l y % 16))) HA2.out HA4.out ((grown_set _ _ _ _).trans (grown_set _ _ _ _)))
          clear he HST HFA
          go_wp2_with (go_at_call 40; refine HO.out.mono ?_; rintro e w' ⟨rfl, rfl⟩)
          refine bodyPost_ret (ins_back3 rfl rfl HX.out.1) rfl ?_
          unfold GetR
          rw [HN.out.1, HN.out.2.1, HN.out.2.2]
          exact ⟨rfl, HX.out.2⟩
      case third =>
        simp only [ltrZ] at hix
        have hx := oneX_u8 l y
        have HO := Lib.hid (refOne_any (some ⟨g, o, none⟩) c l y wr w.heap.size hn (HLi.out.below HA4.out))
        have HST := Lib.hid (fun (he : stV l.length y 1 = 0) => HST.out he)
        have HFA := Lib.hid (fun (he : ¬ stV l.length y 1 = 0) => HFA.out he)
        by_cases he : stV l.length y 1 = 0
        · rw [he] at HO
          have HS := Lib.hid (HST.out he)
          clear he HST HFA c0 c1 c2 c3 c4 c5 c6 r0 r1 r2 r3 r4 r5 r6 rf
          go_wp2_with (go_at_call 40; refine HO.out.mono ?_; rintro e w' ⟨rfl, rfl⟩)
          go_roundw
          case rel => exact ⟨q + 1, oneN l y, by omega, rfl, by go_num, HS.out _ (grown_set _ _ _ _) (set_t HA1.out _)⟩
          case measure => simp [intOf]; omega
        · have b0 := (show (stV l.length y 1 != 0) = true by simpa using he)
          have HN := Lib.hid (HFA.out he)
          have HX := Lib.hid (got_out (i := insOf 0) (W := wr.setCell ⟨w.heap.size + 1 + 1, 4, none⟩ (.int .i64 (oneX l y))) HA2.out HA4.out (grown_set _ _ _ _))
          clear he HST HFA
          go_wp2_with (go_at_call 40; refine HO.out.mono ?_; rintro e w' ⟨rfl, rfl⟩)
          refine bodyPost_ret (ins_back3 rfl rfl HX.out.1) rfl ?_
          unfold GetR
          rw [HN.out.1, HN.out.2.1, HN.out.2.2]
          exact ⟨rfl, HX.out.2⟩
      case num =>
        simp only [ltrZ] at hix
        have HO := Lib.hid (refS_any (some ⟨g, o, none⟩) c l y wr hn ((HLi.out.below HA4.out).more hz))
        have HST := Lib.hid (fun (he : rdE true l y = 0) => HST.out he)
        have HFA := Lib.hid (fun (he : ¬ rdE true l y = 0) => HFA.out he)
        unfold RdR at HO
        by_cases he : rdE true l y = 0
        · rw [he] at HO
          have HS := Lib.hid (HST.out he)
          clear he HST HFA c0 c1 c2 c3 c4 c5 c6 r0 r1 r2 r3 r4 r5 r6 rf
          go_wp2_with fail
          refine HO.out.mono ?_
          rintro e w5 ⟨rfl, hb5⟩
          have HB5 := Lib.hid hb5
          have HA5 := Lib.hid (HA1.out.below hb5 HA1.out.lt)
          clear hb5 HO d0 d1 d2 d3 d4 d5 d6 df
          obtain ⟨⟨d0, d1, d2, d3, d4, d5, d6⟩, df⟩ := ins_cells HA5.out
          go_wp2_with fail
          go_roundw
          case rel => exact ⟨q + 1, rdN true l y, by omega, rfl, by go_num, HS.out _ ((grown_below HB5.out _).trans (grown_set _ _ _ _)) (set_n HA5.out _)⟩
          case measure => simp [intOf]; omega
        · have b0 := (show (rdE true l y != 0) = true by simpa using he)
          have HN := Lib.hid (HFA.out he)
          clear he HST HFA c0 c1 c2 c3 c4 c5 c6 r0 r1 r2 r3 r4 r5 r6 rf
          go_wp2_with fail
          refine HO.out.mono ?_
          rintro e w5 ⟨rfl, hb5⟩
          have HB5 := Lib.hid hb5
          have h0 := cells0 (HA3.out.below hb5 HA3.out.lt)
          unfold Cells0 at h0
          obtain ⟨c0, c1, c2, c3, c4, c5, c6⟩ := h0
          clear d0 d1 d2 d3 d4 d5 d6 df
          have h0 := cells0 (HA2.out.below hb5 HA2.out.lt)
          unfold Cells0 at h0
          obtain ⟨r0, r1, r2, r3, r4, r5, r6⟩ := h0
          have rf := (ins_cells (HA2.out.below hb5 HA2.out.lt)).2
          obtain ⟨⟨d0, d1, d2, d3, d4, d5, d6⟩, df⟩ := ins_cells (HA1.out.below hb5 HA1.out.lt)
          clear hb5 HO
          have HX := Lib.hid (got_out (i := insOf 0) (W := w5.setCell ⟨w.heap.size + 1 + 1, 5, none⟩ (.int .i64 (rdX true l y))) HA2.out HA4.out ((grown_below HB5.out _).trans (grown_set _ _ _ _)))
          go_wp2_with fail
          refine bodyPost_ret (ins_back3 rfl rfl HX.out.1) rfl ?_
          unfold GetR
          rw [HN.out.1, HN.out.2.1, HN.out.2.2]
          exact ⟨rfl, HX.out.2⟩
      case many =>
        simp only [ltrZ] at hix
        have HO := Lib.hid (refU_any (some ⟨g, o, none⟩) c l y wr hn ((HLi.out.below HA4.out).more hz))
        have HST := Lib.hid (fun (he : rdE false l y = 0) => HST.out he)
        have HFA := Lib.hid (fun (he : ¬ rdE false l y = 0) => HFA.out he)
        unfold RdR at HO
        by_cases he : rdE false l y = 0
        · rw [he] at HO
          have HS := Lib.hid (HST.out he)
          clear he HST HFA c0 c1 c2 c3 c4 c5 c6 r0 r1 r2 r3 r4 r5 r6 rf
          go_wp2_with fail
          refine HO.out.mono ?_
          rintro e w5 ⟨rfl, hb5⟩
          have HB5 := Lib.hid hb5
          have HA5 := Lib.hid (HA1.out.below hb5 HA1.out.lt)
          clear hb5 HO d0 d1 d2 d3 d4 d5 d6 df
          obtain ⟨⟨d0, d1, d2, d3, d4, d5, d6⟩, df⟩ := ins_cells HA5.out
          go_wp2_with fail
          go_roundw
          case rel => exact ⟨q + 1, rdN false l y, by omega, rfl, by go_num, HS.out _ ((grown_below HB5.out _).trans (grown_set _ _ _ _)) (set_m HA5.out _)⟩
          case measure => simp [intOf]; omega
        · have b0 := (show (rdE false l y != 0) = true by simpa using he)
          have HN := Lib.hid (HFA.out he)
          clear he HST HFA c0 c1 c2 c3 c4 c5 c6 r0 r1 r2 r3 r4 r5 r6 rf
          go_wp2_with fail
          refine HO.out.mono ?_
          rintro e w5 ⟨rfl, hb5⟩
          have HB5 := Lib.hid hb5
          have h0 := cells0 (HA3.out.below hb5 HA3.out.lt)
          unfold Cells0 at h0
          obtain ⟨c0, c1, c2, c3, c4, c5, c6⟩ := h0
          clear d0 d1 d2 d3 d4 d5 d6 df
          have h0 := cells0 (HA2.out.below hb5 HA2.out.lt)
          unfold Cells0 at h0
          obtain ⟨r0, r1, r2, r3, r4, r5, r6⟩ := h0
          have rf := (ins_cells (HA2.out.below hb5 HA2.out.lt)).2
          obtain ⟨⟨d0, d1, d2, d3, d4, d5, d6⟩, df⟩ := ins_cells (HA1.out.below hb5 HA1.out.lt)
          clear hb5 HO
          have HX := Lib.hid (got_out (i := insOf 0) (W := w5.setCell ⟨w.heap.size + 1 + 1, 6, none⟩ (.int .i64 (wrap64 (rdX false l y)))) HA2.out HA4.out ((grown_below HB5.out _).trans (grown_set _ _ _ _)))
          go_wp2_with fail
          refine bodyPost_ret (ins_back3 rfl rfl HX.out.1) rfl ?_
          unfold GetR
          rw [HN.out.1, HN.out.2.1, HN.out.2.2]
          exact ⟨rfl, HX.out.2⟩
      case to =>
        simp only [ltrZ] at hix
        have HO := Lib.hid (refPlace_any (some ⟨g, o, none⟩) c l y wr w.heap.size hn (HLi.out.below HA4.out))
        have HST := Lib.hid (fun (he : stV l.length y 3 = 0) => HST.out he)
        have HFA := Lib.hid (fun (he : ¬ stV l.length y 3 = 0) => HFA.out he)
        by_cases he : stV l.length y 3 = 0
        · rw [he] at HO
          have HS := Lib.hid (HST.out he)
          clear he HST HFA c0 c1 c2 c3 c4 c5 c6 r0 r1 r2 r3 r4 r5 r6 rf
          go_wp2_with fail
          refine HO.out.mono ?_
          rintro e w5 ⟨rfl, hb5⟩
          have HB5 := Lib.hid hb5
          have HA5 := Lib.hid (HA1.out.below hb5 HA1.out.lt)
          clear hb5 HO d0 d1 d2 d3 d4 d5 d6 df
          obtain ⟨⟨d0, d1, d2, d3, d4, d5, d6⟩, df⟩ := ins_cells HA5.out
          go_wp2_with fail
          go_roundw
          case rel => exact ⟨q + 1, plN l y, by omega, rfl, by go_num, HS.out _ ((grown_below HB5.out _).trans (grown_set _ _ _ _)) (set_n HA5.out _)⟩
          case measure => simp [intOf]; omega
        · have b0 := (show (stV l.length y 3 != 0) = true by simpa using he)
          have HN := Lib.hid (HFA.out he)
          clear he HST HFA c0 c1 c2 c3 c4 c5 c6 r0 r1 r2 r3 r4 r5 r6 rf
          go_wp2_with fail
          refine HO.out.mono ?_
          rintro e w5 ⟨rfl, hb5⟩
          have HB5 := Lib.hid hb5
          have h0 := cells0 (HA3.out.below hb5 HA3.out.lt)
          unfold Cells0 at h0
          obtain ⟨c0, c1, c2, c3, c4, c5, c6⟩ := h0
          clear d0 d1 d2 d3 d4 d5 d6 df
          have h0 := cells0 (HA2.out.below hb5 HA2.out.lt)
          unfold Cells0 at h0
          obtain ⟨r0, r1, r2, r3, r4, r5, r6⟩ := h0
          have rf := (ins_cells (HA2.out.below hb5 HA2.out.lt)).2
          obtain ⟨⟨d0, d1, d2, d3, d4, d5, d6⟩, df⟩ := ins_cells (HA1.out.below hb5 HA1.out.lt)
          clear hb5 HO
          have HX := Lib.hid (got_out (i := insOf 0) (W := w5.setCell ⟨w.heap.size + 1 + 1, 5, none⟩ (.int .i64 (plX l y))) HA2.out HA4.out ((grown_below HB5.out _).trans (grown_set _ _ _ _)))
          go_wp2_with fail
          refine bodyPost_ret (ins_back3 rfl rfl HX.out.1) rfl ?_
          unfold GetR
          rw [HN.out.1, HN.out.2.1, HN.out.2.2]
          exact ⟨rfl, HX.out.2⟩
      case how =>
        simp only [ltrZ] at hix
        have hx := oneX_u8 l y
        have HO := Lib.hid (refOne_any (some ⟨g, o, none⟩) c l y wr w.heap.size hn (HLi.out.below HA4.out))
        have HST := Lib.hid (fun (he : stV l.length y 1 = 0) => HST.out he)
        have HFA := Lib.hid (fun (he : ¬ stV l.length y 1 = 0) => HFA.out he)
        by_cases he : stV l.length y 1 = 0
        · rw [he] at HO
          have HS := Lib.hid (HST.out he)
          clear he HST HFA c0 c1 c2 c3 c4 c5 c6 r0 r1 r2 r3 r4 r5 r6 rf
          go_wp2_with (go_at_call 40; refine HO.out.mono ?_; rintro e w' ⟨rfl, rfl⟩)
          go_roundw
          case rel => exact ⟨q + 1, oneN l y, by omega, rfl, by go_num, HS.out _ (grown_set _ _ _ _) (set_n HA1.out _)⟩
          case measure => simp [intOf]; omega
        · have b0 := (show (stV l.length y 1 != 0) = true by simpa using he)
          have HN := Lib.hid (HFA.out he)
          have HX := Lib.hid (got_out (i := insOf 0) (W := wr.setCell ⟨w.heap.size + 1 + 1, 5, none⟩ (.int .i64 (oneX l y))) HA2.out HA4.out (grown_set _ _ _ _))
          clear he HST HFA
          go_wp2_with (go_at_call 40; refine HO.out.mono ?_; rintro e w' ⟨rfl, rfl⟩)
          refine bodyPost_ret (ins_back3 rfl rfl HX.out.1) rfl ?_
          unfold GetR
          rw [HN.out.1, HN.out.2.1, HN.out.2.2]
          exact ⟨rfl, HX.out.2⟩
    · rw [List.take_of_length_le (by omega)] at hi
      have HRi := Lib.hid (HR.out i y hi)
      have HYi := Lib.hid (HY.out i y hi)
      have HWi := Lib.hid (HW.out i y hi)
      have hd : Cell7 wr (w.heap.size + 1 + 1) i := (ins_cells a1).1
      have hlt1 := a1.lt
      unfold Cell7 at hd
      obtain ⟨d0, d1, d2, d3, d4, d5, d6⟩ := hd
      clear hi a1 a2 a3 a4 hI HR HY HW HF
      unfold RightsR RR at HRi
      rcases hr : rightB i with _ | _
      · have HN := Lib.hid (HWi.out hr)
        rw [hr] at HRi
        clear hr HYi HWi
        unfold iv ic at HRi
        go_wp2_with fail
        refine wp_region_held_drew (S := fun W => W.cell? ⟨w.heap.size + 1 + 1, 0, none⟩ = some (.int .u8 i.k) ∧ W.cell? ⟨w.heap.size + 1 + 1, 1, none⟩ = some (.int .u8 i.o) ∧ W.cell? ⟨w.heap.size + 1 + 1, 2, none⟩ = some (.int .i64 i.r) ∧ W.cell? ⟨w.heap.size + 1 + 1, 3, none⟩ = some (.int .i64 i.s) ∧ W.cell? ⟨w.heap.size + 1 + 1, 4, none⟩ = some (.int .i64 i.t) ∧ W.cell? ⟨w.heap.size + 1 + 1, 5, none⟩ = some (.int .i64 i.n) ∧ W.cell? ⟨w.heap.size + 1 + 1, 6, none⟩ = some (.int .i64 i.m)) (by kernel_rfl) (by (try dsimp only); go_keep) (fun hHeld => ?_)
        refine wpAnyH_takeD (i := 0) (d := some 161) (v := ?_) rfl rfl (by kernel_rfl) (by kernel_rfl) (by kernel_rfl) (fun _ _ _ h => h) (by kernel_rfl) ?hyF0 (by assumption) ?restF0
        case hyF0 => (intro W hSw; (try dsimp only at hSw); go_simp; try (with_reducible rfl))
        (try simp only [Act.put, List.setIfInBounds_toArray, List.set_cons_zero, List.set_cons_succ])
        refine wpAnyH_ready (rs := [1]) (by kernel_rfl) (by simp) ?_
        refine AllReadyH.cons rfl (fun K hK => ?_) AllReadyH.nil
        go_simp
        go_at_call 31
        refine (HRi.out _).mono ?_
        rintro e w9 ⟨rfl, hb9⟩
        have hz9 := hb9.size
        have hc9 : Cell7 w9 (w.heap.size + 1 + 1) i := Cell7.below (show Cell7 _ (w.heap.size + 1 + 1) i from hHeld) hb9 (by simpa using hlt1)
        go_wp2_with fail
        refine hK.out _ _ (by exact hc9) (fun hHeld => ?_)
        clear hK K
        (try simp only [Act.put, List.setIfInBounds_toArray, List.set_cons_zero, List.set_cons_succ])
        refine wpAnyH_takeD (i := 2) (d := some 163) (v := ?_) rfl rfl (by kernel_rfl) (by kernel_rfl) (by kernel_rfl) (fun _ _ _ h => h) (by kernel_rfl) ?hyF2 (by assumption) ?restF2
        case hyF2 => (intro W hSw; (try dsimp only at hSw); go_simp; try (with_reducible rfl))
        (try simp only [Act.put, List.setIfInBounds_toArray, List.set_cons_zero, List.set_cons_succ])
        refine wpAnyH_takeD (i := 3) (d := some 164) (v := ?_) rfl rfl (by kernel_rfl) (by kernel_rfl) (by kernel_rfl) (fun _ _ _ h => h) (by kernel_rfl) ?hyF3 (by assumption) ?restF3
        case hyF3 => (intro W hSw; (try dsimp only at hSw); go_simp; try (with_reducible rfl))
        (try simp only [Act.put, List.setIfInBounds_toArray, List.set_cons_zero, List.set_cons_succ])
        refine wpAnyH_skip (i := 4) (d := some 165) rfl rfl (by kernel_rfl) (by kernel_rfl) (by kernel_rfl) (fun _ _ _ h => h) (by kernel_rfl) (by assumption) ?_
        (try simp only [Act.put, List.setIfInBounds_toArray, List.set_cons_zero, List.set_cons_succ])
        refine wpAnyH_skip (i := 5) (d := some 166) rfl rfl (by kernel_rfl) (by kernel_rfl) (by kernel_rfl) (fun _ _ _ h => h) (by kernel_rfl) (by assumption) ?_
        (try simp only [Act.put, List.setIfInBounds_toArray, List.set_cons_zero, List.set_cons_succ])
        refine wpAnyH_skip (i := 6) (d := some 167) rfl rfl (by kernel_rfl) (by kernel_rfl) (by kernel_rfl) (fun _ _ _ h => h) (by kernel_rfl) (by assumption) ?_
        (try simp only [Act.put, List.setIfInBounds_toArray, List.set_cons_zero, List.set_cons_succ])
        refine wpAnyH_skip (i := 7) (d := some 168) rfl rfl (by kernel_rfl) (by kernel_rfl) (by kernel_rfl) (fun _ _ _ h => h) (by kernel_rfl) (by assumption) ?_
        (try simp only [Act.put, List.setIfInBounds_toArray, List.set_cons_zero, List.set_cons_succ])
        refine wpAnyH_takeD (i := 8) (d := some 169) (v := ?_) rfl rfl (by kernel_rfl) (by kernel_rfl) (by kernel_rfl) (fun _ _ _ h => h) (by kernel_rfl) ?hyF8 (by assumption) ?restF8
        case hyF8 => (intro W hSw; (try dsimp only at hSw); go_simp; try (with_reducible rfl))
        (try simp only [Act.put, List.setIfInBounds_toArray, List.set_cons_zero, List.set_cons_succ])
        refine wpAnyH_takeD (i := 9) (d := some 170) (v := ?_) rfl rfl (by kernel_rfl) (by kernel_rfl) (by kernel_rfl) (fun _ _ _ h => h) (by kernel_rfl) ?hyF9 (by assumption) ?restF9
        case hyF9 => (intro W hSw; (try dsimp only at hSw); go_simp; try (with_reducible rfl))
        (try simp only [Act.put, List.setIfInBounds_toArray, List.set_cons_zero, List.set_cons_succ])
        refine wpAnyH_skip (i := 10) (d := some 171) rfl rfl (by kernel_rfl) (by kernel_rfl) (by kernel_rfl) (fun _ _ _ h => h) (by kernel_rfl) (by assumption) ?_
        (try simp only [Act.put, List.setIfInBounds_toArray, List.set_cons_zero, List.set_cons_succ])
        refine wpAnyH_skip (i := 11) (d := some 172) rfl rfl (by kernel_rfl) (by kernel_rfl) (by kernel_rfl) (fun _ _ _ h => h) (by kernel_rfl) (by assumption) ?_
        (try simp only [Act.put, List.setIfInBounds_toArray, List.set_cons_zero, List.set_cons_succ])
        refine wpAnyH_skip (i := 12) (d := some 173) rfl rfl (by kernel_rfl) (by kernel_rfl) (by kernel_rfl) (fun _ _ _ h => h) (by kernel_rfl) (by assumption) ?_
        (try simp only [Act.put, List.setIfInBounds_toArray, List.set_cons_zero, List.set_cons_succ])
        refine wpAnyH_skip (i := 13) (d := some 174) rfl rfl (by kernel_rfl) (by kernel_rfl) (by kernel_rfl) (fun _ _ _ h => h) (by kernel_rfl) (by assumption) ?_
        (try simp only [Act.put, List.setIfInBounds_toArray, List.set_cons_zero, List.set_cons_succ])
        refine wpAnyH_skip (i := 14) (d := some 175) rfl rfl (by kernel_rfl) (by kernel_rfl) (by kernel_rfl) (fun _ _ _ h => h) (by kernel_rfl) (by assumption) ?_
        (try simp only [Act.put, List.setIfInBounds_toArray, List.set_cons_zero, List.set_cons_succ])
        refine wpAnyH_skip (i := 15) (d := some 176) rfl rfl (by kernel_rfl) (by kernel_rfl) (by kernel_rfl) (fun _ _ _ h => h) (by kernel_rfl) (by assumption) ?_
        (try simp only [Act.put, List.setIfInBounds_toArray, List.set_cons_zero, List.set_cons_succ])
        refine wpAnyH_skip (i := 16) (d := some 177) rfl rfl (by kernel_rfl) (by kernel_rfl) (by kernel_rfl) (fun _ _ _ h => h) (by kernel_rfl) (by assumption) ?_
        (try simp only [Act.put, List.setIfInBounds_toArray, List.set_cons_zero, List.set_cons_succ])
        refine wpAnyH_skip (i := 17) (d := some 178) rfl rfl (by kernel_rfl) (by kernel_rfl) (by kernel_rfl) (fun _ _ _ h => h) (by kernel_rfl) (by assumption) ?_
        (try simp only [Act.put, List.setIfInBounds_toArray, List.set_cons_zero, List.set_cons_succ])
        refine wpAnyH_takeD (i := 18) (d := some 179) (v := ?_) rfl rfl (by kernel_rfl) (by kernel_rfl) (by kernel_rfl) (fun _ _ _ h => h) (by kernel_rfl) ?hyF18 (by assumption) ?restF18
        case hyF18 => (intro W hSw; (try dsimp only at hSw); go_simp; try (with_reducible rfl))
        (try simp only [Act.put, List.setIfInBounds_toArray, List.set_cons_zero, List.set_cons_succ])
        refine wpAnyH_done (by kernel_rfl) ?_ _
        have hb9' : Below wr.heap.size wr w9 := by first | exact drawn hb9 | exact hb9
        clear d0 d1 d2 d3 d4 d5 d6
        have h0 := cells0 (HA2.out.below hb9' HA2.out.lt)
        have h1 := cells0 (HA3.out.below hb9' HA3.out.lt)
        unfold Cells0 at h0 h1
        obtain ⟨r0, r1, r2, r3, r4, r5, r6⟩ := h0
        obtain ⟨q0, q1, q2, q3, q4, q5, q6⟩ := h1
        have rf := (ins_cells (HA2.out.below hb9' HA2.out.lt)).2
        have HX := Lib.hid (got_out (i := insOf 0) (W := w9) HA2.out HA4.out (grown_below hb9' _))
        clear hb9 hb9' hHeld hc9
        go_wp2_with fail
        refine bodyPost_ret (ins_back3 rfl rfl HX.out.1) rfl ?_
        unfold GetR
        rw [HN.out.1, HN.out.2.1, HN.out.2.2]
        exact ⟨rfl, HX.out.2⟩
      · obtain ⟨f1, f2, f3, hrg, hpre, hy⟩ := HYi.out hr
        rw [hr] at HRi
        have HRi' := HRi
        have HQ := Lib.hid (And.intro f1 (And.intro f2 f3))
        have hm := hpre.length_le
        rw [List.length_drop] at hm
        obtain ⟨P, hP⟩ : ∃ P, P = ownB i := ⟨_, rfl⟩
        rw [← hP] at hpre hy hm
        have HPU := Lib.hid (fun W => (refPut_any i W hrg hr HRi'.out))
        rw [← hP] at HPU
        obtain ⟨z, hz9⟩ : ∃ z, z = k + P.length := ⟨_, rfl⟩
        rw [← hz9] at hy
        subst hy
        have HLP := Lib.hid (lies_sub (HLi.out.below HA4.out) hpre)
        have HEQ := Lib.hid (fun W B d d2 B1 (h1 : Lies W B1 B P) (h2 : Lies W w.heap.size (some ⟨g, o + k, none⟩) P) => eqIs (P := P) (q := P.length) (q2 := z - k) B (some ⟨g, o + k, none⟩) d d2 B1 w.heap.size W rfl (by omega) (by omega) h1 h2)
        have e1 : (0 : Int) ≤ (k : Int) := by omega
        have e2 : (k : Int) ≤ (z : Int) := by omega
        have e3 : (z : Int) ≤ (c : Int) := by omega
        have e4 : k ≤ z := by omega
        have e5 : z ≤ c := by omega
        have e6 : decide ((l.length : Int) < (z : Int)) = false := by simp; omega
        have e7 : decide (l.length < z) = false := by simp; omega
        clear hr HYi HWi f1 f2 f3 hP hpre hrg hm HRi' hz9
        unfold iv ic at HRi HPU
        go_wp2_with fail
        go_region_held3 (fun W => W.cell? ⟨w.heap.size + 1 + 1, 0, none⟩ = some (.int .u8 i.k) ∧ W.cell? ⟨w.heap.size + 1 + 1, 1, none⟩ = some (.int .u8 i.o) ∧ W.cell? ⟨w.heap.size + 1 + 1, 2, none⟩ = some (.int .i64 i.r) ∧ W.cell? ⟨w.heap.size + 1 + 1, 3, none⟩ = some (.int .i64 i.s) ∧ W.cell? ⟨w.heap.size + 1 + 1, 4, none⟩ = some (.int .i64 i.t) ∧ W.cell? ⟨w.heap.size + 1 + 1, 5, none⟩ = some (.int .i64 i.n) ∧ W.cell? ⟨w.heap.size + 1 + 1, 6, none⟩ = some (.int .i64 i.m)) (first | go_keep | (exact Cell7.below (show Cell7 _ (w.heap.size + 1 + 1) i from by assumption) hb10 (by omega)) | (exact Cell7.below (show Cell7 _ (w.heap.size + 1 + 1) i from by assumption) hb9 (by first | omega | (simp; omega)))) (first
          | (go_at_call 31; refine (HRi.out _).mono ?_; rintro e w9 ⟨rfl, hb9⟩; have hs9 : wr.heap.size ≤ w9.heap.size := hb9.size; have hM9 : Lies w9 w.heap.size (some ⟨g, o + k, none⟩) P := Lies.below (by exact HLP.out) (Below.mono hb9 (by first | exact hz | (simp; omega))))
          | (go_at_call 22; refine (HPU.out _).mono ?_; rintro e w10 ⟨v10, rfl, ho10, hb10⟩; obtain ⟨Ay, cy, rfl, _, _, hLy⟩ := ho10.form; have hM10 : Lies w10 w.heap.size (some ⟨g, o + k, none⟩) P := Lies.below (by exact hM9) (Below.mono hb10 (by omega)))
          | (go_at_call 10; refine (HEQ.out _ Ay cy _ _ (by exact hLy) (by exact hM10)).mono ?_; rintro e w' ⟨rfl, rfl⟩))
        have hb9' : Below wr.heap.size wr w9 := by first | exact drawn hb9 | exact hb9
        have HW10 := Lib.hid (hb9'.trans (hb10.mono hs9))
        clear d0 d1 d2 d3 d4 d5 d6
        obtain ⟨⟨d0, d1, d2, d3, d4, d5, d6⟩, _⟩ := ins_cells (HA1.out.below HW10.out HA1.out.lt)
        have h0 := cells0 (HA2.out.below HW10.out HA2.out.lt)
        unfold Cells0 at h0
        obtain ⟨r0, r1, r2, r3, r4, r5, r6⟩ := h0
        have rf := (ins_cells (HA2.out.below HW10.out HA2.out.lt)).2
        have HX := Lib.hid (got_out (i := i) (W := w10) HA2.out HA4.out (grown_below HW10.out _))
        clear hb9 hb9' hb10 hM9 hM10 hLy ho10 e1 e2 e3 e4 e5 e6 e7
        go_wp2_with fail
        refine bodyPost_ret (ins_back3 rfl rfl HX.out.1) rfl ?_
        unfold GetR
        rw [HQ.out.1, HQ.out.2.1, HQ.out.2.2]
        exact ⟨rfl, HX.out.2⟩

end Go.Proofs.YtdnpoeegefkoiaaGreat
