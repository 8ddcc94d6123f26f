/-
  The walk of ExprParts.
-/
import Derived.Test.YtdnpoeegefkoiaaE6S
import Derived.Deep.RegionHeld3
import Derived.Deep.CutRange
namespace Go.Proofs.Ytdnpoeegefkoiaa
open Go Go.RowKit

theorem vbox_keep {W W0 : World} {g : Nat} {V : Vw} {P : Vp} (h : VBox W0 g V P) (hb : Below W0.heap.size W0 W) (hg : g < W0.heap.size) : VBox W g V P := h.below hb hg
theorem eval_w {A : Option Addr} {n c : Nat} {l : List Lc} {V : Vw} {P : Vp} {W0 w : World} (hl : l.length = n) (hn : n ≤ 1000000) (h : LLies w w.heap.size A l) (hV : VLies W0 W0.heap.size V P) (hb : Below W0.heap.size W0 w) :
    Calls Try.prog 22 #[.slice A n c, .agg #[.slice P.a1 V.K.length P.c1, .slice P.a2 V.R.length P.c2, .int .i64 V.B, .slice P.a3 V.W.length P.c3]] w fun e w' => e = .returned (.tuple #[.int .i64 (evX V l), .int .i64 (evE V l)]) ∧ Below w.heap.size w w' :=
  eval6_n A n c l V P w hl (by omega) h ((hV.below hb).more hb.size)
theorem right_w {A : Option Addr} {n c : Nat} {l : List Lc} {w : World} (hl : l.length = n) (hn : n ≤ 1000000) (h : LLies w w.heap.size A l) :
    Calls Try.prog 15 #[.slice A n c] w fun e w' => e = .returned (.bool (rightC l)) ∧ Below w.heap.size w w' := right6_n A n c l w hl (by omega) h

set_option maxRecDepth 100000 in
set_option maxHeartbeats 4000000 in
theorem exprParts_any (A1 A2 : Option Addr) (c1 c2 : Nat) (l m : List Lc) (V : Vw) (P : Vp) (w : World)
    (hc1 : A1 = none → c1 = 0) (hc2 : A2 = none → c2 = 0) (h1 : LLies w w.heap.size A1 l) (h2 : LLies w w.heap.size A2 m) (hV : VIn w V P) :
    Calls Try.prog 6 #[.slice A1 l.length c1, .slice A2 m.length c2, .agg (vK V P)] w (Yes6 w) := by
  have hb0 := below_lnew w (.cells (vK V P) 42)
  have HX0 := Lib.hid (vbox_new w V P)
  have HVA := Lib.hid (vast_any A1 c1 l V P)
  have HVB := Lib.hid (vast_any A2 c2 m V P)
  have H1 := Lib.hid (h1.next hb0)
  have H2 := Lib.hid (h2.next hb0)
  have HB0 := Lib.hid hb0
  have HG0 := Lib.hid (show w.heap.size < (w.alloc (.cells (vK V P) 42)).heap.size by simp)
  have HC := Lib.hid (And.intro hc1 hc2)
  have HVI := Lib.hid hV
  unfold VastR at HVA HVB
  obtain ⟨y0, y1, y2, y3⟩ := HX0.out
  unfold vK at HB0 HX0 HVA HVB H1 H2 HG0 y0 y1 y2 y3
  unfold vK
  clear hb0 h1 h2 hc1 hc2 hV
  cases hva : vastB l V with
  | true =>
    rw [hva] at HVA
    clear hva
    go_enter Try.func6, Try.ntmps6
    go_wp2_with fail
    generalize w.alloc (.cells #[.slice P.a1 V.K.length P.c1, .slice P.a2 V.R.length P.c2, .int .i64 V.B, .slice P.a3 V.W.length P.c3] 42) = W0 at *
    refine (HVA.out _).mono ?_
    rintro e w1 ⟨rfl, hb1⟩
    have HB1 := Lib.hid hb1
    clear y0 y1 y2 y3 hb1
    go_wp2_with fail
    refine (works6_any _).mono ?_
    rintro e w' ⟨rfl, hb⟩
    go_wp2_with fail
    go_ret
    exact ⟨rfl, HB0.out.trans ((HB1.out.trans (hb.mono HB1.out.size)).mono HB0.out.size)⟩
  | false =>
    rw [hva] at HVA
    obtain ⟨v1, v2, v3, v4⟩ := vast_no hva
    clear hva
    cases hvb : vastB m V with
    | true =>
      rw [hvb] at HVB
      clear hvb v1 v2 v3 v4
      go_enter Try.func6, Try.ntmps6
      go_wp2_with fail
      generalize w.alloc (.cells #[.slice P.a1 V.K.length P.c1, .slice P.a2 V.R.length P.c2, .int .i64 V.B, .slice P.a3 V.W.length P.c3] 42) = W0 at *
      refine (HVA.out _).mono ?_
      rintro e w1 ⟨rfl, hb1⟩
      have HB1 := Lib.hid hb1
      clear y0 y1 y2 y3 hb1
      obtain ⟨y0, y1, y2, y3⟩ := HX0.out.below HB1.out HG0.out
      go_wp2_with fail
      refine (HVB.out _).mono ?_
      rintro e w2 ⟨rfl, hb2⟩
      have HB2 := Lib.hid (HB1.out.trans (hb2.mono HB1.out.size))
      clear y0 y1 y2 y3 hb2 HB1
      go_wp2_with fail
      refine (works6_any _).mono ?_
      rintro e w' ⟨rfl, hb⟩
      go_wp2_with fail
      go_ret
      exact ⟨rfl, HB0.out.trans ((HB2.out.trans (hb.mono HB2.out.size)).mono HB0.out.size)⟩
    | false =>
      rw [hvb] at HVB
      obtain ⟨z1, _, _, _⟩ := vast_no hvb
      have HVL := Lib.hid ((HVI.out.lies v2 v3 v4).next HB0.out)
      clear hvb v2 v3 v4 HVI
      by_cases hlong : 15 < l.length + m.length
      · have hli : (15 : Int) < (l.length : Int) + (m.length : Int) := by omega
        go_enter Try.func6, Try.ntmps6
        go_wp2_with fail
        generalize w.alloc (.cells #[.slice P.a1 V.K.length P.c1, .slice P.a2 V.R.length P.c2, .int .i64 V.B, .slice P.a3 V.W.length P.c3] 42) = W0 at *
        refine (HVA.out _).mono ?_
        rintro e w1 ⟨rfl, hb1⟩
        have HB1 := Lib.hid hb1
        clear y0 y1 y2 y3 hb1
        obtain ⟨y0, y1, y2, y3⟩ := HX0.out.below HB1.out HG0.out
        go_wp2_with fail
        refine (HVB.out _).mono ?_
        rintro e w2 ⟨rfl, hb2⟩
        have HB2 := Lib.hid (HB1.out.trans (hb2.mono HB1.out.size))
        clear y0 y1 y2 y3 hb2 HB1
        go_wp2_with fail
        refine (works6_any _).mono ?_
        rintro e w' ⟨rfl, hb⟩
        go_wp2_with fail
        go_ret
        exact ⟨rfl, HB0.out.trans ((HB2.out.trans (hb.mono HB2.out.size)).mono HB0.out.size)⟩
      · have hli : (l.length : Int) + (m.length : Int) ≤ 15 := by omega
        by_cases hl0 : l.length = 0
        · have HL0 := Lib.hid hl0
          have hl0i : (l.length : Int) = 0 := by omega
          clear hl0 hlong
          go_enter Try.func6, Try.ntmps6
          go_wp2_with fail
          generalize w.alloc (.cells #[.slice P.a1 V.K.length P.c1, .slice P.a2 V.R.length P.c2, .int .i64 V.B, .slice P.a3 V.W.length P.c3] 42) = W0 at *
          refine (HVA.out _).mono ?_
          rintro e w1 ⟨rfl, hb1⟩
          have HB1 := Lib.hid hb1
          clear y0 y1 y2 y3 hb1
          obtain ⟨y0, y1, y2, y3⟩ := HX0.out.below HB1.out HG0.out
          go_wp2_with fail
          refine (HVB.out _).mono ?_
          rintro e w2 ⟨rfl, hb2⟩
          have HB2 := Lib.hid (HB1.out.trans (hb2.mono HB1.out.size))
          clear y0 y1 y2 y3 hb2 HB1
          go_wp2_with fail
          refine (works6_any _).mono ?_
          rintro e w' ⟨rfl, hb⟩
          go_wp2_with fail
          go_ret
          exact ⟨rfl, HB0.out.trans ((HB2.out.trans (hb.mono HB2.out.size)).mono HB0.out.size)⟩
        · have hl0i : ¬ (l.length : Int) = 0 := by omega
          by_cases hm0 : m.length = 0
          · have HM0 := Lib.hid hm0
            have hm0i : (m.length : Int) = 0 := by omega
            clear hm0 hlong
            go_enter Try.func6, Try.ntmps6
            go_wp2_with fail
            generalize w.alloc (.cells #[.slice P.a1 V.K.length P.c1, .slice P.a2 V.R.length P.c2, .int .i64 V.B, .slice P.a3 V.W.length P.c3] 42) = W0 at *
            refine (HVA.out _).mono ?_
            rintro e w1 ⟨rfl, hb1⟩
            have HB1 := Lib.hid hb1
            clear y0 y1 y2 y3 hb1
            obtain ⟨y0, y1, y2, y3⟩ := HX0.out.below HB1.out HG0.out
            go_wp2_with fail
            refine (HVB.out _).mono ?_
            rintro e w2 ⟨rfl, hb2⟩
            have HB2 := Lib.hid (HB1.out.trans (hb2.mono HB1.out.size))
            clear y0 y1 y2 y3 hb2 HB1
            go_wp2_with fail
            refine (works6_any _).mono ?_
            rintro e w' ⟨rfl, hb⟩
            go_wp2_with fail
            go_ret
            exact ⟨rfl, HB0.out.trans ((HB2.out.trans (hb.mono HB2.out.size)).mono HB0.out.size)⟩
          · have hm0i : ¬ (m.length : Int) = 0 := by omega
            have q1 : decide ((15 : Int) < (l.length : Int) + (m.length : Int)) = false := decide_eq_false (by omega)
            have q2 : ((l.length : Int) == 0) = false := by simpa using hl0i
            have q3 : ((m.length : Int) == 0) = false := by simpa using hm0i
            go_enter Try.func6, Try.ntmps6
            go_wp2_with fail
            generalize w.alloc (.cells #[.slice P.a1 V.K.length P.c1, .slice P.a2 V.R.length P.c2, .int .i64 V.B, .slice P.a3 V.W.length P.c3] 42) = W0 at *
            refine (HVA.out _).mono ?_
            rintro e w1 ⟨rfl, hb1⟩
            have HB1 := Lib.hid hb1
            clear y0 y1 y2 y3 hb1
            obtain ⟨y0, y1, y2, y3⟩ := HX0.out.below HB1.out HG0.out
            go_wp2_with fail
            refine (HVB.out _).mono ?_
            rintro e w2 ⟨rfl, hb2⟩
            have HB2 := Lib.hid (HB1.out.trans (hb2.mono HB1.out.size))
            clear y0 y1 y2 y3 hb2 HB1
            obtain ⟨y0, y1, y2, y3⟩ := HX0.out.below HB2.out HG0.out
            go_wp2_with fail
            refine (eval_w (l := l) rfl (by omega) (H1.out.next HB2.out) HVL.out HB2.out).mono ?_
            rintro e w3 ⟨rfl, hb3⟩
            have HB3 := Lib.hid (HB2.out.trans (hb3.mono HB2.out.size))
            clear y0 y1 y2 y3 hb3 HB2
            obtain ⟨y0, y1, y2, y3⟩ := HX0.out.below HB3.out HG0.out
            go_wp2_with fail
            refine (eval_w (l := m) rfl (by omega) (H2.out.next HB3.out) HVL.out HB3.out).mono ?_
            rintro e w4 ⟨rfl, hb4⟩
            have HB4 := Lib.hid (HB3.out.trans (hb4.mono HB3.out.size))
            clear y0 y1 y2 y3 hb4 HB3
            go_wp2_with fail
            refine (twin6_any A1 c1 l w4 HC.out.1 (by omega) (H1.out.next HB4.out)).mono ?_
            rintro e w5 ⟨t5, rfl, ho5, hb5⟩
            have HO5 := Lib.hid ho5
            have HB5 := Lib.hid hb5
            have g5 := hb5.size
            clear ho5 hb5
            go_wp2_with (first
              | (at_builtin
                 refine app_locs _ rfl (.tmp 59) (.tmp 60) rfl w4.heap.size t5 l rfl HO5.out A2 c2 W0.heap.size m rfl HC.out.2 (H2.out.below (HB4.out.trans (HB5.out.mono HB4.out.size))) (by omega) g5 ?_
                 intro t6 w6 ho6 hg6
                 have HB6 := Lib.hid (below_lgrown HB5.out hg6 HO5.out g5)
                 have g6 := HB6.out.size
                 have HO7 := Lib.hid (ho6.below (below_lnew w6 (.cells #[.int .u8 5, .int .i64 0] 48)))
                 have HB7 := Lib.hid (HB6.out.trans ((below_lnew w6 (.cells #[.int .u8 5, .int .i64 0] 48)).mono g6))
                 have g7 := HB7.out.size
                 clear hg6 ho6)
              | (at_builtin
                 refine app_loc _ rfl (.tmp 61) (.tmp 63) rfl w4.heap.size t6 (l ++ m) rfl HO7.out w6.heap.size 1 ⟨5, 0⟩ rfl (locAt_new w6 ⟨5, 0⟩) (by simp; omega) g7 ?_
                 intro t8 w8 ho8 hg8
                 have HB8 := Lib.hid (below_lgrown HB7.out hg8 HO7.out g7)
                 have HO8 := Lib.hid ho8
                 obtain ⟨B8, n8, d8, hv8, hn8, _, _, hL8⟩ := ho8.formN
                 subst hv8
                 have HM8 := Lib.hid hL8
                 clear hg8 ho8 hL8
                 have HW8 := Lib.hid (HB4.out.trans (HB8.out.mono HB4.out.size))
                 obtain ⟨y0, y1, y2, y3⟩ := HX0.out.below HW8.out HG0.out))
            have hn8' : n8 ≤ 1000000 := by rw [← hn8.out]; simp; omega
            refine (eval_w (l := l ++ m ++ [⟨5, 0⟩]) hn8.out hn8' HM8.out HVL.out HW8.out).mono ?_
            rintro e w9 ⟨rfl, hb9⟩
            have HB9 := Lib.hid (HW8.out.trans (hb9.mono HW8.out.size))
            have HM9 := Lib.hid (HM8.out.next hb9)
            have HRB := Lib.hid (fun w' (hb : Below w9.heap.size w9 w') => right_w (l := l ++ m ++ [⟨5, 0⟩]) (c := d8) hn8.out hn8' (HM9.out.next hb))
            have HEN := Lib.hid (fun A n c w' h1 h2 h3 h4 => eval_w (A := A) (n := n) (c := c) (l := l ++ [⟨6, 0⟩]) (w := w') h1 h2 h3 HVL.out h4)
            have HEW := Lib.hid (fun A n c w' h1 h2 h3 h4 => eval_w (A := A) (n := n) (c := c) (l := l ++ [⟨4, 0⟩]) (w := w') h1 h2 h3 HVL.out h4)
            have F7 := Lib.hid (fun a b c => ev_both (V := V) (l := l) (m := m) a b c)
            have F9 := Lib.hid (fun a b c d => right_both (V := V) (l := l) (m := m) a b c d)
            have F12 := Lib.hid (ev_neg (V := V) (l := l) (by omega) (by omega))
            have F16 := Lib.hid (ev_word (V := V) (l := l) (by omega) (by omega))
            have h14 : l.length ≤ 14 := by omega
            clear y0 y1 y2 y3 hb9 HW8 HO8 HB8 HB7 HO7 HB6 HB5 HO5 HM8 hlong hl0 hm0
            generalize evX V (l ++ m ++ [⟨5, 0⟩]) = Xb at *
            generalize evE V (l ++ m ++ [⟨5, 0⟩]) = Eb at *
            generalize rightC (l ++ m ++ [⟨5, 0⟩]) = RB at *
            generalize evX V (l ++ [⟨6, 0⟩]) = Xn at *
            generalize evE V (l ++ [⟨6, 0⟩]) = En at *
            generalize evX V (l ++ [⟨4, 0⟩]) = Xw at *
            generalize evE V (l ++ [⟨4, 0⟩]) = Ew at *
            generalize evX V l = X1 at *
            generalize evE V l = E1 at *
            generalize evX V m = X2 at *
            generalize evE V m = E2 at *
            go_upto_region 7 with fail
            go_cut [91] from 71 (fun s91 wx => s91 = .bool false ∧ Hid (Below w9.heap.size w9 wx))
            case first =>
              by_cases e1 : E1 = 0
              · by_cases e2 : E2 = 0
                · cases RB with
                  | true =>
                    obtain ⟨f1, f2⟩ := F7.out e1 e2 rfl
                    subst f1 f2 e1 e2
                    go_wp2_with fail
                    refine (HRB.out w9 (Below.refl _ _)).mono ?_
                    rintro e wr ⟨rfl, hbr⟩
                    have HBr := Lib.hid hbr
                    clear hbr
                    go_wp2_with fail
                    go_meet
                    exact ⟨rfl, HBr⟩
                  | false =>
                    subst e1 e2
                    go_wp2_with fail
                    refine (HRB.out w9 (Below.refl _ _)).mono ?_
                    rintro e wr ⟨rfl, hbr⟩
                    have HBr := Lib.hid hbr
                    clear hbr
                    go_wp2_with fail
                    go_meet
                    exact ⟨rfl, HBr⟩
                · subst e1
                  go_wp2_with fail
                  go_meet
                  exact ⟨by first | rfl | simp [e2], Below.refl _ _⟩
              · go_wp2_with fail
                go_meet
                exact ⟨by first | rfl | simp [e1], Below.refl _ _⟩
            case rest =>
            obtain ⟨rfl, hb⟩ := hcut
            have HK1 := Lib.hid hb
            clear hb F7
            go_upto_region 9 with fail
            go_cut [112] from 71 (fun s112 wy => s112 = .bool false ∧ Hid (Below w9.heap.size w9 wy))
            case first =>
              by_cases e1 : E1 = 0
              · by_cases e2 : E2 = 0
                · by_cases hm1 : m.length = 1
                  · have hm1b : ((m.length : Int) == 1) = true := by simp; omega
                    by_cases hl7 : l.length ≤ 7
                    · have hl7i : (l.length : Int) ≤ 7 := by omega
                      have HR := Lib.hid (F9.out e1 e2 hm1 hl7)
                      rw [HR.out] at HRB
                      subst e1 e2
                      clear hm1 hl7 HR F9
                      go_wp2_with fail
                      refine (HRB.out _ HK1.out).mono ?_
                      rintro e wr ⟨rfl, hbr⟩
                      have HBr := Lib.hid (HK1.out.trans (hbr.mono HK1.out.size))
                      clear hbr
                      go_wp2_with fail
                      go_meet
                      exact ⟨by first | rfl | simp, HBr⟩
                    · have hl7i : (7 : Int) < (l.length : Int) := by omega
                      subst e1 e2
                      clear hm1 hl7 F9
                      go_wp2_with fail
                      go_meet
                      exact ⟨by first | rfl | (simp; done) | (simp; omega), HK1⟩
                  · have hm1b : ((m.length : Int) == 1) = false := by simp; omega
                    subst e1 e2
                    clear hm1 F9
                    go_wp2_with fail
                    go_meet
                    exact ⟨by first | rfl | (simp; done) | (simp [hm1b]; done), HK1⟩
                · subst e1
                  clear F9
                  go_wp2_with fail
                  go_meet
                  exact ⟨by first | rfl | simp [e2], HK1⟩
              · clear F9
                go_wp2_with fail
                go_meet
                exact ⟨by first | rfl | simp [e1], HK1⟩
            case rest =>
            obtain ⟨rfl, hb⟩ := hcut
            have HK2 := Lib.hid hb
            clear hb F9 HRB HK1
            go_upto_region 11 with fail
            go_cut [14, 15] from 71 (fun sx se wz => sx = .int .i64 Xn ∧ se = .int .i64 En ∧ Hid (Below W0.heap.size W0 wz))
            case first =>
              have HD := Lib.hid ((HB9.out.trans (HK2.out.mono HB9.out.size)).drew)
              refine wp_region_held_drew (S := (fun W => W.cell? ⟨w.heap.size, 0, none⟩ = some (.slice P.a1 V.K.length P.c1) ∧ W.cell? ⟨w.heap.size, 1, none⟩ = some (.slice P.a2 V.R.length P.c2) ∧ W.cell? ⟨w.heap.size, 2, none⟩ = some (.int .i64 V.B) ∧ W.cell? ⟨w.heap.size, 3, none⟩ = some (.slice P.a3 V.W.length P.c3))) (by kernel_rfl) (by exact HX0.out.below HD.out HG0.out) (fun hHeld => ?_)
              generalize World.drew _ = D at *
              refine wpAnyH_take6 (i := 0) (d := some 114) (v := ?_) rfl rfl (by kernel_rfl) (by kernel_rfl) (by kernel_rfl) (fun _ _ _ h => h) (by rfl) ?hya0_6 (by assumption) ?resta0_6
              case hya0_6 => (intro W hSw; (try dsimp only at hSw); obtain ⟨s0, s1, s2, s3⟩ := hSw; go_simp; try (with_reducible rfl))
              (try simp only [Act.put, List.setIfInBounds_toArray, List.set_cons_zero, List.set_cons_succ])
              refine wpAnyH_take6 (i := 2) (d := some 116) (v := ?_) rfl rfl (by kernel_rfl) (by kernel_rfl) (by kernel_rfl) (fun _ _ _ h => h) (by rfl) ?hya2_6 (by assumption) ?resta2_6
              case hya2_6 => (intro W hSw; (try dsimp only at hSw); obtain ⟨s0, s1, s2, s3⟩ := hSw; go_simp; try (with_reducible rfl))
              (try simp only [Act.put, List.setIfInBounds_toArray, List.set_cons_zero, List.set_cons_succ])
              refine wpAnyH_take6 (i := 5) (d := some 119) (v := ?_) rfl rfl (by kernel_rfl) (by kernel_rfl) (by kernel_rfl) (fun _ _ _ h => h) (by rfl) ?hya5_6 (by assumption) ?resta5_6
              case hya5_6 => (intro W hSw; (try dsimp only at hSw); obtain ⟨s0, s1, s2, s3⟩ := hSw; go_simp; try (with_reducible rfl))
              (try simp only [Act.put, List.setIfInBounds_toArray, List.set_cons_zero, List.set_cons_succ])
              refine wpAnyH_ready (rs := [1, 3]) (by kernel_rfl) (by simp) ?_
              refine AllReadyH.cons rfl (fun K hK => ?_) (AllReadyH.cons rfl (fun K hK => ?_) AllReadyH.nil)
              · go_simp
                go_at_call 9
                refine (twin6_any A1 c1 l D HC.out.1 (by omega) (H1.out.next HD.out)).mono ?_
                rintro e w5 ⟨t5, rfl, ho5, hb5⟩
                have HO5 := Lib.hid ho5
                have HB5 := Lib.hid (HD.out.trans (hb5.mono HD.out.size))
                have g5 := hb5.size
                obtain ⟨A5, n5, d5, hv5, hn5, _, _, _⟩ := ho5.formN
                subst hv5
                clear ho5 hb5
                go_wp2_with fail
                refine hK.out _ _ (by exact HX0.out.below HB5.out HG0.out) (fun hHeld => ?_)
                clear hK K
                (try simp only [Act.put, List.setIfInBounds_toArray, List.set_cons_zero, List.set_cons_succ])
                refine wpAnyH_ready (rs := [3]) (by kernel_rfl) (by simp) ?_
                refine AllReadyH.cons rfl (fun K hK => ?_) AllReadyH.nil
                go_simp
                have hb6 := below_lnew w5 (.cells #[.int .u8 6, .int .i64 0] 48)
                have HL6 := Lib.hid (show LocAt (w5.alloc (.cells #[.int .u8 6, .int .i64 0] 48)) w5.heap.size ⟨6, 0⟩ from locAt_new w5 ⟨6, 0⟩)
                have HZ6 := Lib.hid (Nat.le_trans g5 hb6.size)
                have HO6 := Lib.hid (HO5.out.below hb6)
                have HB6 := Lib.hid (HB5.out.trans (hb6.mono HB5.out.size))
                clear hb6 HO5 g5
                generalize w5.alloc (.cells #[.int .u8 6, .int .i64 0] 48) = w6 at *
                refine hK.out _ _ (by exact HX0.out.below HB6.out HG0.out) (fun hHeld => ?_)
                clear hK K
                (try simp only [Act.put, List.setIfInBounds_toArray, List.set_cons_zero, List.set_cons_succ])
                refine wpAnyH_ready (rs := [4]) (by kernel_rfl) (by simp) ?_
                refine AllReadyH.cons rfl (fun K hK => ?_) AllReadyH.nil
                rw [if_pos (by rfl)]
                refine wp_app_loc _ (.tmp 115) (.tmp 117) rfl D.heap.size _ l rfl HO6.out w5.heap.size 1 ⟨6, 0⟩ rfl HL6.out (by omega) (by exact HZ6.out) ?_
                intro t7 w7 ho7 hg7
                have HB7 := Lib.hid (HB6.out.grown hg7 HB6.out.size (fun j e => Nat.le_trans HD.out.size (HO6.out.lt j e).1))
                obtain ⟨A7, n7, d7, hv7, hn7, _, _, hL7⟩ := ho7.formN
                subst hv7
                have HL7 := Lib.hid hL7
                clear hg7 ho7 hL7
                refine hK.out _ _ (by exact HX0.out.below HB7.out HG0.out) (fun hHeld => ?_)
                clear hK K
                (try simp only [Act.put, List.setIfInBounds_toArray])
                refine wpAnyH_ready (rs := [6]) (by kernel_rfl) (by simp) ?_
                refine AllReadyH.cons rfl (fun K hK => ?_) AllReadyH.nil
                go_simp
                go_at_call 22
                refine (HEN.out A7 n7 d7 w7 hn7.out (by rw [← hn7.out]; simp; omega) HL7.out HB7.out).mono ?_
                rintro e w8 ⟨rfl, hb8⟩
                have HB8 := Lib.hid (HB7.out.trans (hb8.mono HB7.out.size))
                clear hb8
                go_wp2_with fail
                refine hK.out _ _ (by exact HX0.out.below HB8.out HG0.out) (fun hHeld => ?_)
                clear hK K
                (try simp only [Act.put, List.setIfInBounds_toArray, List.set_cons_zero, List.set_cons_succ])
                refine wpAnyH_take6 (i := 7) (d := some 113) (v := ?_) rfl rfl (by kernel_rfl) (by kernel_rfl) (by kernel_rfl) (fun _ _ _ h => h) (by rfl) ?hyb7_6 (by assumption) ?restb7_6
                case hyb7_6 => (intro W hSw; (try dsimp only at hSw); obtain ⟨s0, s1, s2, s3⟩ := hSw; go_simp; try (with_reducible rfl))
                (try simp only [Act.put, List.setIfInBounds_toArray, List.set_cons_zero, List.set_cons_succ])
                refine wpAnyH_take6 (i := 8) (d := some 121) (v := ?_) rfl rfl (by kernel_rfl) (by kernel_rfl) (by kernel_rfl) (fun _ _ _ h => h) (by rfl) ?hyb8_6 (by assumption) ?restb8_6
                case hyb8_6 => (intro W hSw; (try dsimp only at hSw); obtain ⟨s0, s1, s2, s3⟩ := hSw; go_simp; try (with_reducible rfl))
                (try simp only [Act.put, List.setIfInBounds_toArray, List.set_cons_zero, List.set_cons_succ])
                refine wpAnyH_take6 (i := 9) (d := some 122) (v := ?_) rfl rfl (by kernel_rfl) (by kernel_rfl) (by kernel_rfl) (fun _ _ _ h => h) (by rfl) ?hyb9_6 (by assumption) ?restb9_6
                case hyb9_6 => (intro W hSw; (try dsimp only at hSw); obtain ⟨s0, s1, s2, s3⟩ := hSw; go_simp; try (with_reducible rfl))
                (try simp only [Act.put, List.setIfInBounds_toArray, List.set_cons_zero, List.set_cons_succ])
                refine wpAnyH_take6 (i := 10) (d := some 14) (v := ?_) rfl rfl (by kernel_rfl) (by kernel_rfl) (by kernel_rfl) (fun _ _ _ h => h) (by rfl) ?hyb10_6 (by assumption) ?restb10_6
                case hyb10_6 => (intro W hSw; (try dsimp only at hSw); obtain ⟨s0, s1, s2, s3⟩ := hSw; go_simp; try (with_reducible rfl))
                (try simp only [Act.put, List.setIfInBounds_toArray, List.set_cons_zero, List.set_cons_succ])
                refine wpAnyH_take6 (i := 11) (d := some 15) (v := ?_) rfl rfl (by kernel_rfl) (by kernel_rfl) (by kernel_rfl) (fun _ _ _ h => h) (by rfl) ?hyb11_6 (by assumption) ?restb11_6
                case hyb11_6 => (intro W hSw; (try dsimp only at hSw); obtain ⟨s0, s1, s2, s3⟩ := hSw; go_simp; try (with_reducible rfl))
                (try simp only [Act.put, List.setIfInBounds_toArray, List.set_cons_zero, List.set_cons_succ])
                refine wpAnyH_done (by kernel_rfl) ?_ _
                go_wp2_with fail
                go_meet
                exact ⟨rfl, rfl, HB8⟩
              · go_simp
                have hb4 := below_lnew D (.cells #[.int .u8 6, .int .i64 0] 48)
                have HL4 := Lib.hid (show LocAt (D.alloc (.cells #[.int .u8 6, .int .i64 0] 48)) D.heap.size ⟨6, 0⟩ from locAt_new D ⟨6, 0⟩)
                have HZ4 := Lib.hid (show D.heap.size < (D.alloc (.cells #[.int .u8 6, .int .i64 0] 48)).heap.size by simp)
                have HB4' := Lib.hid (HD.out.trans (hb4.mono HD.out.size))
                have HQ4 := Lib.hid (HB4'.out.size)
                clear hb4
                generalize D.alloc (.cells #[.int .u8 6, .int .i64 0] 48) = D4 at *
                refine hK.out _ _ (by exact HX0.out.below HB4'.out HG0.out) (fun hHeld => ?_)
                clear hK K
                (try simp only [Act.put, List.setIfInBounds_toArray, List.set_cons_zero, List.set_cons_succ])
                refine wpAnyH_ready (rs := [1]) (by kernel_rfl) (by simp) ?_
                refine AllReadyH.cons rfl (fun K hK => ?_) AllReadyH.nil
                go_simp
                go_at_call 9
                refine (twin6_any A1 c1 l D4 HC.out.1 (by omega) (H1.out.next HB4'.out)).mono ?_
                rintro e w5 ⟨t5, rfl, ho5, hb5⟩
                have HO6 := Lib.hid ho5
                have HL6 := Lib.hid (HL4.out.below hb5 HZ4.out)
                have HB6 := Lib.hid (HB4'.out.trans (hb5.mono HB4'.out.size))
                have HZ6 := Lib.hid hb5.size
                obtain ⟨A5, n5, d5, hv5, hn5, _, _, _⟩ := ho5.formN
                subst hv5
                clear ho5 hb5
                go_wp2_with fail
                refine hK.out _ _ (by exact HX0.out.below HB6.out HG0.out) (fun hHeld => ?_)
                clear hK K
                (try simp only [Act.put, List.setIfInBounds_toArray, List.set_cons_zero, List.set_cons_succ])
                refine wpAnyH_ready (rs := [4]) (by kernel_rfl) (by simp) ?_
                refine AllReadyH.cons rfl (fun K hK => ?_) AllReadyH.nil
                rw [if_pos (by rfl)]
                refine wp_app_loc _ (.tmp 115) (.tmp 117) rfl D4.heap.size _ l rfl HO6.out D.heap.size 1 ⟨6, 0⟩ rfl HL6.out (by omega) (by exact HZ6.out) ?_
                intro t7 w7 ho7 hg7
                have HB7 := Lib.hid (HB6.out.grown hg7 HB6.out.size (fun j e => Nat.le_trans HQ4.out (HO6.out.lt j e).1))
                obtain ⟨A7, n7, d7, hv7, hn7, _, _, hL7⟩ := ho7.formN
                subst hv7
                have HL7 := Lib.hid hL7
                clear hg7 ho7 hL7
                refine hK.out _ _ (by exact HX0.out.below HB7.out HG0.out) (fun hHeld => ?_)
                clear hK K
                (try simp only [Act.put, List.setIfInBounds_toArray])
                refine wpAnyH_ready (rs := [6]) (by kernel_rfl) (by simp) ?_
                refine AllReadyH.cons rfl (fun K hK => ?_) AllReadyH.nil
                go_simp
                go_at_call 22
                refine (HEN.out A7 n7 d7 w7 hn7.out (by rw [← hn7.out]; simp; omega) HL7.out HB7.out).mono ?_
                rintro e w8 ⟨rfl, hb8⟩
                have HB8 := Lib.hid (HB7.out.trans (hb8.mono HB7.out.size))
                clear hb8
                go_wp2_with fail
                refine hK.out _ _ (by exact HX0.out.below HB8.out HG0.out) (fun hHeld => ?_)
                clear hK K
                (try simp only [Act.put, List.setIfInBounds_toArray, List.set_cons_zero, List.set_cons_succ])
                refine wpAnyH_take6 (i := 7) (d := some 113) (v := ?_) rfl rfl (by kernel_rfl) (by kernel_rfl) (by kernel_rfl) (fun _ _ _ h => h) (by rfl) ?hyc7_6 (by assumption) ?restc7_6
                case hyc7_6 => (intro W hSw; (try dsimp only at hSw); obtain ⟨s0, s1, s2, s3⟩ := hSw; go_simp; try (with_reducible rfl))
                (try simp only [Act.put, List.setIfInBounds_toArray, List.set_cons_zero, List.set_cons_succ])
                refine wpAnyH_take6 (i := 8) (d := some 121) (v := ?_) rfl rfl (by kernel_rfl) (by kernel_rfl) (by kernel_rfl) (fun _ _ _ h => h) (by rfl) ?hyc8_6 (by assumption) ?restc8_6
                case hyc8_6 => (intro W hSw; (try dsimp only at hSw); obtain ⟨s0, s1, s2, s3⟩ := hSw; go_simp; try (with_reducible rfl))
                (try simp only [Act.put, List.setIfInBounds_toArray, List.set_cons_zero, List.set_cons_succ])
                refine wpAnyH_take6 (i := 9) (d := some 122) (v := ?_) rfl rfl (by kernel_rfl) (by kernel_rfl) (by kernel_rfl) (fun _ _ _ h => h) (by rfl) ?hyc9_6 (by assumption) ?restc9_6
                case hyc9_6 => (intro W hSw; (try dsimp only at hSw); obtain ⟨s0, s1, s2, s3⟩ := hSw; go_simp; try (with_reducible rfl))
                (try simp only [Act.put, List.setIfInBounds_toArray, List.set_cons_zero, List.set_cons_succ])
                refine wpAnyH_take6 (i := 10) (d := some 14) (v := ?_) rfl rfl (by kernel_rfl) (by kernel_rfl) (by kernel_rfl) (fun _ _ _ h => h) (by rfl) ?hyc10_6 (by assumption) ?restc10_6
                case hyc10_6 => (intro W hSw; (try dsimp only at hSw); obtain ⟨s0, s1, s2, s3⟩ := hSw; go_simp; try (with_reducible rfl))
                (try simp only [Act.put, List.setIfInBounds_toArray, List.set_cons_zero, List.set_cons_succ])
                refine wpAnyH_take6 (i := 11) (d := some 15) (v := ?_) rfl rfl (by kernel_rfl) (by kernel_rfl) (by kernel_rfl) (fun _ _ _ h => h) (by rfl) ?hyc11_6 (by assumption) ?restc11_6
                case hyc11_6 => (intro W hSw; (try dsimp only at hSw); obtain ⟨s0, s1, s2, s3⟩ := hSw; go_simp; try (with_reducible rfl))
                (try simp only [Act.put, List.setIfInBounds_toArray, List.set_cons_zero, List.set_cons_succ])
                refine wpAnyH_done (by kernel_rfl) ?_ _
                go_wp2_with fail
                go_meet
                exact ⟨rfl, rfl, HB8⟩
            case rest =>
            obtain ⟨rfl, rfl, hb⟩ := hcut
            have HK3 := Lib.hid hb
            clear hb
            clear HEN HK2
            go_upto_region 12 with fail
            go_cut [137] from 71 (fun sx wz => sx = .bool false ∧ Hid (Below W0.heap.size W0 wz))
            case first =>
              by_cases e1 : E1 = 0
              · have en := F12.out.1.2 e1
                have ex := F12.out.2 e1
                subst e1 en ex
                clear F12
                go_wp2_with fail
                go_meet
                exact ⟨by first | rfl | (simp; done), HK3⟩
              · have en : ¬ En = 0 := fun q => e1 (F12.out.1.1 q)
                have b1 : (E1 == 0) = false := by simpa using e1
                have b2 : (En == 0) = false := by simpa using en
                clear F12
                go_wp2_with fail
                all_goals go_meet
                all_goals exact ⟨by first | rfl | (simp [e1, en]; done), HK3⟩
            case rest =>
            obtain ⟨rfl, hb⟩ := hcut
            have HK4 := Lib.hid hb
            clear hb F12 HK3
            go_upto_region 14 with fail
            go_cut [16, 17] from 71 (fun sx se wz => sx = .int .i64 Xw ∧ se = .int .i64 Ew ∧ Hid (Below W0.heap.size W0 wz))
            case first =>
              have HD := Lib.hid ((HK4.out).drew)
              refine wp_region_held_drew (S := (fun W => W.cell? ⟨w.heap.size, 0, none⟩ = some (.slice P.a1 V.K.length P.c1) ∧ W.cell? ⟨w.heap.size, 1, none⟩ = some (.slice P.a2 V.R.length P.c2) ∧ W.cell? ⟨w.heap.size, 2, none⟩ = some (.int .i64 V.B) ∧ W.cell? ⟨w.heap.size, 3, none⟩ = some (.slice P.a3 V.W.length P.c3))) (by kernel_rfl) (by exact HX0.out.below HD.out HG0.out) (fun hHeld => ?_)
              generalize World.drew _ = D at *
              refine wpAnyH_take6 (i := 0) (d := some 139) (v := ?_) rfl rfl (by kernel_rfl) (by kernel_rfl) (by kernel_rfl) (fun _ _ _ h => h) (by rfl) ?hya0_4 (by assumption) ?resta0_4
              case hya0_4 => (intro W hSw; (try dsimp only at hSw); obtain ⟨s0, s1, s2, s3⟩ := hSw; go_simp; try (with_reducible rfl))
              (try simp only [Act.put, List.setIfInBounds_toArray, List.set_cons_zero, List.set_cons_succ])
              refine wpAnyH_take6 (i := 2) (d := some 141) (v := ?_) rfl rfl (by kernel_rfl) (by kernel_rfl) (by kernel_rfl) (fun _ _ _ h => h) (by rfl) ?hya2_4 (by assumption) ?resta2_4
              case hya2_4 => (intro W hSw; (try dsimp only at hSw); obtain ⟨s0, s1, s2, s3⟩ := hSw; go_simp; try (with_reducible rfl))
              (try simp only [Act.put, List.setIfInBounds_toArray, List.set_cons_zero, List.set_cons_succ])
              refine wpAnyH_take6 (i := 5) (d := some 144) (v := ?_) rfl rfl (by kernel_rfl) (by kernel_rfl) (by kernel_rfl) (fun _ _ _ h => h) (by rfl) ?hya5_4 (by assumption) ?resta5_4
              case hya5_4 => (intro W hSw; (try dsimp only at hSw); obtain ⟨s0, s1, s2, s3⟩ := hSw; go_simp; try (with_reducible rfl))
              (try simp only [Act.put, List.setIfInBounds_toArray, List.set_cons_zero, List.set_cons_succ])
              refine wpAnyH_ready (rs := [1, 3]) (by kernel_rfl) (by simp) ?_
              refine AllReadyH.cons rfl (fun K hK => ?_) (AllReadyH.cons rfl (fun K hK => ?_) AllReadyH.nil)
              · go_simp
                go_at_call 9
                refine (twin6_any A1 c1 l D HC.out.1 (by omega) (H1.out.next HD.out)).mono ?_
                rintro e w5 ⟨t5, rfl, ho5, hb5⟩
                have HO5 := Lib.hid ho5
                have HB5 := Lib.hid (HD.out.trans (hb5.mono HD.out.size))
                have g5 := hb5.size
                obtain ⟨A5, n5, d5, hv5, hn5, _, _, _⟩ := ho5.formN
                subst hv5
                clear ho5 hb5
                go_wp2_with fail
                refine hK.out _ _ (by exact HX0.out.below HB5.out HG0.out) (fun hHeld => ?_)
                clear hK K
                (try simp only [Act.put, List.setIfInBounds_toArray, List.set_cons_zero, List.set_cons_succ])
                refine wpAnyH_ready (rs := [3]) (by kernel_rfl) (by simp) ?_
                refine AllReadyH.cons rfl (fun K hK => ?_) AllReadyH.nil
                go_simp
                have hb6 := below_lnew w5 (.cells #[.int .u8 4, .int .i64 0] 48)
                have HL6 := Lib.hid (show LocAt (w5.alloc (.cells #[.int .u8 4, .int .i64 0] 48)) w5.heap.size ⟨4, 0⟩ from locAt_new w5 ⟨4, 0⟩)
                have HZ6 := Lib.hid (Nat.le_trans g5 hb6.size)
                have HO6 := Lib.hid (HO5.out.below hb6)
                have HB6 := Lib.hid (HB5.out.trans (hb6.mono HB5.out.size))
                clear hb6 HO5 g5
                generalize w5.alloc (.cells #[.int .u8 4, .int .i64 0] 48) = w6 at *
                refine hK.out _ _ (by exact HX0.out.below HB6.out HG0.out) (fun hHeld => ?_)
                clear hK K
                (try simp only [Act.put, List.setIfInBounds_toArray, List.set_cons_zero, List.set_cons_succ])
                refine wpAnyH_ready (rs := [4]) (by kernel_rfl) (by simp) ?_
                refine AllReadyH.cons rfl (fun K hK => ?_) AllReadyH.nil
                rw [if_pos (by rfl)]
                refine wp_app_loc _ (.tmp 140) (.tmp 142) rfl D.heap.size _ l rfl HO6.out w5.heap.size 1 ⟨4, 0⟩ rfl HL6.out (by omega) (by exact HZ6.out) ?_
                intro t7 w7 ho7 hg7
                have HB7 := Lib.hid (HB6.out.grown hg7 HB6.out.size (fun j e => Nat.le_trans HD.out.size (HO6.out.lt j e).1))
                obtain ⟨A7, n7, d7, hv7, hn7, _, _, hL7⟩ := ho7.formN
                subst hv7
                have HL7 := Lib.hid hL7
                clear hg7 ho7 hL7
                refine hK.out _ _ (by exact HX0.out.below HB7.out HG0.out) (fun hHeld => ?_)
                clear hK K
                (try simp only [Act.put, List.setIfInBounds_toArray])
                refine wpAnyH_ready (rs := [6]) (by kernel_rfl) (by simp) ?_
                refine AllReadyH.cons rfl (fun K hK => ?_) AllReadyH.nil
                go_simp
                go_at_call 22
                refine (HEW.out A7 n7 d7 w7 hn7.out (by rw [← hn7.out]; simp; omega) HL7.out HB7.out).mono ?_
                rintro e w8 ⟨rfl, hb8⟩
                have HB8 := Lib.hid (HB7.out.trans (hb8.mono HB7.out.size))
                clear hb8
                go_wp2_with fail
                refine hK.out _ _ (by exact HX0.out.below HB8.out HG0.out) (fun hHeld => ?_)
                clear hK K
                (try simp only [Act.put, List.setIfInBounds_toArray, List.set_cons_zero, List.set_cons_succ])
                refine wpAnyH_take6 (i := 7) (d := some 138) (v := ?_) rfl rfl (by kernel_rfl) (by kernel_rfl) (by kernel_rfl) (fun _ _ _ h => h) (by rfl) ?hyb7_4 (by assumption) ?restb7_4
                case hyb7_4 => (intro W hSw; (try dsimp only at hSw); obtain ⟨s0, s1, s2, s3⟩ := hSw; go_simp; try (with_reducible rfl))
                (try simp only [Act.put, List.setIfInBounds_toArray, List.set_cons_zero, List.set_cons_succ])
                refine wpAnyH_take6 (i := 8) (d := some 146) (v := ?_) rfl rfl (by kernel_rfl) (by kernel_rfl) (by kernel_rfl) (fun _ _ _ h => h) (by rfl) ?hyb8_4 (by assumption) ?restb8_4
                case hyb8_4 => (intro W hSw; (try dsimp only at hSw); obtain ⟨s0, s1, s2, s3⟩ := hSw; go_simp; try (with_reducible rfl))
                (try simp only [Act.put, List.setIfInBounds_toArray, List.set_cons_zero, List.set_cons_succ])
                refine wpAnyH_take6 (i := 9) (d := some 147) (v := ?_) rfl rfl (by kernel_rfl) (by kernel_rfl) (by kernel_rfl) (fun _ _ _ h => h) (by rfl) ?hyb9_4 (by assumption) ?restb9_4
                case hyb9_4 => (intro W hSw; (try dsimp only at hSw); obtain ⟨s0, s1, s2, s3⟩ := hSw; go_simp; try (with_reducible rfl))
                (try simp only [Act.put, List.setIfInBounds_toArray, List.set_cons_zero, List.set_cons_succ])
                refine wpAnyH_take6 (i := 10) (d := some 16) (v := ?_) rfl rfl (by kernel_rfl) (by kernel_rfl) (by kernel_rfl) (fun _ _ _ h => h) (by rfl) ?hyb10_4 (by assumption) ?restb10_4
                case hyb10_4 => (intro W hSw; (try dsimp only at hSw); obtain ⟨s0, s1, s2, s3⟩ := hSw; go_simp; try (with_reducible rfl))
                (try simp only [Act.put, List.setIfInBounds_toArray, List.set_cons_zero, List.set_cons_succ])
                refine wpAnyH_take6 (i := 11) (d := some 17) (v := ?_) rfl rfl (by kernel_rfl) (by kernel_rfl) (by kernel_rfl) (fun _ _ _ h => h) (by rfl) ?hyb11_4 (by assumption) ?restb11_4
                case hyb11_4 => (intro W hSw; (try dsimp only at hSw); obtain ⟨s0, s1, s2, s3⟩ := hSw; go_simp; try (with_reducible rfl))
                (try simp only [Act.put, List.setIfInBounds_toArray, List.set_cons_zero, List.set_cons_succ])
                refine wpAnyH_done (by kernel_rfl) ?_ _
                go_wp2_with fail
                go_meet
                exact ⟨rfl, rfl, HB8⟩
              · go_simp
                have hb4 := below_lnew D (.cells #[.int .u8 4, .int .i64 0] 48)
                have HL4 := Lib.hid (show LocAt (D.alloc (.cells #[.int .u8 4, .int .i64 0] 48)) D.heap.size ⟨4, 0⟩ from locAt_new D ⟨4, 0⟩)
                have HZ4 := Lib.hid (show D.heap.size < (D.alloc (.cells #[.int .u8 4, .int .i64 0] 48)).heap.size by simp)
                have HB4' := Lib.hid (HD.out.trans (hb4.mono HD.out.size))
                have HQ4 := Lib.hid (HB4'.out.size)
                clear hb4
                generalize D.alloc (.cells #[.int .u8 4, .int .i64 0] 48) = D4 at *
                refine hK.out _ _ (by exact HX0.out.below HB4'.out HG0.out) (fun hHeld => ?_)
                clear hK K
                (try simp only [Act.put, List.setIfInBounds_toArray, List.set_cons_zero, List.set_cons_succ])
                refine wpAnyH_ready (rs := [1]) (by kernel_rfl) (by simp) ?_
                refine AllReadyH.cons rfl (fun K hK => ?_) AllReadyH.nil
                go_simp
                go_at_call 9
                refine (twin6_any A1 c1 l D4 HC.out.1 (by omega) (H1.out.next HB4'.out)).mono ?_
                rintro e w5 ⟨t5, rfl, ho5, hb5⟩
                have HO6 := Lib.hid ho5
                have HL6 := Lib.hid (HL4.out.below hb5 HZ4.out)
                have HB6 := Lib.hid (HB4'.out.trans (hb5.mono HB4'.out.size))
                have HZ6 := Lib.hid hb5.size
                obtain ⟨A5, n5, d5, hv5, hn5, _, _, _⟩ := ho5.formN
                subst hv5
                clear ho5 hb5
                go_wp2_with fail
                refine hK.out _ _ (by exact HX0.out.below HB6.out HG0.out) (fun hHeld => ?_)
                clear hK K
                (try simp only [Act.put, List.setIfInBounds_toArray, List.set_cons_zero, List.set_cons_succ])
                refine wpAnyH_ready (rs := [4]) (by kernel_rfl) (by simp) ?_
                refine AllReadyH.cons rfl (fun K hK => ?_) AllReadyH.nil
                rw [if_pos (by rfl)]
                refine wp_app_loc _ (.tmp 140) (.tmp 142) rfl D4.heap.size _ l rfl HO6.out D.heap.size 1 ⟨4, 0⟩ rfl HL6.out (by omega) (by exact HZ6.out) ?_
                intro t7 w7 ho7 hg7
                have HB7 := Lib.hid (HB6.out.grown hg7 HB6.out.size (fun j e => Nat.le_trans HQ4.out (HO6.out.lt j e).1))
                obtain ⟨A7, n7, d7, hv7, hn7, _, _, hL7⟩ := ho7.formN
                subst hv7
                have HL7 := Lib.hid hL7
                clear hg7 ho7 hL7
                refine hK.out _ _ (by exact HX0.out.below HB7.out HG0.out) (fun hHeld => ?_)
                clear hK K
                (try simp only [Act.put, List.setIfInBounds_toArray])
                refine wpAnyH_ready (rs := [6]) (by kernel_rfl) (by simp) ?_
                refine AllReadyH.cons rfl (fun K hK => ?_) AllReadyH.nil
                go_simp
                go_at_call 22
                refine (HEW.out A7 n7 d7 w7 hn7.out (by rw [← hn7.out]; simp; omega) HL7.out HB7.out).mono ?_
                rintro e w8 ⟨rfl, hb8⟩
                have HB8 := Lib.hid (HB7.out.trans (hb8.mono HB7.out.size))
                clear hb8
                go_wp2_with fail
                refine hK.out _ _ (by exact HX0.out.below HB8.out HG0.out) (fun hHeld => ?_)
                clear hK K
                (try simp only [Act.put, List.setIfInBounds_toArray, List.set_cons_zero, List.set_cons_succ])
                refine wpAnyH_take6 (i := 7) (d := some 138) (v := ?_) rfl rfl (by kernel_rfl) (by kernel_rfl) (by kernel_rfl) (fun _ _ _ h => h) (by rfl) ?hyc7_4 (by assumption) ?restc7_4
                case hyc7_4 => (intro W hSw; (try dsimp only at hSw); obtain ⟨s0, s1, s2, s3⟩ := hSw; go_simp; try (with_reducible rfl))
                (try simp only [Act.put, List.setIfInBounds_toArray, List.set_cons_zero, List.set_cons_succ])
                refine wpAnyH_take6 (i := 8) (d := some 146) (v := ?_) rfl rfl (by kernel_rfl) (by kernel_rfl) (by kernel_rfl) (fun _ _ _ h => h) (by rfl) ?hyc8_4 (by assumption) ?restc8_4
                case hyc8_4 => (intro W hSw; (try dsimp only at hSw); obtain ⟨s0, s1, s2, s3⟩ := hSw; go_simp; try (with_reducible rfl))
                (try simp only [Act.put, List.setIfInBounds_toArray, List.set_cons_zero, List.set_cons_succ])
                refine wpAnyH_take6 (i := 9) (d := some 147) (v := ?_) rfl rfl (by kernel_rfl) (by kernel_rfl) (by kernel_rfl) (fun _ _ _ h => h) (by rfl) ?hyc9_4 (by assumption) ?restc9_4
                case hyc9_4 => (intro W hSw; (try dsimp only at hSw); obtain ⟨s0, s1, s2, s3⟩ := hSw; go_simp; try (with_reducible rfl))
                (try simp only [Act.put, List.setIfInBounds_toArray, List.set_cons_zero, List.set_cons_succ])
                refine wpAnyH_take6 (i := 10) (d := some 16) (v := ?_) rfl rfl (by kernel_rfl) (by kernel_rfl) (by kernel_rfl) (fun _ _ _ h => h) (by rfl) ?hyc10_4 (by assumption) ?restc10_4
                case hyc10_4 => (intro W hSw; (try dsimp only at hSw); obtain ⟨s0, s1, s2, s3⟩ := hSw; go_simp; try (with_reducible rfl))
                (try simp only [Act.put, List.setIfInBounds_toArray, List.set_cons_zero, List.set_cons_succ])
                refine wpAnyH_take6 (i := 11) (d := some 17) (v := ?_) rfl rfl (by kernel_rfl) (by kernel_rfl) (by kernel_rfl) (fun _ _ _ h => h) (by rfl) ?hyc11_4 (by assumption) ?restc11_4
                case hyc11_4 => (intro W hSw; (try dsimp only at hSw); obtain ⟨s0, s1, s2, s3⟩ := hSw; go_simp; try (with_reducible rfl))
                (try simp only [Act.put, List.setIfInBounds_toArray, List.set_cons_zero, List.set_cons_succ])
                refine wpAnyH_done (by kernel_rfl) ?_ _
                go_wp2_with fail
                go_meet
                exact ⟨rfl, rfl, HB8⟩
            case rest =>
            obtain ⟨rfl, rfl, hb⟩ := hcut
            have HK5 := Lib.hid hb
            clear hb
            clear HEW HK4
            go_upto_region 15 with fail
            go_cut [18] from 71 (fun sx wz => sx = .bool (decide (E1 = 0 ∧ 0 ≤ X1 ∧ X1 < (V.W.length : Int))) ∧ Hid (Below W0.heap.size W0 wz))
            case first =>
              obtain ⟨y0, y1, y2, y3⟩ := HX0.out.below HK5.out HG0.out
              by_cases e1 : E1 = 0
              · by_cases e2 : 0 ≤ X1
                · by_cases e3 : X1 < (V.W.length : Int)
                  · have DQ := Lib.hid (congrArg Value.bool (decide_eq_true (⟨e1, e2, e3⟩ : E1 = 0 ∧ 0 ≤ X1 ∧ X1 < (V.W.length : Int))))
                    subst e1
                    go_wp2_with fail
                    go_meet
                    exact ⟨by first | exact DQ.out.symm | (rw [DQ.out]; simp [e2, e3]; done), HK5⟩
                  · have DQ := Lib.hid (congrArg Value.bool (decide_eq_false (fun q : E1 = 0 ∧ 0 ≤ X1 ∧ X1 < (V.W.length : Int) => e3 q.2.2)))
                    subst e1
                    go_wp2_with fail
                    go_meet
                    exact ⟨by first | exact DQ.out.symm | (rw [DQ.out]; simp [e2, e3]; done) | (rw [DQ.out]; simp; omega), HK5⟩
                · have DQ := Lib.hid (congrArg Value.bool (decide_eq_false (fun q : E1 = 0 ∧ 0 ≤ X1 ∧ X1 < (V.W.length : Int) => e2 q.2.1)))
                  subst e1
                  go_wp2_with fail
                  go_meet
                  exact ⟨by first | exact DQ.out.symm | (rw [DQ.out]; simp [e2]; done), HK5⟩
              · have DQ := Lib.hid (congrArg Value.bool (decide_eq_false (fun q : E1 = 0 ∧ 0 ≤ X1 ∧ X1 < (V.W.length : Int) => e1 q.1)))
                go_wp2_with fail
                go_meet
                exact ⟨by first | exact DQ.out.symm | (rw [DQ.out]; simp [e1]; done), HK5⟩
            case rest =>
            obtain ⟨rfl, hb⟩ := hcut
            have HK6 := Lib.hid hb
            clear hb HK5
            obtain ⟨y0, y1, y2, y3⟩ := HX0.out.below HK6.out HG0.out
            by_cases ht : E1 = 0 ∧ 0 ≤ X1 ∧ X1 < (V.W.length : Int)
            · have ew := F16.out.1.2 ht
              have exw := F16.out.2 ew
              rw [decide_eq_true ht]
              obtain ⟨e1, e2, e3⟩ := ht
              obtain ⟨j, rfl⟩ : ∃ j : Nat, X1 = j := ⟨X1.toNat, by omega⟩
              have hj : j < V.W.length := by omega
              obtain ⟨gw, ow, hA, _, cw⟩ := (HVL.out.below HK6.out).w.int hj
              rw [show V.W.getD (j : Int).toNat 0 = V.W[j] by simp [hj]] at exw
              rw [hA] at y3
              subst e1 ew exw
              clear F16 HVL H1 H2
              go_wp2_with fail
              refine (works6_any _).mono ?_
              rintro e w' ⟨rfl, hb⟩
              go_wp2_with fail
              go_ret
              exact ⟨rfl, HB0.out.trans ((HK6.out.trans (hb.mono HK6.out.size)).mono HB0.out.size)⟩
            · have ew : ¬ Ew = 0 := fun q => ht (F16.out.1.1 q)
              rw [decide_eq_false ht]
              have jw : (Ew == 0) = false := by simpa using ew
              clear F16 HVL H1 H2 ht
              go_wp2_with fail
              refine (works6_any _).mono ?_
              rintro e w' ⟨rfl, hb⟩
              go_wp2_with fail
              go_ret
              exact ⟨by first | rfl | exact congrArg (fun b => Ending.returned (.bool b)) (show (!(Ew == 0)) = true by rw [jw]; rfl), HB0.out.trans ((HK6.out.trans (hb.mono HK6.out.size)).mono HB0.out.size)⟩
end Go.Proofs.Ytdnpoeegefkoiaa
