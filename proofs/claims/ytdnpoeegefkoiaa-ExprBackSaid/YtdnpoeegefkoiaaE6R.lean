/-
  The walk of ExprBack.
-/
import Derived.Test.YtdnpoeegefkoiaaE6Q
namespace Go.Proofs.Ytdnpoeegefkoiaa
open Go Go.RowKit

theorem Lies.take {w : World} {B : Nat} {A : Option Addr} {l : List UInt8} (h : Lies w B A l) (n : Nat) : Lies w B A (l.take n) := fun hl => by
  have hl' : 0 < l.length := by simp at hl; omega
  obtain ⟨g, o, e, hg, hc⟩ := h hl'
  refine ⟨g, o, e, hg, fun j hj => ?_⟩
  have hj' : j < l.length := by simp at hj; omega
  rw [hc j hj']
  simp

set_option maxRecDepth 100000 in
set_option maxHeartbeats 4000000 in
theorem exprBack_any (A1 A2 A3 : Option Addr) (c1 c2 c3 : Nat) (ah : List UInt8) (l : List Lc) (be : List UInt8) (V : Vw) (P : Vp) (w : World)
    (hc1 : A1 = none → c1 = 0) (hc2 : A2 = none → c2 = 0) (hc3 : A3 = none → c3 = 0) (hcb : be.length ≤ c3) (hx : ∀ x ∈ l, x.Rng) (h1 : Lies w w.heap.size A1 ah) (h2 : LLies w w.heap.size A2 l) (h3 : Lies w w.heap.size A3 be) (hV : VIn w V P) :
    Calls Try.prog 5 #[.slice A1 ah.length c1, .slice A2 l.length c2, .slice A3 be.length c3, .agg (vK V P)] w (Yes6 w) := by
  have hb0 := below_lnew w (.cells (vK V P) 42)
  have HX0 := Lib.hid (vbox_new w V P)
  have HB0 := Lib.hid hb0
  by_cases ha : 1024 < ah.length
  · have hai : (1024 : Int) < (ah.length : Int) := by omega
    unfold vK at HB0
    unfold vK
    clear hb0 HX0
    go_enter Try.func5, Try.ntmps5
    go_wp2_with fail
    refine (works6_any _).mono ?_
    rintro e w' ⟨rfl, hb⟩
    go_wp2_with fail
    go_ret
    exact ⟨rfl, HB0.out.trans (hb.mono HB0.out.size)⟩
  · have hai : (ah.length : Int) ≤ 1024 := by omega
    by_cases hbe : 1024 < be.length
    · have hbi : (1024 : Int) < (be.length : Int) := by omega
      unfold vK at HB0
      unfold vK
      clear hb0 HX0
      go_enter Try.func5, Try.ntmps5
      go_wp2_with fail
      refine (works6_any _).mono ?_
      rintro e w' ⟨rfl, hb⟩
      go_wp2_with fail
      go_ret
      exact ⟨rfl, HB0.out.trans (hb.mono HB0.out.size)⟩
    · have hbi : (be.length : Int) ≤ 1024 := by omega
      have HVA := Lib.hid (vast_any A2 c2 l V P)
      unfold VastR at HVA
      cases hva : vastB l V with
      | true =>
        rw [hva] at HVA
        obtain ⟨y0, y1, y2, y3⟩ := HX0.out
        unfold vK at HB0 HVA y0 y1 y2 y3
        unfold vK
        clear hb0 HX0 hva
        go_enter Try.func5, Try.ntmps5
        go_wp2_with fail
        refine (HVA.out _).mono ?_
        rintro e w1 ⟨rfl, hb1⟩
        have HB1 := Lib.hid (HB0.out.trans (hb1.mono HB0.out.size))
        clear hb1 y0 y1 y2 y3
        go_wp2_with fail
        refine (works6_any _).mono ?_
        rintro e w' ⟨rfl, hb⟩
        go_wp2_with fail
        go_ret
        exact ⟨rfl, HB1.out.trans (hb.mono HB1.out.size)⟩
      | false =>
        rw [hva] at HVA
        obtain ⟨v1, v2, v3, v4⟩ := vast_no hva
        have HV := Lib.hid (hV.lies v2 v3 v4)
        obtain ⟨y0, y1, y2, y3⟩ := HX0.out
        have HC := Lib.hid (And.intro hc1 (And.intro hc2 hc3))
        have HL1 := Lib.hid h1
        have HL2 := Lib.hid h2
        have HL3 := Lib.hid h3
        have HX := Lib.hid hx
        unfold vK at HB0 HVA HX0 y0 y1 y2 y3
        unfold vK
        clear hb0 hva hV h1 h2 h3 hc1 hc2 hc3 hx v2 v3 v4
        go_enter Try.func5, Try.ntmps5
        go_wp2_with fail
        refine (HVA.out _).mono ?_
        rintro e w1 ⟨rfl, hb1⟩
        have HB1 := Lib.hid (HB0.out.trans (hb1.mono HB0.out.size))
        have HX1 := Lib.hid (VBox.below HX0.out hb1 (by simp))
        have g1 : w.heap.size < w1.heap.size := by have := hb1.size; simp at this; omega
        clear hb1 y0 y1 y2 y3 HX0
        go_wp2_with fail
        refine (twin6_any A2 c2 l w1 HC.out.2.1 (by omega) (HL2.out.next HB1.out)).mono ?_
        rintro e w2 ⟨t2, rfl, ho2, hb2⟩
        obtain ⟨B2, n2, d2, rfl, hn2, _, _, hL2⟩ := ho2.formN
        have HM2 := Lib.hid hL2
        have HB2 := Lib.hid (HB1.out.trans (hb2.mono HB1.out.size))
        have HX2 := Lib.hid (HX1.out.below hb2 g1)
        have g2 := hb2.size
        clear ho2 hL2 hb2 HX1
        go_wp2_with fail
        refine (put6_n B2 A1 n2 d2 c1 ah l w2 hn2.out HC.out.1 (by rw [← hn2.out]; omega) (by omega) HX.out ((HL1.out.below HB2.out).more HB2.out.size) HM2.out).mono ?_
        rintro e w3 ⟨t3, rfl, ho3, hb3⟩
        have HO3 := Lib.hid ho3
        have HB3 := Lib.hid (HB2.out.trans (hb3.mono HB2.out.size))
        have HX3 := Lib.hid (HX2.out.below hb3 (by omega))
        have g3 := hb3.size
        clear ho3 hb3 HX2 HM2
        have HR := Lib.hid (right6_any A2 c2 l w3 (by omega) (HL2.out.next HB3.out))
        unfold RightR6 at HR
        cases hrt : rightC l with
        | true =>
          rw [hrt] at HR
          obtain ⟨q1, q2⟩ := pt_yes (b := ah) hrt
          rw [q2] at HO3
          rw [q1]
          have HG := Lib.hid (ge_some (b := ah ++ ownC l ++ be) (by simp) (got_put hrt HX.out ah be))
          have hl16 := right_len hrt
          have hol := (ownC_len l).2
          obtain ⟨B3, n3, d3, rfl, hn3, _, _, hL3⟩ := HO3.out.formN
          have hN : ((ah.length + (ownC l).length : Nat) : Int) = (n3 : Int) := by rw [← hn3.out, List.length_append]
          have hb3l : (ah ++ ownC l).length ≤ 2000 := by rw [List.length_append]; omega
          rw [hN] at HG
          have HM3 := Lib.hid hL3
          clear q1 q2 hrt HO3 hL3 hN
          generalize ah ++ ownC l = bb at *
          go_wp2_with fail
          refine HR.out.mono ?_
          rintro e w4 ⟨rfl, hb4⟩
          have HB4 := Lib.hid (HB3.out.trans (hb4.mono HB3.out.size))
          have HX4 := Lib.hid (HX3.out.below hb4 (by omega))
          have HM4 := Lib.hid ((HM3.out.below hb4).more hb4.size)
          have g4 := hb4.size
          clear hb4 HX3 HM3
          go_wp2_with fail
          refine (copyB_n B3 n3 d3 bb w4 hn3.out (by rw [← hn3.out]; omega) HM4.out).mono ?_
          rintro e w5 ⟨t5, rfl, ho5, hb5⟩
          have HO5 := Lib.hid ho5
          have HB5' := Lib.hid hb5
          have HB5 := Lib.hid (HB4.out.trans (hb5.mono HB4.out.size))
          have HX4b := Lib.hid HX4.out
          have g5 := hb5.size
          clear ho5 hb5 HX4
          go_wp2_with (at_builtin
                       refine app_slice _ rfl (.tmp 56) (.tmp 57) rfl w4.heap.size t5 bb rfl HO5.out A3 c3 w.heap.size be rfl HC.out.2.2 (HL3.out.below HB5.out) (by omega) g5 ?_
                       intro t6 w6 ho6 hg6
                       have HB6' := Lib.hid (below_grown HB5'.out hg6 HO5.out g5)
                       have HO6 := Lib.hid ho6
                       clear hg6 ho6)
          have HB6 := Lib.hid (HB4.out.trans (HB6'.out.mono HB4.out.size))
          obtain ⟨B6, n6, d6, rfl, hn6, _, _, hL6⟩ := HO6.out.formN
          have HG6 := Lib.hid (get6_n B6 n6 d6 (bb ++ be) (ah.length : Int) w6 hn6.out (by rw [← hn6.out, List.length_append]; omega) hL6)
          unfold GetR6 at HG6
          rw [HG.out.1, HG.out.2.1, HG.out.2.2] at HG6
          have g6 := HB6'.out.size
          clear hL6 HO6
          refine HG6.out.mono ?_
          rintro e w7 ⟨t7, rfl, ho7, hb7⟩
          obtain ⟨B7, n7, d7, rfl, hn7, _, _, hL7⟩ := ho7.formN
          have HL7 := Lib.hid hL7
          have HB7 := Lib.hid (HB6.out.trans (hb7.mono HB6.out.size))
          have HX7 := Lib.hid (HX4b.out.below (HB6'.out.trans (hb7.mono g6)) (by omega))
          have g7 := hb7.size
          have HE7 := Lib.hid (eval6_any A2 c2 l V P w7 (by omega) (HL2.out.next HB7.out) ((HV.out.below HB7.out).more HB7.out.size))
          obtain ⟨y0, y1, y2, y3⟩ := HX7.out
          unfold vK EvalR at HE7
          clear ho7 hL7 hb7 HG6 HX4b
          go_wp2_with fail
          refine HE7.out.mono ?_
          rintro e w8 ⟨rfl, hb8⟩
          have HB8 := Lib.hid (HB7.out.trans (hb8.mono HB7.out.size))
          have HX8 := Lib.hid (HX7.out.below hb8 (by omega))
          have HL8 := Lib.hid (HL7.out.next hb8)
          have g8 := hb8.size
          have HE8 := Lib.hid (eval6_n B7 n7 d7 l V P w8 hn7.out (by rw [← hn7.out]; omega) HL8.out ((HV.out.below HB8.out).more HB8.out.size))
          unfold vK EvalR at HE8
          generalize evX V l = X at *
          generalize evE V l = EE at *
          clear y0 y1 y2 y3 hb8 HE7 HX7 HL7
          obtain ⟨y0, y1, y2, y3⟩ := HX8.out
          go_wp2_with fail
          refine HE8.out.mono ?_
          rintro e w9 ⟨rfl, hb9⟩
          have HB9 := Lib.hid (HB8.out.trans (hb9.mono HB8.out.size))
          have HSM := Lib.hid (same6_n B7 A2 n7 l.length d7 c2 l w9 hn7.out rfl (by rw [← hn7.out]; omega) (HL8.out.next hb9) (HL2.out.next HB9.out))
          clear y0 y1 y2 y3 hb9 HE8 HX8 HL8
          go_wp2_with fail
          refine HSM.out.mono ?_
          rintro e wa ⟨rfl, hba⟩
          have HBa := Lib.hid (HB9.out.trans (hba.mono HB9.out.size))
          clear hba HSM
          go_wp2_with fail
          refine (get6_any A3 c3 be 0 wa (by omega) ((HL3.out.below HBa.out).more HBa.out.size)).mono ?_
          rintro e wb ⟨t7, rfl, ho7, hb7⟩
          have HBb := Lib.hid (HBa.out.trans (hb7.mono HBa.out.size))
          have HO7 := Lib.hid ho7
          clear ho7 hb7
          rcases ge_cases (b := be) 0 with ⟨he, q1, q2⟩ | ⟨k, n, hk0, hkb, hg, he, hn⟩
          · rw [q2]
            rw [q1] at HO7
            obtain ⟨B7, n7, d7, rfl, hn7, _, _, _⟩ := HO7.out.formN
            obtain rfl : 0 = n7 := hn7.out
            clear q1 q2 hn7 HO7
            generalize geE be 0 = E at *
            go_wp2_with fail
            refine (works6_any _).mono ?_
            rintro e w' ⟨rfl, hb⟩
            go_wp2_with fail
            go_ret
            exact ⟨rfl, HBb.out.trans (hb.mono HBb.out.size)⟩
          · obtain rfl : k = 0 := by omega
            obtain ⟨hr, hxr, hn1, hn2, htk⟩ := gotO_has hg
            rw [he, hn]
            rw [List.drop_zero, Nat.sub_zero] at htk
            clear hg he hn hk0 hkb
            generalize geL be 0 = m at *
            have hm16 := right_len hr
            obtain ⟨h1', h2'⟩ := pt_yes (b := []) hr
            obtain ⟨g7, o7, hA3, _, _⟩ := HL3.out (by omega)
            have HLn := Lib.hid (fun w' (hb : Below w.heap.size w w') => (HL3.out.below hb).take n)
            rw [htk] at HLn
            obtain ⟨B7, n7, d7, rfl, hn7, _, _, hL7⟩ := HO7.out.formN
            have hol := (ownC_len m).2
            have hon : (ownC m).length = n := by rw [← htk]; simp; omega
            have HP8 := Lib.hid (put6_n B7 none n7 d7 0 [] m wb hn7.out (fun _ => rfl) (by rw [← hn7.out]; omega) (by simp) hxr (Lies.empty _ _ _) hL7)
            unfold PutR6 at HP8
            rw [h1', h2', List.nil_append] at HP8
            have hni : (n : Int) ≤ (be.length : Int) := by omega
            have hn1i : (1 : Int) ≤ (n : Int) := by omega
            have hnc : n ≤ c3 := by omega
            have HR7 := Lib.hid (fun w' (hb : Below wb.heap.size wb w') => right6_n B7 n7 d7 m w' hn7.out (by rw [← hn7.out]; omega) (hL7.next hb))
            unfold RightR6 at HR7
            rw [hr] at HR7
            have hon' := Lib.hid hon
            clear h1' h2' htk hr hxr hL7 hon
            subst hA3
            go_wp2_with fail
            refine HP8.out.mono ?_
            rintro e wc ⟨t8, rfl, ho8, hb8⟩
            obtain ⟨B8, n8, d8, rfl, hn8, _, _, hL8⟩ := ho8.formN
            have HLc := Lib.hid hL8
            have HBc := Lib.hid (HBb.out.trans (hb8.mono HBb.out.size))
            have HR8 := Lib.hid (HR7.out wc hb8)
            clear ho8 hL8 hb8 HP8 HR7
            go_wp2_with fail
            refine HR8.out.mono ?_
            rintro e wd_ ⟨rfl, hb9⟩
            have HBd := Lib.hid (HBc.out.trans (hb9.mono HBc.out.size))
            have HEQ := Lib.hid (eqB6_n B8 (some ⟨g7, o7, none⟩) d8 c3 _ _ n8 n (ownC m) wd_ hn8.out hon'.out (by rw [← hn8.out]; omega) (HLc.out.below hb9) (HLn.out wd_ HBd.out))
            clear hb9 HR8
            go_wp2_with fail
            refine HEQ.out.mono ?_
            rintro e w10 ⟨rfl, rfl⟩
            go_wp2_with fail
            refine (works6_any _).mono ?_
            rintro e w' ⟨rfl, hb⟩
            go_wp2_with fail
            go_ret
            exact ⟨rfl, HBd.out.trans (hb.mono HBd.out.size)⟩
        | false =>
          rw [hrt] at HR
          obtain ⟨q1, q2⟩ := pt_no (b := ah) hrt
          rw [q2] at HO3
          rw [q1]
          obtain ⟨B3, n3, d3, rfl, hn3, _, _, _⟩ := HO3.out.formN
          obtain rfl : 0 = n3 := hn3.out
          clear q1 q2 hrt HO3 hn3
          go_wp2_with fail
          refine HR.out.mono ?_
          rintro e w4 ⟨rfl, hb4⟩
          have HB4 := Lib.hid (HB3.out.trans (hb4.mono HB3.out.size))
          clear hb4
          go_wp2_with fail
          refine (get6_any A3 c3 be 0 w4 (by omega) ((HL3.out.below HB4.out).more HB4.out.size)).mono ?_
          rintro e w7 ⟨t7, rfl, ho7, hb7⟩
          have HB7 := Lib.hid (HB4.out.trans (hb7.mono HB4.out.size))
          have HO7 := Lib.hid ho7
          clear ho7 hb7
          rcases ge_cases (b := be) 0 with ⟨he, q1, q2⟩ | ⟨k, n, hk0, hkb, hg, he, hn⟩
          · rw [q2]
            rw [q1] at HO7
            obtain ⟨B7, n7, d7, rfl, hn7, _, _, _⟩ := HO7.out.formN
            obtain rfl : 0 = n7 := hn7.out
            clear q1 q2 hn7 HO7
            generalize geE be 0 = E at *
            go_wp2_with fail
            refine (works6_any _).mono ?_
            rintro e w' ⟨rfl, hb⟩
            go_wp2_with fail
            go_ret
            exact ⟨rfl, HB7.out.trans (hb.mono HB7.out.size)⟩
          · obtain rfl : k = 0 := by omega
            obtain ⟨hr, hxr, hn1, hn2, htk⟩ := gotO_has hg
            rw [he, hn]
            rw [List.drop_zero, Nat.sub_zero] at htk
            clear hg he hn hk0 hkb
            generalize geL be 0 = m at *
            have hm16 := right_len hr
            obtain ⟨h1', h2'⟩ := pt_yes (b := []) hr
            obtain ⟨g7, o7, hA3, _, _⟩ := HL3.out (by omega)
            have HLn := Lib.hid (fun w' (hb : Below w.heap.size w w') => (HL3.out.below hb).take n)
            rw [htk] at HLn
            obtain ⟨B7, n7, d7, rfl, hn7, _, _, hL7⟩ := HO7.out.formN
            have hol := (ownC_len m).2
            have hon : (ownC m).length = n := by rw [← htk]; simp; omega
            have HP8 := Lib.hid (put6_n B7 none n7 d7 0 [] m w7 hn7.out (fun _ => rfl) (by rw [← hn7.out]; omega) (by simp) hxr (Lies.empty _ _ _) hL7)
            unfold PutR6 at HP8
            rw [h1', h2', List.nil_append] at HP8
            have hni : (n : Int) ≤ (be.length : Int) := by omega
            have hn1i : (1 : Int) ≤ (n : Int) := by omega
            have hnc : n ≤ c3 := by omega
            have HR7 := Lib.hid (fun w' (hb : Below w7.heap.size w7 w') => right6_n B7 n7 d7 m w' hn7.out (by rw [← hn7.out]; omega) (hL7.next hb))
            unfold RightR6 at HR7
            rw [hr] at HR7
            have hon' := Lib.hid hon
            clear h1' h2' htk hr hxr hL7 hon
            subst hA3
            go_wp2_with fail
            refine HP8.out.mono ?_
            rintro e w8 ⟨t8, rfl, ho8, hb8⟩
            obtain ⟨B8, n8, d8, rfl, hn8, _, _, hL8⟩ := ho8.formN
            have HL8 := Lib.hid hL8
            have HB8 := Lib.hid (HB7.out.trans (hb8.mono HB7.out.size))
            have HR8 := Lib.hid (HR7.out w8 hb8)
            clear ho8 hL8 hb8 HP8 HR7
            go_wp2_with fail
            refine HR8.out.mono ?_
            rintro e w9 ⟨rfl, hb9⟩
            have HB9 := Lib.hid (HB8.out.trans (hb9.mono HB8.out.size))
            have HEQ := Lib.hid (eqB6_n B8 (some ⟨g7, o7, none⟩) d8 c3 _ _ n8 n (ownC m) w9 hn8.out hon'.out (by rw [← hn8.out]; omega) (HL8.out.below hb9) (HLn.out w9 HB9.out))
            clear hb9 HR8
            go_wp2_with fail
            refine HEQ.out.mono ?_
            rintro e w10 ⟨rfl, rfl⟩
            go_wp2_with fail
            refine (works6_any _).mono ?_
            rintro e w' ⟨rfl, hb⟩
            go_wp2_with fail
            go_ret
            exact ⟨rfl, HB9.out.trans (hb.mono HB9.out.size)⟩
end Go.Proofs.Ytdnpoeegefkoiaa
