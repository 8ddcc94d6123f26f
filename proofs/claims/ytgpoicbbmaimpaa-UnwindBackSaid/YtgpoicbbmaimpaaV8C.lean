/-
  The walk of UnwindBack.
-/
import Derived.Test.YtgpoicbbmaimpaaV8B
namespace Go.Proofs.Ytgpoicbbmaimpaa
open Go Go.RowKit

set_option maxRecDepth 100000 in
set_option maxHeartbeats 4000000 in
theorem unwindBack_any (A1 A2 A3 : Option Addr) (c1 c2 c3 : Nat) (ah : List UInt8) (ps : List Ps) (be : List UInt8) (w : World)
    (hc1 : A1 = none → c1 = 0) (hc3 : A3 = none → c3 = 0) (hcb : be.length ≤ c3) (h1 : Lies w w.heap.size A1 ah) (h2 : SLies w w.heap.size A2 ps) (h3 : Lies w w.heap.size A3 be) :
    Calls Try.prog 5 #[.slice A1 ah.length c1, .slice A2 ps.length c2, .slice A3 be.length c3] w (BoolR true w) := by
  by_cases ha : 1024 < ah.length
  · have hai : (1024 : Int) < (ah.length : Int) := by omega
    go_enter Try.func5, Try.ntmps5
    go_wp2_with fail
    refine (works8_any _).mono ?_
    rintro e w' ⟨rfl, hb⟩
    go_wp2_with fail
    go_ret
    exact ⟨rfl, hb⟩
  · have hai : (ah.length : Int) ≤ 1024 := by omega
    by_cases hbe : 4096 < be.length
    · have hbi : (4096 : Int) < (be.length : Int) := by omega
      go_enter Try.func5, Try.ntmps5
      go_wp2_with fail
      refine (works8_any _).mono ?_
      rintro e w' ⟨rfl, hb⟩
      go_wp2_with fail
      go_ret
      exact ⟨rfl, hb⟩
    · have hbi : (be.length : Int) ≤ 4096 := by omega
      have HVA := Lib.hid (vast8_any A2 c2 ps w h2.1)
      unfold VastR8 at HVA
      have HC := Lib.hid (And.intro hc1 hc3)
      have HL1 := Lib.hid h1
      have HL2 := Lib.hid h2
      have HL3 := Lib.hid h3
      clear h1 h2 h3 hc1 hc3
      go_enter Try.func5, Try.ntmps5
      go_wp2_with fail
      refine HVA.out.mono ?_
      rintro e w1 ⟨bv, rfl, hb1, hfew⟩
      have HB1 := Lib.hid hb1
      clear hb1 HVA
      cases bv with
      | true =>
        clear hfew
        go_wp2_with fail
        refine (works8_any _).mono ?_
        rintro e w' ⟨rfl, hb⟩
        go_wp2_with fail
        go_ret
        exact ⟨rfl, HB1.out.trans (hb.mono HB1.out.size)⟩
      | false =>
        have HF := Lib.hid (hfew rfl)
        have g1 := HB1.out.size
        clear hfew
        go_wp2_with fail
        refine (twin8_any A2 c2 ps w1 HF.out.sm (by have := HF.out.1; omega) (HL2.out.next HB1.out)).mono ?_
        rintro e w2 ⟨t2, rfl, ho2, hb2⟩
        have HB2 := Lib.hid (HB1.out.trans (hb2.mono g1))
        have g2 := HB2.out.size
        obtain ⟨B2, d2, qs, rfl, e2, _, _, hL2⟩ := ho2.form
        have HM2 := Lib.hid hL2
        have HE2 := Lib.hid e2
        clear ho2 hL2 hb2 e2
        go_wp2_with fail
        refine (put8_any A1 B2 c1 d2 ah qs w2 HC.out.1 (HF.out.of_sp HE2.out).sm (by omega) ((HL1.out.below HB2.out).more g2) HM2.out).mono ?_
        rintro e w3 ⟨t3, rfl, ho3, hb3⟩
        rw [HE2.out] at ho3 ⊢
        have HO3 := Lib.hid ho3
        have HB3 := Lib.hid (HB2.out.trans (hb3.mono g2))
        have g3 := HB3.out.size
        clear ho3 hb3 HM2 HE2
        have HR := Lib.hid (right8_any A2 c2 ps w3 HF.out.sm (HL2.out.next HB3.out))
        unfold BoolR at HR
        cases hrt : rightL (ps.map Ps.sp) with
        | true =>
          rw [hrt] at HR
          obtain ⟨q1, q2⟩ := pt_yes (b := ah) hrt
          rw [q2] at HO3
          rw [q1]
          have HG := Lib.hid (gs_some (b := ah ++ ownS (ps.map Ps.sp) ++ be) (by simp) (got_put3 hrt ah be))
          have hol := ownS_len hrt
          have hb3l : (ah ++ ownS (ps.map Ps.sp)).length ≤ 1302000 := by rw [List.length_append]; omega
          obtain ⟨B3, n3, d3, rfl, hn3, _, _, hL3⟩ := HO3.out.formN
          have hN : ((ah.length + (ownS (ps.map Ps.sp)).length : Nat) : Int) = (n3 : Int) := by rw [← hn3.out, List.length_append]
          rw [hN] at HG
          have HM3 := Lib.hid hL3
          have HSX := Lib.hid (rightL_sm hrt)
          clear q1 q2 hrt HO3 hL3 hN hol
          generalize ah ++ ownS (ps.map Ps.sp) = bb at *
          go_wp2_with fail
          refine HR.out.mono ?_
          rintro e w4 ⟨rfl, hb4⟩
          have HB4 := Lib.hid (HB3.out.trans (hb4.mono g3))
          have HM4 := Lib.hid ((HM3.out.below hb4).more hb4.size)
          have g4 := HB4.out.size
          clear hb4 HM3
          go_wp2_with fail
          refine (copyB7_n B3 n3 d3 bb w4 hn3.out (by rw [← hn3.out]; omega) HM4.out).mono ?_
          rintro e w5 ⟨t5, rfl, ho5, hb5⟩
          have HO5 := Lib.hid ho5
          have HB5' := Lib.hid hb5
          have HB5 := Lib.hid (HB4.out.trans (hb5.mono g4))
          have g5 := hb5.size
          clear ho5 hb5
          go_wp2_with (at_builtin
                       refine app_slice _ rfl (.tmp 50) (.tmp 51) rfl w4.heap.size t5 bb rfl HO5.out A3 c3 w.heap.size be rfl HC.out.2 (HL3.out.below HB5.out) (by omega) g5 ?_
                       intro t6 w6 ho6 hg6
                       have HB6' := Lib.hid (below_grown HB5'.out hg6 HO5.out g5)
                       have HO6 := Lib.hid ho6
                       clear hg6 ho6)
          have HB6 := Lib.hid (HB4.out.trans (HB6'.out.mono g4))
          obtain ⟨B6, n6, d6, rfl, hn6, _, _, hL6⟩ := HO6.out.formN
          have HG6 := Lib.hid (get8_n B6 n6 d6 (bb ++ be) (ah.length : Int) w6 hn6.out (by rw [← hn6.out, List.length_append]; omega) hL6)
          unfold GetR8 at HG6
          rw [HG.out.1, HG.out.2.1, HG.out.2.2] at HG6
          have g6 := HB6.out.size
          clear hL6 HO6
          refine HG6.out.mono ?_
          rintro e w7 ⟨t7, rfl, ho7, hb7⟩
          obtain ⟨B7, d7, qs, rfl, e7, _, _, hL7⟩ := ho7.form
          have HB7 := Lib.hid (HB6.out.trans (hb7.mono g6))
          have HSM := Lib.hid (same8_any B7 A2 d7 c2 qs ps w7 e7 (by
            have h := HSX.out
            have hl : qs.length = ps.length := by have := congrArg List.length e7; simpa using this
            exact (HF.out.of_sp e7).sm) hL7 (HL2.out.next HB7.out))
          have g7 := HB7.out.size
          clear ho7 hL7 hb7 HG6 e7
          go_wp2_with fail
          refine HSM.out.mono ?_
          rintro e wa ⟨rfl, hba⟩
          have HBa := Lib.hid (HB7.out.trans (hba.mono g7))
          clear hba HSM
          go_wp2_with fail
          refine (get8_all A3 c3 be 0 wa (by omega) ((HL3.out.below HBa.out).more HBa.out.size)).mono ?_
          rintro e wb ⟨t7, rfl, ho7, hb7⟩
          have HBb := Lib.hid (HBa.out.trans (hb7.mono HBa.out.size))
          have HO7 := Lib.hid ho7
          have gb := HBb.out.size
          clear ho7 hb7
          rcases gs_cases (b := be) 0 with ⟨he, q1, q2⟩ | ⟨k, n, hk0, hkb, hg, he, hn⟩
          · rw [q2]
            rw [q1] at HO7
            obtain ⟨B7, d7, qs7, e7v, e7, _, _, _⟩ := HO7.out.form
            have e70 : qs7.length = 0 := by have := congrArg List.length e7; simpa using this
            rw [e70] at e7v
            subst e7v
            clear q1 q2 e7 HO7 e70
            generalize gsE be 0 = E at *
            go_wp2_with fail
            refine (works8_any _).mono ?_
            rintro e w' ⟨rfl, hb⟩
            go_wp2_with fail
            go_ret
            exact ⟨rfl, HBb.out.trans (hb.mono gb)⟩
          · obtain rfl : k = 0 := by omega
            obtain ⟨hr, hxr, hn1, hn2, htk⟩ := gotS_has hg
            rw [he, hn]
            rw [List.drop_zero, Nat.sub_zero] at htk
            clear hg he hn hk0 hkb
            generalize gsL be 0 = m at *
            obtain ⟨B7, d7, qs7, rfl, e7, _, _, hL7⟩ := HO7.out.form
            have hr7 : rightL (qs7.map Ps.sp) = true := by rw [e7]; exact hr
            obtain ⟨hm4, hm16⟩ := rightL_sm hr7
            have HS7 := Lib.hid (show Sm qs7 from ⟨by omega, fun p hp => by have := hm16 p hp; omega⟩)
            have hol := ownS_len hr7
            rw [e7] at hol
            obtain ⟨h1', h2'⟩ := pt_yes (b := []) hr
            obtain ⟨g7, o7, hA3, _, _⟩ := HL3.out (by omega)
            have HLn := Lib.hid (fun w' (hb : Below w.heap.size w w') => (HL3.out.below hb).take7 n)
            rw [htk] at HLn
            have hon : (ownS m).length = n := by rw [← htk]; simp; omega
            have HP8 := Lib.hid (put8_any none B7 0 d7 [] qs7 wb (fun _ => rfl) HS7.out (by simp) (Lies.empty _ _ _) hL7)
            unfold PutR8 at HP8
            rw [e7, h1', h2', List.nil_append] at HP8
            have hni : (n : Int) ≤ (be.length : Int) := by omega
            have hn1i : (1 : Int) ≤ (n : Int) := by omega
            have hnc : n ≤ c3 := by omega
            have HR7 := Lib.hid (fun w' (hb : Below wb.heap.size wb w') => right8_any B7 d7 qs7 w' HS7.out (hL7.next hb))
            unfold BoolR at HR7
            rw [hr7] at HR7
            have hon' := Lib.hid hon
            clear h1' h2' htk hr hr7 hxr hL7 hon hm4 hm16 e7 HO7
            subst hA3
            go_wp2_with fail
            refine HP8.out.mono ?_
            rintro e wc ⟨t8, rfl, ho8, hb8⟩
            obtain ⟨B8, n8, d8, rfl, hn8, _, _, hL8⟩ := ho8.formN
            have HLc := Lib.hid hL8
            have HBc := Lib.hid (HBb.out.trans (hb8.mono gb))
            have HR8 := Lib.hid (HR7.out wc hb8)
            have gc := HBc.out.size
            clear ho8 hL8 hb8 HP8 HR7
            go_wp2_with fail
            refine HR8.out.mono ?_
            rintro e wd_ ⟨rfl, hb9⟩
            have HBd := Lib.hid (HBc.out.trans (hb9.mono gc))
            have HEQ := Lib.hid (eqB7_n B8 (some ⟨g7, o7, none⟩) d8 c3 _ _ n8 n (ownS m) wd_ hn8.out hon'.out (by rw [← hn8.out]; omega) (HLc.out.below hb9) (HLn.out wd_ HBd.out))
            have gd := HBd.out.size
            clear hb9 HR8
            go_wp2_with fail
            refine HEQ.out.mono ?_
            rintro e w10 ⟨rfl, rfl⟩
            go_wp2_with fail
            refine (works8_any _).mono ?_
            rintro e w' ⟨rfl, hb⟩
            go_wp2_with fail
            go_ret
            exact ⟨rfl, HBd.out.trans (hb.mono gd)⟩
        | false =>
          rw [hrt] at HR
          obtain ⟨q1, q2⟩ := pt_no (b := ah) hrt
          rw [q2] at HO3
          rw [q1]
          obtain ⟨B3, n3, d3, rfl, hn3, _, _, _⟩ := HO3.out.formN
          obtain rfl : 0 = n3 := hn3.out
          clear q1 q2 hrt HO3 hn3
          go_wp2_with fail
          refine HR.out.mono ?_
          rintro e wa ⟨rfl, hb4⟩
          have HBa := Lib.hid (HB3.out.trans (hb4.mono g3))
          clear hb4
          go_wp2_with fail
          refine (get8_all A3 c3 be 0 wa (by omega) ((HL3.out.below HBa.out).more HBa.out.size)).mono ?_
          rintro e wb ⟨t7, rfl, ho7, hb7⟩
          have HBb := Lib.hid (HBa.out.trans (hb7.mono HBa.out.size))
          have HO7 := Lib.hid ho7
          have gb := HBb.out.size
          clear ho7 hb7
          rcases gs_cases (b := be) 0 with ⟨he, q1, q2⟩ | ⟨k, n, hk0, hkb, hg, he, hn⟩
          · rw [q2]
            rw [q1] at HO7
            obtain ⟨B7, d7, qs7, e7v, e7, _, _, _⟩ := HO7.out.form
            have e70 : qs7.length = 0 := by have := congrArg List.length e7; simpa using this
            rw [e70] at e7v
            subst e7v
            clear q1 q2 e7 HO7 e70
            generalize gsE be 0 = E at *
            go_wp2_with fail
            refine (works8_any _).mono ?_
            rintro e w' ⟨rfl, hb⟩
            go_wp2_with fail
            go_ret
            exact ⟨rfl, HBb.out.trans (hb.mono gb)⟩
          · obtain rfl : k = 0 := by omega
            obtain ⟨hr, hxr, hn1, hn2, htk⟩ := gotS_has hg
            rw [he, hn]
            rw [List.drop_zero, Nat.sub_zero] at htk
            clear hg he hn hk0 hkb
            generalize gsL be 0 = m at *
            obtain ⟨B7, d7, qs7, rfl, e7, _, _, hL7⟩ := HO7.out.form
            have hr7 : rightL (qs7.map Ps.sp) = true := by rw [e7]; exact hr
            obtain ⟨hm4, hm16⟩ := rightL_sm hr7
            have HS7 := Lib.hid (show Sm qs7 from ⟨by omega, fun p hp => by have := hm16 p hp; omega⟩)
            have hol := ownS_len hr7
            rw [e7] at hol
            obtain ⟨h1', h2'⟩ := pt_yes (b := []) hr
            obtain ⟨g7, o7, hA3, _, _⟩ := HL3.out (by omega)
            have HLn := Lib.hid (fun w' (hb : Below w.heap.size w w') => (HL3.out.below hb).take7 n)
            rw [htk] at HLn
            have hon : (ownS m).length = n := by rw [← htk]; simp; omega
            have HP8 := Lib.hid (put8_any none B7 0 d7 [] qs7 wb (fun _ => rfl) HS7.out (by simp) (Lies.empty _ _ _) hL7)
            unfold PutR8 at HP8
            rw [e7, h1', h2', List.nil_append] at HP8
            have hni : (n : Int) ≤ (be.length : Int) := by omega
            have hn1i : (1 : Int) ≤ (n : Int) := by omega
            have hnc : n ≤ c3 := by omega
            have HR7 := Lib.hid (fun w' (hb : Below wb.heap.size wb w') => right8_any B7 d7 qs7 w' HS7.out (hL7.next hb))
            unfold BoolR at HR7
            rw [hr7] at HR7
            have hon' := Lib.hid hon
            clear h1' h2' htk hr hr7 hxr hL7 hon hm4 hm16 e7 HO7
            subst hA3
            go_wp2_with fail
            refine HP8.out.mono ?_
            rintro e wc ⟨t8, rfl, ho8, hb8⟩
            obtain ⟨B8, n8, d8, rfl, hn8, _, _, hL8⟩ := ho8.formN
            have HLc := Lib.hid hL8
            have HBc := Lib.hid (HBb.out.trans (hb8.mono gb))
            have HR8 := Lib.hid (HR7.out wc hb8)
            have gc := HBc.out.size
            clear ho8 hL8 hb8 HP8 HR7
            go_wp2_with fail
            refine HR8.out.mono ?_
            rintro e wd_ ⟨rfl, hb9⟩
            have HBd := Lib.hid (HBc.out.trans (hb9.mono gc))
            have HEQ := Lib.hid (eqB7_n B8 (some ⟨g7, o7, none⟩) d8 c3 _ _ n8 n (ownS m) wd_ hn8.out hon'.out (by rw [← hn8.out]; omega) (HLc.out.below hb9) (HLn.out wd_ HBd.out))
            have gd := HBd.out.size
            clear hb9 HR8
            go_wp2_with fail
            refine HEQ.out.mono ?_
            rintro e w10 ⟨rfl, rfl⟩
            go_wp2_with fail
            refine (works8_any _).mono ?_
            rintro e w' ⟨rfl, hb⟩
            go_wp2_with fail
            go_ret
            exact ⟨rfl, HBd.out.trans (hb.mono gd)⟩
end Go.Proofs.Ytgpoicbbmaimpaa
