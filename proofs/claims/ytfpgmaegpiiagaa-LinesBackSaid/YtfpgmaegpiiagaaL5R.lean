/-
  The walk of LinesBack.
-/
import Derived.Test.YtfpgmaegpiiagaaL5P
namespace Go.Proofs.Ytfpgmaegpiiagaa
open Go.RowKit

theorem Lies.take5 {w : World} {B : Nat} {A : Option Addr} {l : List UInt8} (h : Lies w B A l) (k : Nat) : Lies w B A (l.take k) := fun hl => by
  have hl' : 0 < l.length := by simp at hl; omega
  obtain ⟨g, o, e, hg, hc⟩ := h hl'
  refine ⟨g, o, e, hg, fun j hj => ?_⟩
  have hj' : j < l.length := by simp at hj; omega
  rw [hc j hj']; simp
theorem read_n (A : Option Addr) (n c : Nat) (b : List UInt8) (w : World) (hl : b.length = n) (hn : n ≤ 1099511627776) (h : Lies w w.heap.size A b) :
    Calls Try.prog 16 #[.slice A n c] w (ReadR b w) := by
  subst hl; exact read_any A c b w hn h
theorem twin_n (A : Option Addr) (n c : Nat) (l : List Rw) (w : World) (hl : l.length = n) (hc : A = none → c = 0) (hn : n ≤ 1099511627776) (h : RLies w w.heap.size A l) :
    Calls Try.prog 8 #[.slice A n c] w (MadeRows w l) := by
  subst hl; exact twin_any A c l w hc hn h
theorem wr_yes {l : List Rw} (h : rightB l = true) : wrE l = 0 ∧ wrB l = progB l := by unfold wrE wrB; rw [if_pos h, if_pos h]; exact ⟨rfl, rfl⟩
theorem wr_no {l : List Rw} (h : ¬ rightB l = true) : wrE l = 1 ∧ wrB l = [] := by unfold wrE wrB; rw [if_neg h, if_neg h]; exact ⟨rfl, rfl⟩
theorem rest_right {b : List UInt8} (h : reE b = 0) : rightB (reL b) = true := rdL_right (re_ok h)
theorem prog_back {l : List Rw} (h : rightB l = true) : reE (progB l) = 0 ∧ reL (progB l) = l := re_some (rdL_prog h)
theorem prog_cut {l : List Rw} (h : rightB l = true) {k : Nat} (hk : k < (progB l).length) : reE ((progB l).take k) = 5 := (re_none (rdL_cut h hk)).1

set_option maxRecDepth 100000 in
set_option maxHeartbeats 4000000 in
theorem linesBack_any (A Ab : Option Addr) (c cb : Nat) (l : List Rw) (b : List UInt8) (w : World) (hc : A = none → c = 0) (h : RLies w w.heap.size A l) (hy : Lies w w.heap.size Ab b) :
    Calls Try.prog 5 #[.slice A l.length c, .slice Ab b.length cb] w (Yes5 w) := by
  by_cases hbig : 30000 < l.length
  · have hb2 : (30000 : Int) < l.length := by omega
    go_enter Try.func5, Try.ntmps5
    go_wp2_with fail
    refine (works_any _).mono ?_
    rintro e w' ⟨rfl, hb⟩
    go_wp2
    go_ret
    exact ⟨rfl, hb⟩
  · have hb2 : (l.length : Int) ≤ 30000 := by omega
    by_cases hbig2 : 65536 < b.length
    · have hb3 : (65536 : Int) < b.length := by omega
      go_enter Try.func5, Try.ntmps5
      go_wp2_with fail
      refine (works_any _).mono ?_
      rintro e w' ⟨rfl, hb⟩
      go_wp2
      go_ret
      exact ⟨rfl, hb⟩
    · have hb3 : (b.length : Int) ≤ 65536 := by omega
      have HC := Lib.hid hc
      have HY := Lib.hid hy
      have HX := Lib.hid h
      clear hc hy
      go_enter Try.func5, Try.ntmps5
      go_wp2_with fail
      refine (twin_any A c l w HC.out (by omega) HX.out).mono ?_
      rintro e w1 ⟨v1, rfl, ho1, hb1⟩
      obtain ⟨A1, n1, c1, rfl, hn1, _, _, hL1⟩ := ho1.formN
      have hn1' : n1 ≤ 1000000 := by rw [← hn1.out]; omega
      have HW1 := Lib.hid (write_n A1 n1 c1 l w1 hn1.out hn1' hL1)
      unfold WriteR at HW1
      have HB1 := Lib.hid hb1
      clear ho1 hL1 hb1 h
      by_cases hr : rightB l = true
      · obtain ⟨E1, E2⟩ := wr_yes hr
        rw [E1, E2] at HW1
        have hp1 := progB_len hr
        have HP2 := Lib.hid (prog_back hr)
        have HP3 := Lib.hid (fun k hk => prog_cut (k := k) hr hk)
        have HR := Lib.hid hr
        clear E1 E2 hr
        generalize progB l = p at *
        go_wp2_with fail
        refine HW1.out.mono ?_
        rintro e w2 ⟨v2, rfl, ho2, hb2'⟩
        have HB2 := Lib.hid (HB1.out.trans (hb2'.mono HB1.out.size))
        obtain ⟨A2, n2, c2, rfl, hn2, hcap2, hA2, hM2⟩ := ho2.formN
        have HM2 := Lib.hid hM2
        have hn2' : n2 ≤ 9 * l.length + 1 := by rw [← hn2.out]; exact hp1
        clear ho2 hb2' HW1 hp1 hM2 hA2
        go_wp2_with fail
        refine (right_any A c l w2 (by omega) (HX.out.next HB2.out)).mono ?_
        rintro e w3 ⟨rfl, hb3'⟩
        rw [HR.out]
        have HB3 := Lib.hid (HB2.out.trans (hb3'.mono HB2.out.size))
        have HM3 := Lib.hid ((HM2.out.below hb3').more hb3'.size)
        clear hb3' HM2
        go_wp2_with fail
        refine (read_n A2 n2 c2 p w3 hn2.out (by omega) HM3.out).mono ?_
        rintro e w4 ⟨v4, rfl, ho4, hb4⟩
        rw [HP2.out.1]
        rw [HP2.out.2] at ho4
        obtain ⟨A4, n4, c4, rfl, hn4, _, _, hM4⟩ := ho4.formN
        have hn4' : n4 ≤ 1000000 := by rw [← hn4.out]; omega
        have HB4 := Lib.hid (HB3.out.trans (hb4.mono HB3.out.size))
        have HM4 := Lib.hid ((HM3.out.below hb4).more hb4.size)
        have HSM := Lib.hid (same_n A4 A n4 l.length c4 c l w4 hn4.out rfl hn4' hM4 (HX.out.next HB4.out))
        have hn2i : (n2 : Int) ≤ 9 * (l.length : Int) + 1 := by omega
        clear ho4 hb4 HM3 hM4 hn2'
        go_wp2_with fail
        refine HSM.out.mono ?_
        rintro e w5 ⟨rfl, hb5⟩
        have HB5 := Lib.hid (HB4.out.trans (hb5.mono HB4.out.size))
        have HM5 := Lib.hid ((HM4.out.below hb5).more hb5.size)
        clear hb5 HM4 HSM
        go_wp2_with fail
        go_loopw [9] (fun i wr => ∃ k : Nat, k ≤ n2 ∧ k ≤ 200 ∧ i = .int .i64 k ∧ Hid (Below w.heap.size w wr) ∧ Hid (Lies wr wr.heap.size A2 p)) (fun i _ => n2 - (intOf i).toNat)
        case atStart => exact ⟨0, by omega, by omega, rfl, HB5, HM5⟩
        case round =>
          obtain ⟨k, hk, hk2, rfl, hB, hM⟩ := hrel
          clear HB5 HM5
          by_cases hlt : k < n2 ∧ k < 200
          · obtain ⟨hlt1, hlt2⟩ := hlt
            have hcut := HP3.out k (by rw [hn2.out]; exact hlt1)
            have HRD := Lib.hid (read_n A2 k c2 (p.take k) wr (by rw [List.length_take, hn2.out]; omega) (by omega) (hM.out.take5 k))
            unfold ReadR at HRD
            rw [hcut] at HRD
            clear hcut
            have hkc : k ≤ c2 := by omega
            go_wp2_with fail
            refine HRD.out.mono ?_
            rintro e w6 ⟨v6, rfl, _, hb6⟩
            have HB6 := Lib.hid (hB.out.trans (hb6.mono hB.out.size))
            have HM6 := Lib.hid ((hM.out.below hb6).more hb6.size)
            clear hb6 HRD
            go_wp2_with fail
            go_roundw
            case rel => exact ⟨k + 1, by omega, by omega, by go_num, HB6, HM6⟩
            case measure => simp [intOf]; omega
          · have hge : ¬ (k < n2 ∧ k < 200) := hlt
            by_cases hk3 : k < n2
            · have hk4 : 200 ≤ k := by omega
              clear hlt hge
              go_wp2_with fail
              have HRB := Lib.hid (read_any Ab cb b wr (by omega) ((HY.out.below hB.out).more hB.out.size))
              unfold ReadR at HRB
              by_cases hE : reE b = 0
              · have HRT := Lib.hid (rest_right hE)
                have hfew := re_few b
                rw [hE] at HRB
                clear hE
                generalize reL b = r at *
                refine HRB.out.mono ?_
                rintro e w7 ⟨v7, rfl, ho7, hb7⟩
                have HB7 := Lib.hid (hB.out.trans (hb7.mono hB.out.size))
                obtain ⟨A7, n7, c7, rfl, hn7, _, hA7, hM7⟩ := ho7.formN
                have hn7' : n7 ≤ 20000 := by rw [← hn7.out]; exact hfew
                have HM7 := Lib.hid hM7
                have HTW := Lib.hid (twin_n A7 n7 c7 r w7 hn7.out hA7 (by omega) hM7)
                clear ho7 hb7 HRB hM7 hA7
                go_wp2_with fail
                refine HTW.out.mono ?_
                rintro e w8 ⟨v8, rfl, ho8, hb8⟩
                have HB8 := Lib.hid (HB7.out.trans (hb8.mono HB7.out.size))
                have HM8 := Lib.hid (HM7.out.next hb8)
                obtain ⟨A8, n8, c8, rfl, hn8, _, _, hM8⟩ := ho8.formN
                have HW8 := Lib.hid (write_n A8 n8 c8 r w8 hn8.out (by rw [← hn8.out, hn7.out]; omega) hM8)
                unfold WriteR at HW8
                rw [(wr_yes HRT.out).1, (wr_yes HRT.out).2] at HW8
                have hp1' := progB_len HRT.out
                have HPB := Lib.hid (prog_back HRT.out)
                generalize progB r = p2 at *
                clear ho8 hb8 hM8 HM7 HTW
                go_wp2_with fail
                refine HW8.out.mono ?_
                rintro e w9 ⟨v9, rfl, ho9, hb9⟩
                have HB9 := Lib.hid (HB8.out.trans (hb9.mono HB8.out.size))
                have HM9 := Lib.hid (HM8.out.next hb9)
                obtain ⟨A9, n9, c9, rfl, hn9, _, _, hM9⟩ := ho9.formN
                have hn9' : n9 ≤ 9 * n7 + 1 := by rw [← hn9.out, ← hn7.out]; exact hp1'
                have HRD9 := Lib.hid (read_n A9 n9 c9 p2 w9 hn9.out (by omega) hM9)
                unfold ReadR at HRD9
                rw [HPB.out.1, HPB.out.2] at HRD9
                clear ho9 hb9 hM9 HM8 HW8 hp1' HPB
                go_wp2_with fail
                refine HRD9.out.mono ?_
                rintro e w10 ⟨v10, rfl, ho10, hb10⟩
                have HB10 := Lib.hid (HB9.out.trans (hb10.mono HB9.out.size))
                have HM10 := Lib.hid (HM9.out.next hb10)
                obtain ⟨A10, n10, c10, rfl, hn10, _, _, hM10⟩ := ho10.formN
                have HN10 := Lib.hid hM10
                have HR10 := Lib.hid (right_n A7 n7 c7 r w10 hn7.out (by omega) HM10.out)
                unfold RightR at HR10
                rw [HRT.out] at HR10
                have hn9i : (n9 : Int) ≤ 9 * (n7 : Int) + 1 := by omega
                clear ho10 hb10 hM10 HM9 HRD9 hn9'
                go_wp2_with fail
                refine HR10.out.mono ?_
                rintro e w11 ⟨rfl, hb11⟩
                have HB11 := Lib.hid (HB10.out.trans (hb11.mono HB10.out.size))
                have HSM := Lib.hid (same_n A7 A10 n7 n10 c7 c10 r w11 hn7.out hn10.out (by omega) (HM10.out.next hb11) (HN10.out.next hb11))
                clear hb11 HR10
                go_wp2_with fail
                refine HSM.out.mono ?_
                rintro e w12 ⟨rfl, hb12⟩
                have HB12 := Lib.hid (HB11.out.trans (hb12.mono HB11.out.size))
                clear hb12 HSM
                go_wp2_with fail
                refine (works_any _).mono ?_
                rintro e w13 ⟨rfl, hb13⟩
                go_wp2_with fail
                go_ret
                exact ⟨rfl, HB12.out.trans (hb13.mono HB12.out.size)⟩
              · obtain ⟨E1, E2⟩ := re_no hE
                rw [E1, E2] at HRB
                clear hE E1 E2
                refine HRB.out.mono ?_
                rintro e w7 ⟨v7, rfl, ho7, hb7⟩
                have HB7 := Lib.hid (hB.out.trans (hb7.mono hB.out.size))
                obtain ⟨A7, c7, rfl, _, _, hM7⟩ := ho7.form
                simp only [List.length_nil]
                clear ho7 hb7 HRB hM7
                go_wp2_with fail
                refine (works_any _).mono ?_
                rintro e w13 ⟨rfl, hb13⟩
                go_wp2_with fail
                go_ret
                exact ⟨rfl, HB7.out.trans (hb13.mono HB7.out.size)⟩
            · have hk4 : n2 ≤ k := by omega
              clear hlt hge
              go_wp2_with fail
              have HRB := Lib.hid (read_any Ab cb b wr (by omega) ((HY.out.below hB.out).more hB.out.size))
              unfold ReadR at HRB
              by_cases hE : reE b = 0
              · have HRT := Lib.hid (rest_right hE)
                have hfew := re_few b
                rw [hE] at HRB
                clear hE
                generalize reL b = r at *
                refine HRB.out.mono ?_
                rintro e w7 ⟨v7, rfl, ho7, hb7⟩
                have HB7 := Lib.hid (hB.out.trans (hb7.mono hB.out.size))
                obtain ⟨A7, n7, c7, rfl, hn7, _, hA7, hM7⟩ := ho7.formN
                have hn7' : n7 ≤ 20000 := by rw [← hn7.out]; exact hfew
                have HM7 := Lib.hid hM7
                have HTW := Lib.hid (twin_n A7 n7 c7 r w7 hn7.out hA7 (by omega) hM7)
                clear ho7 hb7 HRB hM7 hA7
                go_wp2_with fail
                refine HTW.out.mono ?_
                rintro e w8 ⟨v8, rfl, ho8, hb8⟩
                have HB8 := Lib.hid (HB7.out.trans (hb8.mono HB7.out.size))
                have HM8 := Lib.hid (HM7.out.next hb8)
                obtain ⟨A8, n8, c8, rfl, hn8, _, _, hM8⟩ := ho8.formN
                have HW8 := Lib.hid (write_n A8 n8 c8 r w8 hn8.out (by rw [← hn8.out, hn7.out]; omega) hM8)
                unfold WriteR at HW8
                rw [(wr_yes HRT.out).1, (wr_yes HRT.out).2] at HW8
                have hp1' := progB_len HRT.out
                have HPB := Lib.hid (prog_back HRT.out)
                generalize progB r = p2 at *
                clear ho8 hb8 hM8 HM7 HTW
                go_wp2_with fail
                refine HW8.out.mono ?_
                rintro e w9 ⟨v9, rfl, ho9, hb9⟩
                have HB9 := Lib.hid (HB8.out.trans (hb9.mono HB8.out.size))
                have HM9 := Lib.hid (HM8.out.next hb9)
                obtain ⟨A9, n9, c9, rfl, hn9, _, _, hM9⟩ := ho9.formN
                have hn9' : n9 ≤ 9 * n7 + 1 := by rw [← hn9.out, ← hn7.out]; exact hp1'
                have HRD9 := Lib.hid (read_n A9 n9 c9 p2 w9 hn9.out (by omega) hM9)
                unfold ReadR at HRD9
                rw [HPB.out.1, HPB.out.2] at HRD9
                clear ho9 hb9 hM9 HM8 HW8 hp1' HPB
                go_wp2_with fail
                refine HRD9.out.mono ?_
                rintro e w10 ⟨v10, rfl, ho10, hb10⟩
                have HB10 := Lib.hid (HB9.out.trans (hb10.mono HB9.out.size))
                have HM10 := Lib.hid (HM9.out.next hb10)
                obtain ⟨A10, n10, c10, rfl, hn10, _, _, hM10⟩ := ho10.formN
                have HN10 := Lib.hid hM10
                have HR10 := Lib.hid (right_n A7 n7 c7 r w10 hn7.out (by omega) HM10.out)
                unfold RightR at HR10
                rw [HRT.out] at HR10
                have hn9i : (n9 : Int) ≤ 9 * (n7 : Int) + 1 := by omega
                clear ho10 hb10 hM10 HM9 HRD9 hn9'
                go_wp2_with fail
                refine HR10.out.mono ?_
                rintro e w11 ⟨rfl, hb11⟩
                have HB11 := Lib.hid (HB10.out.trans (hb11.mono HB10.out.size))
                have HSM := Lib.hid (same_n A7 A10 n7 n10 c7 c10 r w11 hn7.out hn10.out (by omega) (HM10.out.next hb11) (HN10.out.next hb11))
                clear hb11 HR10
                go_wp2_with fail
                refine HSM.out.mono ?_
                rintro e w12 ⟨rfl, hb12⟩
                have HB12 := Lib.hid (HB11.out.trans (hb12.mono HB11.out.size))
                clear hb12 HSM
                go_wp2_with fail
                refine (works_any _).mono ?_
                rintro e w13 ⟨rfl, hb13⟩
                go_wp2_with fail
                go_ret
                exact ⟨rfl, HB12.out.trans (hb13.mono HB12.out.size)⟩
              · obtain ⟨E1, E2⟩ := re_no hE
                rw [E1, E2] at HRB
                clear hE E1 E2
                refine HRB.out.mono ?_
                rintro e w7 ⟨v7, rfl, ho7, hb7⟩
                have HB7 := Lib.hid (hB.out.trans (hb7.mono hB.out.size))
                obtain ⟨A7, c7, rfl, _, _, hM7⟩ := ho7.form
                simp only [List.length_nil]
                clear ho7 hb7 HRB hM7
                go_wp2_with fail
                refine (works_any _).mono ?_
                rintro e w13 ⟨rfl, hb13⟩
                go_wp2_with fail
                go_ret
                exact ⟨rfl, HB7.out.trans (hb13.mono HB7.out.size)⟩
      · obtain ⟨E1, E2⟩ := wr_no hr
        rw [E1, E2] at HW1
        have HR := Lib.hid (show rightB l = false by simpa using hr)
        clear E1 E2 hr
        go_wp2_with fail
        refine HW1.out.mono ?_
        rintro e w2 ⟨v2, rfl, ho2, hb2'⟩
        have hB := Lib.hid (HB1.out.trans (hb2'.mono HB1.out.size))
        obtain ⟨A2, c2, rfl, hcap2, hA2, hM2⟩ := ho2.form
        simp only [List.length_nil]
        clear ho2 hb2' HW1 hM2 hA2
        go_wp2_with fail
        refine (right_any A c l w2 (by omega) (HX.out.next hB.out)).mono ?_
        rintro e w3 ⟨rfl, hb3'⟩
        rw [HR.out]
        have hB := Lib.hid (hB.out.trans (hb3'.mono hB.out.size))
        clear hb3'
        go_wp2_with fail
        have HRB := Lib.hid (read_any Ab cb b w3 (by omega) ((HY.out.below hB.out).more hB.out.size))
        unfold ReadR at HRB
        by_cases hE : reE b = 0
        · have HRT := Lib.hid (rest_right hE)
          have hfew := re_few b
          rw [hE] at HRB
          clear hE
          generalize reL b = r at *
          refine HRB.out.mono ?_
          rintro e w7 ⟨v7, rfl, ho7, hb7⟩
          have HB7 := Lib.hid (hB.out.trans (hb7.mono hB.out.size))
          obtain ⟨A7, n7, c7, rfl, hn7, _, hA7, hM7⟩ := ho7.formN
          have hn7' : n7 ≤ 20000 := by rw [← hn7.out]; exact hfew
          have HM7 := Lib.hid hM7
          have HTW := Lib.hid (twin_n A7 n7 c7 r w7 hn7.out hA7 (by omega) hM7)
          clear ho7 hb7 HRB hM7 hA7
          go_wp2_with fail
          refine HTW.out.mono ?_
          rintro e w8 ⟨v8, rfl, ho8, hb8⟩
          have HB8 := Lib.hid (HB7.out.trans (hb8.mono HB7.out.size))
          have HM8 := Lib.hid (HM7.out.next hb8)
          obtain ⟨A8, n8, c8, rfl, hn8, _, _, hM8⟩ := ho8.formN
          have HW8 := Lib.hid (write_n A8 n8 c8 r w8 hn8.out (by rw [← hn8.out, hn7.out]; omega) hM8)
          unfold WriteR at HW8
          rw [(wr_yes HRT.out).1, (wr_yes HRT.out).2] at HW8
          have hp1' := progB_len HRT.out
          have HPB := Lib.hid (prog_back HRT.out)
          generalize progB r = p2 at *
          clear ho8 hb8 hM8 HM7 HTW
          go_wp2_with fail
          refine HW8.out.mono ?_
          rintro e w9 ⟨v9, rfl, ho9, hb9⟩
          have HB9 := Lib.hid (HB8.out.trans (hb9.mono HB8.out.size))
          have HM9 := Lib.hid (HM8.out.next hb9)
          obtain ⟨A9, n9, c9, rfl, hn9, _, _, hM9⟩ := ho9.formN
          have hn9' : n9 ≤ 9 * n7 + 1 := by rw [← hn9.out, ← hn7.out]; exact hp1'
          have HRD9 := Lib.hid (read_n A9 n9 c9 p2 w9 hn9.out (by omega) hM9)
          unfold ReadR at HRD9
          rw [HPB.out.1, HPB.out.2] at HRD9
          clear ho9 hb9 hM9 HM8 HW8 hp1' HPB
          go_wp2_with fail
          refine HRD9.out.mono ?_
          rintro e w10 ⟨v10, rfl, ho10, hb10⟩
          have HB10 := Lib.hid (HB9.out.trans (hb10.mono HB9.out.size))
          have HM10 := Lib.hid (HM9.out.next hb10)
          obtain ⟨A10, n10, c10, rfl, hn10, _, _, hM10⟩ := ho10.formN
          have HN10 := Lib.hid hM10
          have HR10 := Lib.hid (right_n A7 n7 c7 r w10 hn7.out (by omega) HM10.out)
          unfold RightR at HR10
          rw [HRT.out] at HR10
          have hn9i : (n9 : Int) ≤ 9 * (n7 : Int) + 1 := by omega
          clear ho10 hb10 hM10 HM9 HRD9 hn9'
          go_wp2_with fail
          refine HR10.out.mono ?_
          rintro e w11 ⟨rfl, hb11⟩
          have HB11 := Lib.hid (HB10.out.trans (hb11.mono HB10.out.size))
          have HSM := Lib.hid (same_n A7 A10 n7 n10 c7 c10 r w11 hn7.out hn10.out (by omega) (HM10.out.next hb11) (HN10.out.next hb11))
          clear hb11 HR10
          go_wp2_with fail
          refine HSM.out.mono ?_
          rintro e w12 ⟨rfl, hb12⟩
          have HB12 := Lib.hid (HB11.out.trans (hb12.mono HB11.out.size))
          clear hb12 HSM
          go_wp2_with fail
          refine (works_any _).mono ?_
          rintro e w13 ⟨rfl, hb13⟩
          go_wp2_with fail
          go_ret
          exact ⟨rfl, HB12.out.trans (hb13.mono HB12.out.size)⟩
        · obtain ⟨E1, E2⟩ := re_no hE
          rw [E1, E2] at HRB
          clear hE E1 E2
          refine HRB.out.mono ?_
          rintro e w7 ⟨v7, rfl, ho7, hb7⟩
          have HB7 := Lib.hid (hB.out.trans (hb7.mono hB.out.size))
          obtain ⟨A7, c7, rfl, _, _, hM7⟩ := ho7.form
          simp only [List.length_nil]
          clear ho7 hb7 HRB hM7
          go_wp2_with fail
          refine (works_any _).mono ?_
          rintro e w13 ⟨rfl, hb13⟩
          go_wp2_with fail
          go_ret
          exact ⟨rfl, HB7.out.trans (hb13.mono HB7.out.size)⟩
end Go.Proofs.Ytfpgmaegpiiagaa
