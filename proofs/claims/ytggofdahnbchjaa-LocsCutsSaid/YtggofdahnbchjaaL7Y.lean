/-
  The walk of LocsCuts.
-/
import Derived.Test.YtggofdahnbchjaaL7X
namespace Go.Proofs.Ytggofdahnbchjaa
open Go Go.RowKit

theorem okFrom_rng : ∀ {xs : List Sp} {l : Int}, 0 ≤ l → okFrom l xs → ∀ x ∈ xs, 0 ≤ x.f ∧ x.f < x.t ∧ x.t ≤ 16777216
  | [], _, _, _ => fun x h => absurd h (by simp)
  | y :: ys, l, h0, h => fun x hx => by
    obtain ⟨h1, h2, h3, _, _⟩ := okS_iff.1 h.1
    dsimp only at h1 h2 h3
    rcases List.mem_cons.1 hx with rfl | hx
    · exact ⟨by omega, h2, h3⟩
    · exact okFrom_rng (by omega) h.2 x hx
theorem right_rng {ps : List Ps} (h : rightL (ps.map Ps.sp) = true) : ∀ p ∈ ps, 0 ≤ p.f ∧ p.f < p.t ∧ p.t ≤ 16777216 := fun p hp =>
  okFrom_rng (Int.le_refl 0) (rightL_iff.1 h).2 p.sp (List.mem_map_of_mem hp)
theorem atS_few {ps : List Ps} (h : Few ps) (pc : Int) : (atS (ps.map Ps.sp) pc).length ≤ 1000 := atS_len fun x hx => by
  obtain ⟨p, hp, rfl⟩ := List.mem_map.1 hx
  exact h.2 p hp
theorem four_below {B : Nat} {w w' : World} {g : Nat} {x0 x1 x2 x3 : Int} (h : Four w g x0 x1 x2 x3) (hb : Below B w w') (hg : g < B) : Four w' g x0 x1 x2 x3 := (hb.block g hg).trans h
theorem four_grown {w w' : World} {g : Nat} {v : Value} {x0 x1 x2 x3 : Int} (h : Four w g x0 x1 x2 x3) (hb : w.grownBy w' v.ownBlock) (hg : some g ≠ v.ownBlock) : Four w' g x0 x1 x2 x3 := (hb.block g h.lt hg).trans h

set_option maxRecDepth 100000 in
set_option maxHeartbeats 4000000 in
theorem locsCuts_any (A1 A4 : Option Addr) (c1 c4 : Nat) (ps : List Ps) (fr to : Int) (pcs : List Int) (w : World)
    (hc4 : A4 = none → c4 = 0) (h1 : SLies w w.heap.size A1 ps) (h4 : NLies7 w w.heap.size A4 pcs) :
    Calls Try.prog 7 #[.slice A1 ps.length c1, .int .i64 fr, .int .i64 to, .slice A4 pcs.length c4] w (BoolR true w) := by
  have HVA := Lib.hid (vast7_any A1 c1 ps w h1.1)
  unfold VastR7 at HVA
  have HP := Lib.hid h1
  have HN := Lib.hid h4
  have HC := Lib.hid hc4
  clear h1 h4 hc4
  go_enter Try.func7, Try.ntmps7
  go_wp2_with fail
  refine HVA.out.mono ?_
  rintro e w1 ⟨bv, rfl, hb1, hfew⟩
  have HB1 := Lib.hid hb1
  clear hb1 HVA
  cases bv with
  | true =>
    clear hfew
    go_wp2_with fail
    refine (works7_any _).mono ?_
    rintro e w' ⟨rfl, hbw⟩
    go_wp2_with fail
    go_ret
    exact ⟨rfl, HB1.out.trans (hbw.mono HB1.out.size)⟩
  | false =>
    have HF := Lib.hid (hfew rfl)
    clear hfew
    by_cases hp : 100 < pcs.length
    · have hpi : (100 : Int) < pcs.length := by omega
      go_wp2_with fail
      refine (works7_any _).mono ?_
      rintro e w' ⟨rfl, hbw⟩
      go_wp2_with fail
      go_ret
      exact ⟨rfl, HB1.out.trans (hbw.mono HB1.out.size)⟩
    · have hpi : (pcs.length : Int) ≤ 100 := by omega
      by_cases hl : 500 < ps.length
      · have hli : (500 : Int) < ps.length := by omega
        go_wp2_with fail
        refine (works7_any _).mono ?_
        rintro e w' ⟨rfl, hbw⟩
        go_wp2_with fail
        go_ret
        exact ⟨rfl, HB1.out.trans (hbw.mono HB1.out.size)⟩
      · have hli : (ps.length : Int) ≤ 500 := by omega
        have HRT := Lib.hid (right7_any A1 c1 ps w1 HF.out.sm (HP.out.next HB1.out))
        unfold BoolR at HRT
        cases hrt : rightL (ps.map Ps.sp) with
        | false =>
          rw [hrt] at HRT
          go_wp2_with fail
          refine HRT.out.mono ?_
          rintro e w2 ⟨rfl, hb2⟩
          have HB2 := Lib.hid (HB1.out.trans (hb2.mono HB1.out.size))
          clear hb2
          go_wp2_with fail
          refine (works7_any _).mono ?_
          rintro e w' ⟨rfl, hbw⟩
          go_wp2_with fail
          go_ret
          exact ⟨rfl, HB2.out.trans (hbw.mono HB2.out.size)⟩
        | true =>
          rw [hrt] at HRT
          have HRG := Lib.hid (right_rng hrt)
          have HCR := Lib.hid (cutL_right (fr := fr) (to := to) hrt (by rw [List.length_map]; omega))
          have HJR := Lib.hid (joinL_right hrt)
          rw [List.length_map] at HCR HJR
          clear hrt
          go_wp2_with fail
          refine HRT.out.mono ?_
          rintro e w2 ⟨rfl, hb2⟩
          have HB2 := Lib.hid (HB1.out.trans (hb2.mono HB1.out.size))
          clear hb2 HRT
          go_wp2_with fail
          refine (twin7_any A1 c1 ps w2 HF.out.sm (by omega) (HP.out.next HB2.out)).mono ?_
          rintro e w3 ⟨t3, rfl, ho3, hb3⟩
          obtain ⟨B3, d3, qs, rfl, e3, _, _, hL3⟩ := ho3.form
          have HB3 := Lib.hid (HB2.out.trans (hb3.mono HB2.out.size))
          have hq3 : qs.length = ps.length := by have := congrArg List.length e3; simpa using this
          have HCU := Lib.hid (cut7_any B3 d3 qs fr to w3 (HF.out.of_sp e3).sm (by omega) hL3)
          unfold MadeSpans at HCU
          rw [e3] at HCU
          clear ho3 hb3 hL3 e3 hq3
          go_wp2_with fail
          refine HCU.out.mono ?_
          rintro e w4 ⟨t4, rfl, ho4, hb4⟩
          obtain ⟨B4, d4, cs, rfl, e4, _, _, hL4⟩ := ho4.form
          have HB4 := Lib.hid (HB3.out.trans (hb4.mono HB3.out.size))
          have HE4 := Lib.hid e4
          have HL4 := Lib.hid hL4
          have hcl : cs.length ≤ ps.length + 1 := by
            have := HCR.out.2
            rw [← e4, List.length_map] at this
            exact this
          clear ho4 hb4 hL4 e4 HCU
          go_wp2_with fail
          refine (twin7_any A1 c1 ps w4 HF.out.sm (by omega) (HP.out.next HB4.out)).mono ?_
          rintro e w5 ⟨t5, rfl, ho5, hb5⟩
          obtain ⟨B5, d5, qs5, rfl, e5, hd5, _, hL5⟩ := ho5.form
          have HB5 := Lib.hid (HB4.out.trans (hb5.mono HB4.out.size))
          have HL45 := Lib.hid (HL4.out.next hb5)
          have hq5 : qs5.length = ps.length := by have := congrArg List.length e5; simpa using this
          have HJO := Lib.hid (join7_any B5 d5 qs5 w5 hd5 (HF.out.of_sp e5).sm (by omega) hL5)
          unfold MadeSpans at HJO
          rw [e5] at HJO
          clear ho5 hb5 hL5 e5 hq5 hd5 HL4
          go_wp2_with fail
          refine HJO.out.mono ?_
          rintro e w6 ⟨t6, rfl, ho6, hb6⟩
          obtain ⟨B6, d6, js, rfl, e6, _, _, hL6⟩ := ho6.form
          have HB6 := Lib.hid (HB5.out.trans (hb6.mono HB5.out.size))
          have HL46 := Lib.hid (HL45.out.next hb6)
          have HE6 := Lib.hid e6
          have HL6 := Lib.hid hL6
          have hjl : js.length ≤ ps.length := by
            have := HJR.out.2.1
            rw [← e6, List.length_map] at this
            exact this
          have HSC := Lib.hid (show Sm cs from by
            have hh := rightL_sm (show rightL (cs.map Ps.sp) = true by rw [HE4.out]; exact HCR.out.1)
            exact ⟨by omega, fun p hp => by have := hh.2 p hp; omega⟩)
          have HSJ := Lib.hid (show Sm js from by
            have hh := rightL_sm (show rightL (js.map Ps.sp) = true by rw [e6]; exact HJR.out.1)
            exact ⟨by omega, fun p hp => by have := hh.2 p hp; omega⟩)
          have HR7 := Lib.hid (right7_any B4 d4 cs w6 HSC.out HL46.out)
          unfold BoolR at HR7
          rw [HE4.out, HCR.out.1] at HR7
          clear ho6 hb6 hL6 e6 HJO HL45
          go_wp2_with fail
          refine HR7.out.mono ?_
          rintro e w7 ⟨rfl, hb7⟩
          have HB7 := Lib.hid (HB6.out.trans (hb7.mono HB6.out.size))
          have HL47 := Lib.hid (HL46.out.next hb7)
          have HL67 := Lib.hid (HL6.out.next hb7)
          have HR8 := Lib.hid (right7_any B6 d6 js w7 HSJ.out HL67.out)
          unfold BoolR at HR8
          rw [HE6.out, HJR.out.1] at HR8
          clear hb7 HR7 HL46 HL6
          go_wp2_with fail
          refine HR8.out.mono ?_
          rintro e w8 ⟨rfl, hb8⟩
          have HB8 := Lib.hid (HB7.out.trans (hb8.mono HB7.out.size))
          have HL48 := Lib.hid (HL47.out.next hb8)
          have HL68 := Lib.hid (HL67.out.next hb8)
          have HP8 := Lib.hid (HP.out.next HB8.out)
          have HN8 := Lib.hid ((HN.out.below HB8.out).more HB8.out.size)
          have hcli : (cs.length : Int) ≤ ps.length + 1 := by omega
          have hjli : (js.length : Int) ≤ ps.length := by omega
          clear hb8 HR8 HL47 HL67
          go_wp2_with fail
          have hd1 : decide (ps.length < js.length) = false := decide_eq_false (by omega)
          have hd2 : decide ((ps.length : Int) + 1 < (cs.length : Int)) = false := decide_eq_false (by omega)
          simp only [hd1, hd2, Bool.or_false]
          clear hd1 hd2
          go_loopw [3, 11] (fun v i wr => ∃ (k : Nat) (A : Option Addr) (c : Nat) (l : List Int), k ≤ ps.length ∧ v = .slice A l.length c ∧ i = .int .i64 k ∧ Hid (l.length ≤ 100 + 4 * k) ∧ Hid (A = none → c = 0) ∧ Hid (NLies7 wr wr.heap.size A l) ∧ Hid (Below w8.heap.size w8 wr)) (fun _ i _ => ps.length - (intOf i).toNat)
          case atStart => exact ⟨0, A4, c4, pcs, by omega, rfl, rfl, by show pcs.length ≤ _; omega, HC.out, HN8.out, Below.refl _ _⟩
          case round =>
            obtain ⟨k, A, c, l, hk, rfl, rfl, hl4, hAc, hNl, hBr⟩ := hrel
            by_cases hlt : k < ps.length
            · obtain ⟨g, o, rfl, hg, x0, x1, x2⟩ := (HP8.out.1.below hBr.out).at_ hlt
              obtain ⟨r0, r1, r2⟩ := HRG.out _ (List.getElem_mem hlt)
              have hwr := hBr.out.size
              generalize ps[k] = p at *
              obtain ⟨pf, pt, pa, pA, pc⟩ := p
              dsimp only at x0 x1 x2 r0 r1 r2
              have hgr : g < wr.heap.size := by omega
              have hll : l.length ≤ 2100 := by have := hl4.out; omega
              clear x2
              go_wp2_with fail
              refine wp_region_held_drew (S := fun W9 => (W9.cell? ⟨g, o + k * 3, none⟩ = some (.int .i64 pf) ∧ W9.cell? ⟨g, o + k * 3 + 1, none⟩ = some (.int .i64 pt))) (by kernel_rfl) (⟨x0, x1⟩) (fun hHeld => ?_)
              refine heldTake (i := 1) (d := some 71) (v := ?_) rfl rfl (by kernel_rfl) (by kernel_rfl) (by kernel_rfl) (fun _ _ _ h => h) (by kernel_rfl) ?hyq_1 (by assumption) ?restq_1
              case hyq_1 => (intro W9 hSw; (try dsimp only at hSw); go_simp; try (with_reducible rfl))
              (try simp only [Act.put, List.setIfInBounds_toArray, List.set_cons_zero, List.set_cons_succ])
              refine heldTake (i := 3) (d := some 73) (v := ?_) rfl rfl (by kernel_rfl) (by kernel_rfl) (by kernel_rfl) (fun _ _ _ h => h) (by kernel_rfl) ?hyq_2 (by assumption) ?restq_2
              case hyq_2 => (intro W9 hSw; (try dsimp only at hSw); go_simp; try (with_reducible rfl))
              (try simp only [Act.put, List.setIfInBounds_toArray, List.set_cons_zero, List.set_cons_succ])
              refine heldTake (i := 4) (d := some 74) (v := ?_) rfl rfl (by kernel_rfl) (by kernel_rfl) (by kernel_rfl) (fun _ _ _ h => h) (by kernel_rfl) ?hyq_3 (by assumption) ?restq_3
              case hyq_3 => (intro W9 hSw; (try dsimp only at hSw); go_simp; try (with_reducible rfl))
              (try simp only [Act.put, List.setIfInBounds_toArray, List.set_cons_zero, List.set_cons_succ])
              refine heldTake (i := 5) (d := some 75) (v := ?_) rfl rfl (by kernel_rfl) (by kernel_rfl) (by kernel_rfl) (fun _ _ _ h => h) (by kernel_rfl) ?hyq_4 (by assumption) ?restq_4
              case hyq_4 => (intro W9 hSw; (try dsimp only at hSw); go_simp; try (with_reducible rfl))
              (try simp only [Act.put, List.setIfInBounds_toArray, List.set_cons_zero, List.set_cons_succ])
              refine heldTake (i := 6) (d := some 76) (v := ?_) rfl rfl (by kernel_rfl) (by kernel_rfl) (by kernel_rfl) (fun _ _ _ h => h) (by kernel_rfl) ?hyq_5 (by assumption) ?restq_5
              case hyq_5 => (intro W9 hSw; (try dsimp only at hSw); go_simp; try (with_reducible rfl))
              (try simp only [Act.put, List.setIfInBounds_toArray, List.set_cons_zero, List.set_cons_succ])
              refine heldTake (i := 7) (d := some 77) (v := ?_) rfl rfl (by kernel_rfl) (by kernel_rfl) (by kernel_rfl) (fun _ _ _ h => h) (by kernel_rfl) ?hyq_6 (by assumption) ?restq_6
              case hyq_6 => (intro W9 hSw; (try dsimp only at hSw); go_simp; try (with_reducible rfl))
              (try simp only [Act.put, List.setIfInBounds_toArray, List.set_cons_zero, List.set_cons_succ])
              refine heldTake (i := 8) (d := some 78) (v := ?_) rfl rfl (by kernel_rfl) (by kernel_rfl) (by kernel_rfl) (fun _ _ _ h => h) (by kernel_rfl) ?hyq_7 (by assumption) ?restq_7
              case hyq_7 => (intro W9 hSw; (try dsimp only at hSw); go_simp; try (with_reducible rfl))
              (try simp only [Act.put, List.setIfInBounds_toArray, List.set_cons_zero, List.set_cons_succ])
              refine heldTake (i := 9) (d := some 79) (v := ?_) rfl rfl (by kernel_rfl) (by kernel_rfl) (by kernel_rfl) (fun _ _ _ h => h) (by kernel_rfl) ?hyq_8 (by assumption) ?restq_8
              case hyq_8 => (intro W9 hSw; (try dsimp only at hSw); go_simp; try (with_reducible rfl))
              (try simp only [Act.put, List.setIfInBounds_toArray, List.set_cons_zero, List.set_cons_succ])
              refine heldTake (i := 10) (d := some 80) (v := ?_) rfl rfl (by kernel_rfl) (by kernel_rfl) (by kernel_rfl) (fun _ _ _ h => h) (by kernel_rfl) ?hyq_9 (by assumption) ?restq_9
              case hyq_9 => (intro W9 hSw; (try dsimp only at hSw); go_simp; try (with_reducible rfl))
              (try simp only [Act.put, List.setIfInBounds_toArray, List.set_cons_zero, List.set_cons_succ])
              refine heldTake (i := 11) (d := some 81) (v := ?_) rfl rfl (by kernel_rfl) (by kernel_rfl) (by kernel_rfl) (fun _ _ _ h => h) (by kernel_rfl) ?hyq_10 (by assumption) ?restq_10
              case hyq_10 => (intro W9 hSw; (try dsimp only at hSw); go_simp; try (with_reducible rfl))
              (try simp only [Act.put, List.setIfInBounds_toArray, List.set_cons_zero, List.set_cons_succ])
              refine heldTake (i := 12) (d := some 82) (v := ?_) rfl rfl (by kernel_rfl) (by kernel_rfl) (by kernel_rfl) (fun _ _ _ h => h) (by kernel_rfl) ?hyq_11 (by assumption) ?restq_11
              case hyq_11 => (intro W9 hSw; (try dsimp only at hSw); go_simp; try (with_reducible rfl))
              (try simp only [Act.put, List.setIfInBounds_toArray, List.set_cons_zero, List.set_cons_succ])
              refine heldTake (i := 13) (d := some 83) (v := ?_) rfl rfl (by kernel_rfl) (by kernel_rfl) (by kernel_rfl) (fun _ _ _ h => h) (by kernel_rfl) ?hyq_12 (by assumption) ?restq_12
              case hyq_12 => (intro W9 hSw; (try dsimp only at hSw); go_simp; try (with_reducible rfl))
              (try simp only [Act.put, List.setIfInBounds_toArray, List.set_cons_zero, List.set_cons_succ])
              refine heldTake (i := 14) (d := some 84) (v := ?_) rfl rfl (by kernel_rfl) (by kernel_rfl) (by kernel_rfl) (fun _ _ _ h => h) (by kernel_rfl) ?hyq_13 (by assumption) ?restq_13
              case hyq_13 => (intro W9 hSw; (try dsimp only at hSw); go_simp; try (with_reducible rfl))
              (try simp only [Act.put, List.setIfInBounds_toArray, List.set_cons_zero, List.set_cons_succ])
              refine heldTake (i := 15) (d := some 85) (v := ?_) rfl rfl (by kernel_rfl) (by kernel_rfl) (by kernel_rfl) (fun _ _ _ h => h) (by kernel_rfl) ?hyq_14 (by assumption) ?restq_14
              case hyq_14 => (intro W9 hSw; (try dsimp only at hSw); go_simp; try (with_reducible rfl))
              (try simp only [Act.put, List.setIfInBounds_toArray, List.set_cons_zero, List.set_cons_succ])
              refine heldTake (i := 16) (d := some 86) (v := ?_) rfl rfl (by kernel_rfl) (by kernel_rfl) (by kernel_rfl) (fun _ _ _ h => h) (by kernel_rfl) ?hyq_15 (by assumption) ?restq_15
              case hyq_15 => (intro W9 hSw; (try dsimp only at hSw); go_simp; try (with_reducible rfl))
              (try simp only [Act.put, List.setIfInBounds_toArray, List.set_cons_zero, List.set_cons_succ])
              refine heldTake (i := 17) (d := some 87) (v := ?_) rfl rfl (by kernel_rfl) (by kernel_rfl) (by kernel_rfl) (fun _ _ _ h => h) (by kernel_rfl) ?hyq_16 (by assumption) ?restq_16
              case hyq_16 => (intro W9 hSw; (try dsimp only at hSw); go_simp; try (with_reducible rfl))
              (try simp only [Act.put, List.setIfInBounds_toArray, List.set_cons_zero, List.set_cons_succ])
              refine heldTake (i := 18) (d := some 88) (v := ?_) rfl rfl (by kernel_rfl) (by kernel_rfl) (by kernel_rfl) (fun _ _ _ h => h) (by kernel_rfl) ?hyq_17 (by assumption) ?restq_17
              case hyq_17 => (intro W9 hSw; (try dsimp only at hSw); go_simp; try (with_reducible rfl))
              (try simp only [Act.put, List.setIfInBounds_toArray, List.set_cons_zero, List.set_cons_succ])
              refine heldTake (i := 19) (d := some 89) (v := ?_) rfl rfl (by kernel_rfl) (by kernel_rfl) (by kernel_rfl) (fun _ _ _ h => h) (by kernel_rfl) ?hyq_18 (by assumption) ?restq_18
              case hyq_18 => (intro W9 hSw; (try dsimp only at hSw); go_simp; try (with_reducible rfl))
              (try simp only [Act.put, List.setIfInBounds_toArray, List.set_cons_zero, List.set_cons_succ])
              refine heldTake (i := 20) (d := some 90) (v := ?_) rfl rfl (by kernel_rfl) (by kernel_rfl) (by kernel_rfl) (fun _ _ _ h => h) (by kernel_rfl) ?hyq_19 (by assumption) ?restq_19
              case hyq_19 => (intro W9 hSw; (try dsimp only at hSw); go_simp; try (with_reducible rfl))
              (try simp only [Act.put, List.setIfInBounds_toArray, List.set_cons_zero, List.set_cons_succ])
              refine heldTake (i := 21) (d := some 91) (v := ?_) rfl rfl (by kernel_rfl) (by kernel_rfl) (by kernel_rfl) (fun _ _ _ h => h) (by kernel_rfl) ?hyq_20 (by assumption) ?restq_20
              case hyq_20 => (intro W9 hSw; (try dsimp only at hSw); go_simp; try (with_reducible rfl))
              (try simp only [Act.put, List.setIfInBounds_toArray, List.set_cons_zero, List.set_cons_succ])
              refine heldTake (i := 22) (d := some 92) (v := ?_) rfl rfl (by kernel_rfl) (by kernel_rfl) (by kernel_rfl) (fun _ _ _ h => h) (by kernel_rfl) ?hyq_21 (by assumption) ?restq_21
              case hyq_21 => (intro W9 hSw; (try dsimp only at hSw); go_simp; try (with_reducible rfl))
              (try simp only [Act.put, List.setIfInBounds_toArray, List.set_cons_zero, List.set_cons_succ])
              refine heldTake (i := 23) (d := some 93) (v := ?_) rfl rfl (by kernel_rfl) (by kernel_rfl) (by kernel_rfl) (fun _ _ _ h => h) (by kernel_rfl) ?hyq_22 (by assumption) ?restq_22
              case hyq_22 => (intro W9 hSw; (try dsimp only at hSw); go_simp; try (with_reducible rfl))
              (try simp only [Act.put, List.setIfInBounds_toArray, List.set_cons_zero, List.set_cons_succ])
              refine heldTake (i := 24) (d := some 94) (v := ?_) rfl rfl (by kernel_rfl) (by kernel_rfl) (by kernel_rfl) (fun _ _ _ h => h) (by kernel_rfl) ?hyq_23 (by assumption) ?restq_23
              case hyq_23 => (intro W9 hSw; (try dsimp only at hSw); go_simp; try (with_reducible rfl))
              (try simp only [Act.put, List.setIfInBounds_toArray, List.set_cons_zero, List.set_cons_succ])
              have hb0 := (Below.refl wr.heap.size wr).drew
              obtain ⟨Wd, hWd⟩ : ∃ Y, wr.drew = Y := ⟨_, rfl⟩
              rw [hWd] at hb0 ⊢
              clear hWd hHeld
              refine wpAnyH_ready (rs := [0, 25]) (by kernel_rfl) (by simp) ?_
              refine AllReadyH.cons rfl (fun K hK => ?_) (AllReadyH.cons rfl (fun K hK => ?_) AllReadyH.nil)
              · have hb1 := hb0.trans ((below_lnew Wd (.cells #[] 3)).mono hb0.size)
                have hrow1 := (NRow.empty Wd).base hb0.size
                go_simp
                obtain ⟨Y1, hY1⟩ : ∃ Y, Wd.alloc (.cells #[] 3) = Y := ⟨_, rfl⟩
                rw [hY1] at hb1 hrow1 ⊢
                refine hK.out _ _ (⟨(hb1.cell (p := ⟨g, o + k * 3, none⟩) (by dsimp only; omega)).trans x0, (hb1.cell (p := ⟨g, o + k * 3 + 1, none⟩) (by dsimp only; omega)).trans x1⟩) (fun hHeld => ?_)
                clear hY1 hK K
                (try simp only [Act.put, List.setIfInBounds_toArray, List.set_cons_zero, List.set_cons_succ])
                refine wpAnyH_ready (rs := [2, 25]) (by kernel_rfl) (by simp) ?_
                refine AllReadyH.cons rfl (fun K hK => ?_) (AllReadyH.cons rfl (fun K hK => ?_) AllReadyH.nil)
                · rw [if_pos (by kernel_rfl)]
                  refine op_app_n Y1 (.tmp 70) (.tmp 71) rfl wr.heap.size _ [] rfl hrow1 A c wr.heap.size l rfl hAc.out (hNl.out.below hb1) (by simp only [List.length_nil]; omega) (hb1.size) ?_
                  intro v2 Y2 hrow2 hg2
                  skip
                  rw [List.nil_append] at hrow2
                  have hb2 := hb1.grown hg2 hb1.size (fun k e => (hrow1.lt k e).1)
                  refine hK.out _ _ (⟨(hb2.cell (p := ⟨g, o + k * 3, none⟩) (by dsimp only; omega)).trans x0, (hb2.cell (p := ⟨g, o + k * 3 + 1, none⟩) (by dsimp only; omega)).trans x1⟩) (fun hHeld => ?_)
                  clear hK K hg2
                  (try simp only [Act.put, List.setIfInBounds_toArray])
                  refine wpAnyH_ready (rs := [25]) (by kernel_rfl) (by simp) ?_
                  refine AllReadyH.cons rfl (fun K hK => ?_) AllReadyH.nil
                  have hb3 := hb2.trans ((below_lnew Y2 (.cells #[.int .i64 pf, .int .i64 pt, .int .i64 (IntKind.i64.wrap (pt - 1)), .int .i64 (IntKind.i64.wrap (pf - 1))] 3)).mono hb2.size)
                  have hfo3 := four_new Y2 pf pt (IntKind.i64.wrap (pt - 1)) (IntKind.i64.wrap (pf - 1))
                  have hrow3 := hrow2.below (below_lnew Y2 (.cells #[.int .i64 pf, .int .i64 pt, .int .i64 (IntKind.i64.wrap (pt - 1)), .int .i64 (IntKind.i64.wrap (pf - 1))] 3))
                  go_simp
                  obtain ⟨Y3, hY3⟩ : ∃ Y, Y2.alloc (.cells #[.int .i64 pf, .int .i64 pt, .int .i64 (IntKind.i64.wrap (pt - 1)), .int .i64 (IntKind.i64.wrap (pf - 1))] 3) = Y := ⟨_, rfl⟩
                  rw [hY3] at hb3 hrow3 hfo3 ⊢
                  refine hK.out _ _ (⟨(hb3.cell (p := ⟨g, o + k * 3, none⟩) (by dsimp only; omega)).trans x0, (hb3.cell (p := ⟨g, o + k * 3 + 1, none⟩) (by dsimp only; omega)).trans x1⟩) (fun hHeld => ?_)
                  clear hY3 hK K
                  (try simp only [Act.put, List.setIfInBounds_toArray, List.set_cons_zero, List.set_cons_succ])
                  refine wpAnyH_ready (rs := [26]) (by kernel_rfl) (by simp) ?_
                  refine AllReadyH.cons rfl (fun K hK => ?_) AllReadyH.nil
                  rw [if_pos (by kernel_rfl)]
                  refine op_app_n Y3 (.tmp 72) (.tmp 95) rfl wr.heap.size _ l rfl hrow3 (some ⟨Y2.heap.size, 0, none⟩) 4 Y3.heap.size [pf, pt, IntKind.i64.wrap (pt - 1), IntKind.i64.wrap (pf - 1)] rfl (fun e => by cases e) hfo3.lies (by simp only [List.length_cons, List.length_nil]; omega) (hb3.size) ?_
                  intro v4 Y4 hrow4 hg4
                  skip
                  have hb4 := hb3.grown hg4 hb3.size (fun k e => (hrow3.lt k e).1)
                  refine hK.out _ _ (⟨(hb4.cell (p := ⟨g, o + k * 3, none⟩) (by dsimp only; omega)).trans x0, (hb4.cell (p := ⟨g, o + k * 3 + 1, none⟩) (by dsimp only; omega)).trans x1⟩) (fun hHeld => ?_)
                  clear hK K hg4
                  (try simp only [Act.put, List.setIfInBounds_toArray])
                  refine heldTake (i := 27) (d := some 3) (v := ?_) rfl rfl (by kernel_rfl) (by kernel_rfl) (by kernel_rfl) (fun _ _ _ h => h) (by kernel_rfl) ?hyq_24 (by assumption) ?restq_24
                  case hyq_24 => (intro W9 hSw; (try dsimp only at hSw); go_simp; try (with_reducible rfl))
                  (try simp only [Act.put])
                  refine wpAnyH_done (by kernel_rfl) ?_ _
                  obtain ⟨A9, c9, e9, _, hc9, hn9⟩ := hrow4.form
                  rw [List.length_append] at e9
                  subst e9
                  have HN9 := Lib.hid hn9
                  have HC9 := Lib.hid hc9
                  have HB9 := Lib.hid (hBr.out.trans (hb4.mono hwr))
                  have HLN := Lib.hid (show (l ++ [pf, pt, IntKind.i64.wrap (pt - 1), IntKind.i64.wrap (pf - 1)]).length = l.length + [pf, pt, IntKind.i64.wrap (pt - 1), IntKind.i64.wrap (pf - 1)].length from List.length_append)
                  clear hn9 hc9
                  go_wp2
                  go_roundw
                  case rel => exact ⟨k + 1, A9, c9, l ++ [pf, pt, IntKind.i64.wrap (pt - 1), IntKind.i64.wrap (pf - 1)], by omega, congrArg (fun n => Value.slice A9 n c9) HLN.out.symm, by go_num, by have := hl4.out; have h9 := HLN.out; show (l ++ [pf, pt, IntKind.i64.wrap (pt - 1), IntKind.i64.wrap (pf - 1)]).length ≤ 100 + 4 * (k + 1); rw [h9]; simp only [List.length_cons, List.length_nil]; omega, HC9, HN9, HB9⟩
                  case measure => simp [intOf]; omega
                · have hb2 := hb1.trans ((below_lnew Y1 (.cells #[.int .i64 pf, .int .i64 pt, .int .i64 (IntKind.i64.wrap (pt - 1)), .int .i64 (IntKind.i64.wrap (pf - 1))] 3)).mono hb1.size)
                  have hfo2 := four_new Y1 pf pt (IntKind.i64.wrap (pt - 1)) (IntKind.i64.wrap (pf - 1))
                  have hrow2 := hrow1.below (below_lnew Y1 (.cells #[.int .i64 pf, .int .i64 pt, .int .i64 (IntKind.i64.wrap (pt - 1)), .int .i64 (IntKind.i64.wrap (pf - 1))] 3))
                  have hne2 : Y1.heap.size ≠ Wd.heap.size := by have := (hrow1.lt Wd.heap.size rfl).2; omega
                  go_simp
                  obtain ⟨Y2, hY2⟩ : ∃ Y, Y1.alloc (.cells #[.int .i64 pf, .int .i64 pt, .int .i64 (IntKind.i64.wrap (pt - 1)), .int .i64 (IntKind.i64.wrap (pf - 1))] 3) = Y := ⟨_, rfl⟩
                  rw [hY2] at hb2 hrow2 hfo2 ⊢
                  refine hK.out _ _ (⟨(hb2.cell (p := ⟨g, o + k * 3, none⟩) (by dsimp only; omega)).trans x0, (hb2.cell (p := ⟨g, o + k * 3 + 1, none⟩) (by dsimp only; omega)).trans x1⟩) (fun hHeld => ?_)
                  clear hY2 hK K
                  (try simp only [Act.put, List.setIfInBounds_toArray, List.set_cons_zero, List.set_cons_succ])
                  refine wpAnyH_ready (rs := [2]) (by kernel_rfl) (by simp) ?_
                  refine AllReadyH.cons rfl (fun K hK => ?_) AllReadyH.nil
                  rw [if_pos (by kernel_rfl)]
                  refine op_app_n Y2 (.tmp 70) (.tmp 71) rfl wr.heap.size _ [] rfl hrow2 A c wr.heap.size l rfl hAc.out (hNl.out.below hb2) (by simp only [List.length_nil]; omega) (hb2.size) ?_
                  intro v3 Y3 hrow3 hg3
                  skip
                  rw [List.nil_append] at hrow3
                  have hb3 := hb2.grown hg3 hb2.size (fun k e => (hrow2.lt k e).1)
                  have hfo3 := four_grown hfo2 hg3 (fun e => hne2 (Option.some.inj (show some (Y1.heap.size) = some (Wd.heap.size) from e)))
                  refine hK.out _ _ (⟨(hb3.cell (p := ⟨g, o + k * 3, none⟩) (by dsimp only; omega)).trans x0, (hb3.cell (p := ⟨g, o + k * 3 + 1, none⟩) (by dsimp only; omega)).trans x1⟩) (fun hHeld => ?_)
                  clear hK K hg3
                  (try simp only [Act.put, List.setIfInBounds_toArray])
                  refine wpAnyH_ready (rs := [26]) (by kernel_rfl) (by simp) ?_
                  refine AllReadyH.cons rfl (fun K hK => ?_) AllReadyH.nil
                  rw [if_pos (by kernel_rfl)]
                  refine op_app_n Y3 (.tmp 72) (.tmp 95) rfl wr.heap.size _ l rfl hrow3 (some ⟨Y1.heap.size, 0, none⟩) 4 Y3.heap.size [pf, pt, IntKind.i64.wrap (pt - 1), IntKind.i64.wrap (pf - 1)] rfl (fun e => by cases e) hfo3.lies (by simp only [List.length_cons, List.length_nil]; omega) (hb3.size) ?_
                  intro v4 Y4 hrow4 hg4
                  skip
                  have hb4 := hb3.grown hg4 hb3.size (fun k e => (hrow3.lt k e).1)
                  refine hK.out _ _ (⟨(hb4.cell (p := ⟨g, o + k * 3, none⟩) (by dsimp only; omega)).trans x0, (hb4.cell (p := ⟨g, o + k * 3 + 1, none⟩) (by dsimp only; omega)).trans x1⟩) (fun hHeld => ?_)
                  clear hK K hg4
                  (try simp only [Act.put])
                  refine heldTake (i := 27) (d := some 3) (v := ?_) rfl rfl (by kernel_rfl) (by kernel_rfl) (by kernel_rfl) (fun _ _ _ h => h) (by kernel_rfl) ?hyq_25 (by assumption) ?restq_25
                  case hyq_25 => (intro W9 hSw; (try dsimp only at hSw); go_simp; try (with_reducible rfl))
                  (try simp only [Act.put])
                  refine wpAnyH_done (by kernel_rfl) ?_ _
                  obtain ⟨A9, c9, e9, _, hc9, hn9⟩ := hrow4.form
                  rw [List.length_append] at e9
                  subst e9
                  have HN9 := Lib.hid hn9
                  have HC9 := Lib.hid hc9
                  have HB9 := Lib.hid (hBr.out.trans (hb4.mono hwr))
                  have HLN := Lib.hid (show (l ++ [pf, pt, IntKind.i64.wrap (pt - 1), IntKind.i64.wrap (pf - 1)]).length = l.length + [pf, pt, IntKind.i64.wrap (pt - 1), IntKind.i64.wrap (pf - 1)].length from List.length_append)
                  clear hn9 hc9
                  go_wp2
                  go_roundw
                  case rel => exact ⟨k + 1, A9, c9, l ++ [pf, pt, IntKind.i64.wrap (pt - 1), IntKind.i64.wrap (pf - 1)], by omega, congrArg (fun n => Value.slice A9 n c9) HLN.out.symm, by go_num, by have := hl4.out; have h9 := HLN.out; show (l ++ [pf, pt, IntKind.i64.wrap (pt - 1), IntKind.i64.wrap (pf - 1)]).length ≤ 100 + 4 * (k + 1); rw [h9]; simp only [List.length_cons, List.length_nil]; omega, HC9, HN9, HB9⟩
                  case measure => simp [intOf]; omega
              · have hb1 := hb0.trans ((below_lnew Wd (.cells #[.int .i64 pf, .int .i64 pt, .int .i64 (IntKind.i64.wrap (pt - 1)), .int .i64 (IntKind.i64.wrap (pf - 1))] 3)).mono hb0.size)
                have hfo1 := four_new Wd pf pt (IntKind.i64.wrap (pt - 1)) (IntKind.i64.wrap (pf - 1))
                go_simp
                obtain ⟨Y1, hY1⟩ : ∃ Y, Wd.alloc (.cells #[.int .i64 pf, .int .i64 pt, .int .i64 (IntKind.i64.wrap (pt - 1)), .int .i64 (IntKind.i64.wrap (pf - 1))] 3) = Y := ⟨_, rfl⟩
                rw [hY1] at hb1 hfo1 ⊢
                refine hK.out _ _ (⟨(hb1.cell (p := ⟨g, o + k * 3, none⟩) (by dsimp only; omega)).trans x0, (hb1.cell (p := ⟨g, o + k * 3 + 1, none⟩) (by dsimp only; omega)).trans x1⟩) (fun hHeld => ?_)
                clear hY1 hK K
                (try simp only [Act.put, List.setIfInBounds_toArray, List.set_cons_zero, List.set_cons_succ])
                refine wpAnyH_ready (rs := [0]) (by kernel_rfl) (by simp) ?_
                refine AllReadyH.cons rfl (fun K hK => ?_) AllReadyH.nil
                have hb2 := hb1.trans ((below_lnew Y1 (.cells #[] 3)).mono hb1.size)
                have hrow2 := (NRow.empty Y1).base hb1.size
                have hfo2 := four_below hfo1 (below_lnew Y1 (.cells #[] 3)) (hfo1.lt)
                have hne2 : Wd.heap.size ≠ Y1.heap.size := by have := hfo1.lt; omega
                go_simp
                obtain ⟨Y2, hY2⟩ : ∃ Y, Y1.alloc (.cells #[] 3) = Y := ⟨_, rfl⟩
                rw [hY2] at hb2 hrow2 hfo2 ⊢
                refine hK.out _ _ (⟨(hb2.cell (p := ⟨g, o + k * 3, none⟩) (by dsimp only; omega)).trans x0, (hb2.cell (p := ⟨g, o + k * 3 + 1, none⟩) (by dsimp only; omega)).trans x1⟩) (fun hHeld => ?_)
                clear hY2 hK K
                (try simp only [Act.put, List.setIfInBounds_toArray, List.set_cons_zero, List.set_cons_succ])
                refine wpAnyH_ready (rs := [2]) (by kernel_rfl) (by simp) ?_
                refine AllReadyH.cons rfl (fun K hK => ?_) AllReadyH.nil
                rw [if_pos (by kernel_rfl)]
                refine op_app_n Y2 (.tmp 70) (.tmp 71) rfl wr.heap.size _ [] rfl hrow2 A c wr.heap.size l rfl hAc.out (hNl.out.below hb2) (by simp only [List.length_nil]; omega) (hb2.size) ?_
                intro v3 Y3 hrow3 hg3
                skip
                rw [List.nil_append] at hrow3
                have hb3 := hb2.grown hg3 hb2.size (fun k e => (hrow2.lt k e).1)
                have hfo3 := four_grown hfo2 hg3 (fun e => hne2 (Option.some.inj (show some (Wd.heap.size) = some (Y1.heap.size) from e)))
                refine hK.out _ _ (⟨(hb3.cell (p := ⟨g, o + k * 3, none⟩) (by dsimp only; omega)).trans x0, (hb3.cell (p := ⟨g, o + k * 3 + 1, none⟩) (by dsimp only; omega)).trans x1⟩) (fun hHeld => ?_)
                clear hK K hg3
                (try simp only [Act.put, List.setIfInBounds_toArray])
                refine wpAnyH_ready (rs := [26]) (by kernel_rfl) (by simp) ?_
                refine AllReadyH.cons rfl (fun K hK => ?_) AllReadyH.nil
                rw [if_pos (by kernel_rfl)]
                refine op_app_n Y3 (.tmp 72) (.tmp 95) rfl wr.heap.size _ l rfl hrow3 (some ⟨Wd.heap.size, 0, none⟩) 4 Y3.heap.size [pf, pt, IntKind.i64.wrap (pt - 1), IntKind.i64.wrap (pf - 1)] rfl (fun e => by cases e) hfo3.lies (by simp only [List.length_cons, List.length_nil]; omega) (hb3.size) ?_
                intro v4 Y4 hrow4 hg4
                skip
                have hb4 := hb3.grown hg4 hb3.size (fun k e => (hrow3.lt k e).1)
                refine hK.out _ _ (⟨(hb4.cell (p := ⟨g, o + k * 3, none⟩) (by dsimp only; omega)).trans x0, (hb4.cell (p := ⟨g, o + k * 3 + 1, none⟩) (by dsimp only; omega)).trans x1⟩) (fun hHeld => ?_)
                clear hK K hg4
                (try simp only [Act.put])
                refine heldTake (i := 27) (d := some 3) (v := ?_) rfl rfl (by kernel_rfl) (by kernel_rfl) (by kernel_rfl) (fun _ _ _ h => h) (by kernel_rfl) ?hyq_26 (by assumption) ?restq_26
                case hyq_26 => (intro W9 hSw; (try dsimp only at hSw); go_simp; try (with_reducible rfl))
                (try simp only [Act.put])
                refine wpAnyH_done (by kernel_rfl) ?_ _
                obtain ⟨A9, c9, e9, _, hc9, hn9⟩ := hrow4.form
                rw [List.length_append] at e9
                subst e9
                have HN9 := Lib.hid hn9
                have HC9 := Lib.hid hc9
                have HB9 := Lib.hid (hBr.out.trans (hb4.mono hwr))
                have HLN := Lib.hid (show (l ++ [pf, pt, IntKind.i64.wrap (pt - 1), IntKind.i64.wrap (pf - 1)]).length = l.length + [pf, pt, IntKind.i64.wrap (pt - 1), IntKind.i64.wrap (pf - 1)].length from List.length_append)
                clear hn9 hc9
                go_wp2
                go_roundw
                case rel => exact ⟨k + 1, A9, c9, l ++ [pf, pt, IntKind.i64.wrap (pt - 1), IntKind.i64.wrap (pf - 1)], by omega, congrArg (fun n => Value.slice A9 n c9) HLN.out.symm, by go_num, by have := hl4.out; have h9 := HLN.out; show (l ++ [pf, pt, IntKind.i64.wrap (pt - 1), IntKind.i64.wrap (pf - 1)]).length ≤ 100 + 4 * (k + 1); rw [h9]; simp only [List.length_cons, List.length_nil]; omega, HC9, HN9, HB9⟩
                case measure => simp [intOf]; omega
            · obtain rfl : k = ps.length := by omega
              have hll : l.length ≤ 2100 := by have := hl4.out; omega
              have hwr := hBr.out.size
              have hbE := below_lnew wr (.cells #[] 3)
              have HE := Lib.hid (NRow.empty wr)
              have HNE := Lib.hid (hNl.out.below hbE)
              have HbE := Lib.hid hbE
              clear hbE
              go_wp2_with (at_builtin
                           first
                           | (refine app_n7 _ rfl (.tmp 97) (.tmp 98) rfl wr.heap.size _ [] rfl HE.out A c wr.heap.size l rfl hAc.out HNE.out (by simp only [List.length_nil]; omega) (by simp) ?_
                              intro va wa hra hga
                              rw [List.nil_append] at hra
                              have HBa := Lib.hid (HbE.out.grown hga (by simp) (fun k e => (HE.out.lt k e).1))
                              have HRa := Lib.hid (hra.below (below_lnew wa (.cells #[.int .i64 fr, .int .i64 (wrap64 (fr - 1)), .int .i64 to, .int .i64 (wrap64 (to - 1))] 3)))
                              have HBb := Lib.hid (HBa.out.trans ((below_lnew wa (.cells #[.int .i64 fr, .int .i64 (wrap64 (fr - 1)), .int .i64 to, .int .i64 (wrap64 (to - 1))] 3)).mono HBa.out.size))
                              have HF4 := Lib.hid (four_new wa fr (wrap64 (fr - 1)) to (wrap64 (to - 1)))
                              clear hga hra)
                           | (refine app_n7 _ rfl (.tmp 99) (.tmp 106) rfl wr.heap.size _ l rfl HRa.out (some ⟨wa.heap.size, 0, none⟩) 4 (wa.heap.size + 1) [fr, wrap64 (fr - 1), to, wrap64 (to - 1)] rfl (fun e => by cases e) (HF4.out.lies.more (by simp)) (by simp only [List.length_cons, List.length_nil]; omega) HBb.out.size ?_
                              intro vb wb hrb hgb))
              obtain ⟨A9, c9, e9, _, _, hn9⟩ := hrb.form
              have HN9 := Lib.hid hn9
              have HB9 := Lib.hid (hBr.out.trans ((HBb.out.grown hgb HBb.out.size (fun k e => (HRa.out.lt k e).1)).mono hwr))
              have hL9 : (l ++ [fr, wrap64 (fr - 1), to, wrap64 (to - 1)]).length ≤ 2104 := by rw [List.length_append]; simp only [List.length_cons, List.length_nil]; omega
              clear hrb hgb HE HNE HbE HBa HRa HBb HF4 hn9
              subst e9
              generalize l ++ [fr, wrap64 (fr - 1), to, wrap64 (to - 1)] = L at *
              have HP9 := Lib.hid (HP8.out.next HB9.out)
              have HL49 := Lib.hid (HL48.out.next HB9.out)
              have HL69 := Lib.hid (HL68.out.next HB9.out)
              clear hl4 hAc hNl hll
              go_wp2_with fail
              go_loopw [12, 13, 14] (fun i _ _ wy => ∃ k : Nat, k ≤ L.length ∧ i = .int .i64 k ∧ Hid (Below wb.heap.size wb wy)) (fun i _ _ _ => L.length - (intOf i).toNat)
              case atStart => exact ⟨0, by omega, rfl, Below.refl _ _⟩
              case round =>
                obtain ⟨k, hk, rfl, hBy⟩ := hrel
                by_cases hlt : k < L.length
                · obtain ⟨g, o, rfl, hg, x0⟩ := (HN9.out.below hBy.out).at_ hlt
                  generalize L[k] = pc at *
                  have hgy := hBy.out.size
                  have hgy' : g < wr.heap.size := by omega
                  have hla := atS_few HF.out pc
                  have HAT := Lib.hid (cutL_in (fr := fr) (to := to) (pc := pc))
                  have HAO := Lib.hid (cutL_out (fr := fr) (to := to) (pc := pc))
                  have HJ := Lib.hid (HJR.out.2.2 pc)
                  have HA1 := Lib.hid (at7_any A1 c1 ps pc wr HF.out.sm ((HP9.out.below hBy.out).more hgy))
                  unfold MadeLocs at HA1
                  go_wp2_with fail
                  refine HA1.out.mono ?_
                  rintro e wz ⟨vz, rfl, hoz, hbz⟩
                  obtain ⟨Az, nz, cz, rfl, hnz, _, _, hLz⟩ := hoz.formN
                  have HBz := Lib.hid (hBy.out.trans (hbz.mono hgy))
                  have HLz := Lib.hid hLz
                  have x1 := (hbz.cell (p := ⟨g, o + k, none⟩) hgy').trans x0
                  have hgz := hbz.size
                  clear hoz hLz hbz HA1 x0
                  have HA2 := Lib.hid (at7_any B4 d4 cs pc wz HSC.out ((HL49.out.below HBz.out).more HBz.out.size))
                  unfold MadeLocs at HA2
                  rw [HE4.out] at HA2
                  go_wp2_with fail
                  refine HA2.out.mono ?_
                  rintro e wv ⟨vv, rfl, hov, hbv⟩
                  have HBv := Lib.hid (HBz.out.trans (hbv.mono HBz.out.size))
                  have HLzv := Lib.hid (HLz.out.next hbv)
                  have x2 := (hbv.cell (p := ⟨g, o + k, none⟩) (by dsimp only; omega)).trans x1
                  have hgv := hbv.size
                  clear hbv HA2 x1
                  by_cases hf : fr ≤ pc
                  · by_cases ht : pc < to
                    · rw [HAT.out ⟨hf, ht⟩] at hov
                      obtain ⟨Av, nv, cv, rfl, hnv, _, _, _⟩ := hov.formN
                      obtain rfl : 0 = nv := hnv.out
                      clear hov hnv
                      have HA3 := Lib.hid (at7_any B6 d6 js pc wv HSJ.out ((HL69.out.below HBv.out).more HBv.out.size))
                      unfold MadeLocs at HA3
                      rw [HE6.out, HJ.out] at HA3
                      go_wp2_with fail
                      refine HA3.out.mono ?_
                      rintro e wu ⟨vu, rfl, hou, hbu⟩
                      obtain ⟨Au, nu, cu, rfl, hnu, _, _, hLu⟩ := hou.formN
                      obtain rfl : nz = nu := hnz.out.symm.trans hnu.out
                      have HBu := Lib.hid (HBv.out.trans (hbu.mono HBv.out.size))
                      have HSM := Lib.hid (same6_b Az Au cz cu (atS (ps.map Ps.sp) pc) nz wu hnz.out (by omega) (HLzv.out.next hbu) hLu)
                      unfold TrueR6 at HSM
                      clear hou hLu hbu HA3
                      go_wp2_with fail
                      refine HSM.out.mono ?_
                      rintro e wt ⟨rfl, hbt⟩
                      have HBt := Lib.hid (HBu.out.trans (hbt.mono HBu.out.size))
                      clear hbt HSM
                      go_wp2
                      go_roundw
                      case rel => exact ⟨k + 1, by omega, by go_num, HBt⟩
                      case measure => simp [intOf]; omega
                    · rw [HAO.out (by omega)] at hov
                      obtain ⟨Av, nv, cv, rfl, hnv, _, _, hLv⟩ := hov.formN
                      obtain rfl : nz = nv := hnz.out.symm.trans hnv.out
                      have HSM2 := Lib.hid (same6_b Az Av cz cv (atS (ps.map Ps.sp) pc) nz wv hnz.out (by omega) HLzv.out hLv)
                      unfold TrueR6 at HSM2
                      clear hov hLv
                      go_wp2_with fail
                      refine HSM2.out.mono ?_
                      rintro e ww ⟨rfl, hbw⟩
                      have HBw := Lib.hid (HBv.out.trans (hbw.mono HBv.out.size))
                      have HLzw := Lib.hid (HLzv.out.next hbw)
                      have x3 := (hbw.cell (p := ⟨g, o + k, none⟩) (by dsimp only; omega)).trans x2
                      clear hbw HSM2 x2
                      have HA3 := Lib.hid (at7_any B6 d6 js pc ww HSJ.out ((HL69.out.below HBw.out).more HBw.out.size))
                      unfold MadeLocs at HA3
                      rw [HE6.out, HJ.out] at HA3
                      go_wp2_with fail
                      refine HA3.out.mono ?_
                      rintro e wu ⟨vu, rfl, hou, hbu⟩
                      obtain ⟨Au, nu, cu, rfl, hnu, _, _, hLu⟩ := hou.formN
                      obtain rfl : nz = nu := hnz.out.symm.trans hnu.out
                      have HBu := Lib.hid (HBw.out.trans (hbu.mono HBw.out.size))
                      have HSM := Lib.hid (same6_b Az Au cz cu (atS (ps.map Ps.sp) pc) nz wu hnz.out (by omega) (HLzw.out.next hbu) hLu)
                      unfold TrueR6 at HSM
                      clear hou hLu hbu HA3
                      go_wp2_with fail
                      refine HSM.out.mono ?_
                      rintro e wt ⟨rfl, hbt⟩
                      have HBt := Lib.hid (HBu.out.trans (hbt.mono HBu.out.size))
                      clear hbt HSM
                      go_wp2
                      go_roundw
                      case rel => exact ⟨k + 1, by omega, by go_num, HBt⟩
                      case measure => simp [intOf]; omega
                  · rw [HAO.out (by omega)] at hov
                    obtain ⟨Av, nv, cv, rfl, hnv, _, _, hLv⟩ := hov.formN
                    obtain rfl : nz = nv := hnz.out.symm.trans hnv.out
                    have HSM2 := Lib.hid (same6_b Az Av cz cv (atS (ps.map Ps.sp) pc) nz wv hnz.out (by omega) HLzv.out hLv)
                    unfold TrueR6 at HSM2
                    clear hov hLv
                    go_wp2_with fail
                    refine HSM2.out.mono ?_
                    rintro e ww ⟨rfl, hbw⟩
                    have HBw := Lib.hid (HBv.out.trans (hbw.mono HBv.out.size))
                    have HLzw := Lib.hid (HLzv.out.next hbw)
                    have x3 := (hbw.cell (p := ⟨g, o + k, none⟩) (by dsimp only; omega)).trans x2
                    clear hbw HSM2 x2
                    have HA3 := Lib.hid (at7_any B6 d6 js pc ww HSJ.out ((HL69.out.below HBw.out).more HBw.out.size))
                    unfold MadeLocs at HA3
                    rw [HE6.out, HJ.out] at HA3
                    go_wp2_with fail
                    refine HA3.out.mono ?_
                    rintro e wu ⟨vu, rfl, hou, hbu⟩
                    obtain ⟨Au, nu, cu, rfl, hnu, _, _, hLu⟩ := hou.formN
                    obtain rfl : nz = nu := hnz.out.symm.trans hnu.out
                    have HBu := Lib.hid (HBw.out.trans (hbu.mono HBw.out.size))
                    have HSM := Lib.hid (same6_b Az Au cz cu (atS (ps.map Ps.sp) pc) nz wu hnz.out (by omega) (HLzw.out.next hbu) hLu)
                    unfold TrueR6 at HSM
                    clear hou hLu hbu HA3
                    go_wp2_with fail
                    refine HSM.out.mono ?_
                    rintro e wt ⟨rfl, hbt⟩
                    have HBt := Lib.hid (HBu.out.trans (hbt.mono HBu.out.size))
                    clear hbt HSM
                    go_wp2
                    go_roundw
                    case rel => exact ⟨k + 1, by omega, by go_num, HBt⟩
                    case measure => simp [intOf]; omega
                · obtain rfl : k = L.length := by omega
                  have HBY := Lib.hid (HB8.out.trans ((HB9.out.trans (hBy.out.mono HB9.out.size)).mono HB8.out.size))
                  go_wp2_with fail
                  refine (works7_any _).mono ?_
                  rintro e w' ⟨rfl, hbw⟩
                  go_wp2_with fail
                  go_ret
                  exact ⟨rfl, HBY.out.trans (hbw.mono HBY.out.size)⟩
end Go.Proofs.Ytggofdahnbchjaa
