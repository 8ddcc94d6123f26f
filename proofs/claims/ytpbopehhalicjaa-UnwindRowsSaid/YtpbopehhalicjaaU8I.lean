/-
  Contract of unwind.Get.
-/
import Derived.Test.YtpbopehhalicjaaU8H
namespace Go.Proofs.Ytpbopehhalicjaa
open Go Go.RowKit

set_option maxRecDepth 100000 in
set_option maxHeartbeats 4000000 in
theorem get8_all (A : Option Addr) (c : Nat) (b : List UInt8) (i : Int) (w : World) (hn : b.length ≤ 1099511627776) (h : Lies w w.heap.size A b) :
    Calls Try.prog 8 #[.slice A b.length c, .int .i64 i] w (GetR8 b i w) := by
  have HL := Lib.hid h
  by_cases harg : i < 0 ∨ (b.length : Int) < i
  · have HU := U_any A c b i w w.heap.size hn h
    obtain ⟨q1, q2, q3⟩ := rd_arg (b := false) harg
    rw [q1, q2, q3] at HU
    have HU := Lib.hid HU
    have HG := Lib.hid (gs_arg harg)
    clear harg h q1 q2 q3
    go_enter Try.func8, Try.ntmps8
    go_wp2_with fail
    refine HU.out.mono ?_
    rintro e w1 ⟨rfl, rfl⟩
    go_wp2_with fail
    go_ret3
    exact ⟨_, by rw [HG.out.1, HG.out.2.2]; rfl, by rw [HG.out.2.1]; exact SpOwn.nil _ _, Below.refl _ _⟩
  obtain ⟨k, rfl⟩ : ∃ k : Nat, i = k := ⟨i.toNat, by omega⟩
  have hk : k ≤ b.length := by omega
  rcases u8_cases 4000 A c b k hk hn with ⟨M, k0, hnum, hk1, hk0, hM, hU⟩ | ⟨hnum, hU⟩
  · have HU := Lib.hid hU
    have HOF := Lib.hid (gotS_run (s := true) hnum)
    have hMi : (M : Int) ≤ 4000 := by omega
    have HMN := Lib.hid hM
    clear hU hnum h harg hM
    go_enter Try.func8, Try.ntmps8
    go_wp2_with fail
    refine (HU.out w HL.out).mono ?_
    rintro e w1 ⟨rfl, rfl⟩
    go_wp2_with fail
    go_loopw [4, 5, 8, 25] (fun v nx la i wr => ∃ (j kk : Nat) (last : Int) (ls : List Sp), j ≤ M ∧ i = .int .u64 j ∧ nx = .int .i64 kk ∧ la = .int .i64 last ∧ kk ≤ b.length ∧ 0 ≤ last ∧ last ≤ 33554432 * j ∧ Hid (AtS true b M k0 j kk last ls) ∧ Hid (SpOwn wr w.heap.size v ls) ∧ Hid (ls.length = j) ∧ Hid (Below w.heap.size w wr)) (fun _ _ _ i _ => M - (intOf i).toNat)
    case atStart => exact ⟨0, k0, 0, [], by omega, rfl, rfl, rfl, hk0, by omega, by omega, atS_start _ _ _ _, SpOwn.nil _ _, rfl, Below.refl _ _⟩
    case round =>
      obtain ⟨j, kk, last, ls, hj, rfl, rfl, rfl, hkk, hl0, hl1, hA, hO, hll, hB⟩ := hrel
      have hM4 := HMN.out
      by_cases hlt : j < M
      · have hji : (j : Int) < M := by omega
        have hwr := hB.out.size
        have hln : ls.length ≤ 1000000 := by have := hll.out; omega
        have HEN := Lib.hid (entry8_any A c b kk last wr hkk hn hl0 (by omega) ((HL.out.below hB.out).more hwr))
        have HST := Lib.hid (fun x n => hA.out.step (x := x) (n := n) hlt)
        have HSO := Lib.hid (hA.out.stop hlt)
        have HLT := Lib.hid hlt
        clear hA hlt hM4
        go_wp2_with fail
        refine HEN.out.mono ?_
        rintro e w3 ⟨hb3, ⟨hno, rfl⟩ | ⟨⟨yf, yt, yu, ya⟩, m, yA, yc, hso, rfl, ho3⟩⟩
        · have HN := Lib.hid (HSO.out hno)
          have HG := Lib.hid (gs_none hk (by rw [HOF.out, HN.out]; rfl))
          have HB3 := Lib.hid ((hB.out.trans (hb3.mono hwr)).trans ((below_lnew w3 (.cells #[.int .i64 0, .int .i64 0, .int .i64 0, .slice none 0 0] 29)).mono (by have := hb3.size; omega)))
          clear hno hb3 HEN HST HSO
          go_wp2_with fail
          go_ret3
          exact ⟨_, by rw [HG.out.1, HG.out.2.2]; rfl, by rw [HG.out.2.1]; exact SpOwn.nil _ _, HB3.out⟩
        · have HN := Lib.hid (HST.out _ _ hso)
          obtain ⟨e1, e2, e3, e4, e5, e6, e7, e8, e9, _⟩ := rdU_has hso
          dsimp only at e1 e2 e3 e4 HN ho3
          have hz3 := hb3.size
          have hb4 := below_lnew w3 (.cells (pK ⟨yf, yt, yu, ya, yA, yc⟩) 29)
          have HX4 := Lib.hid (spAt_new w3 ⟨yf, yt, yu, ya, yA, yc⟩)
          have HO4 := Lib.hid ((hO.out.below hb3).below hb4)
          have HL4 := Lib.hid ((ho3.below hb4).base hwr)
          have HB4 := Lib.hid ((hB.out.trans (hb3.mono hwr)).trans (hb4.mono (by omega)))
          have hg4 : w3.heap.size < (w3.alloc (.cells (pK ⟨yf, yt, yu, ya, yA, yc⟩) 29)).heap.size := by simp
          have HNE := Lib.hid ((hO.out.below hb3).no_old (Nat.le_refl _))
          unfold pK at HX4 HO4 HL4 HB4 hg4
          dsimp only at HX4 HO4 HL4 HB4 hg4
          clear hb3 hb4 HEN HST HSO ho3 hso e9
          go_wp2_with fail
          obtain ⟨W4, hW4⟩ : ∃ W4, w3.alloc (.cells #[.int .i64 yf, .int .i64 yt, .int .i64 yu, .slice yA ya.length yc] 29) = W4 := ⟨_, rfl⟩
          rw [hW4] at HX4 HO4 HL4 HB4 hg4 ⊢
          generalize hgu : w3.heap.size = gu at *
          clear hW4
          refine wp_region_held_drew (S := fun W9 => (W9.cell? ⟨gu, 0, none⟩ = some (.int .i64 yf) ∧ W9.cell? ⟨gu, 1, none⟩ = some (.int .i64 yt) ∧ W9.cell? ⟨gu, 2, none⟩ = some (.int .i64 yu) ∧ W9.cell? ⟨gu, 3, none⟩ = some (.slice yA ya.length yc))) (by kernel_rfl) (⟨HX4.out.fr, HX4.out.to, HX4.out.up, HX4.out.at_⟩) (fun hHeld => ?_)
          refine heldTake (i := 0) (d := some 37) (v := ?_) rfl rfl (by kernel_rfl) (by kernel_rfl) (by kernel_rfl) (fun _ _ _ h => h) (by kernel_rfl) ?hyq_1 (by assumption) ?restq_1
          case hyq_1 => (intro W9 hSw; (try dsimp only at hSw); go_simp; try (with_reducible rfl))
          (try simp only [Act.put, List.setIfInBounds_toArray, List.set_cons_zero, List.set_cons_succ])
          refine heldTake (i := 1) (d := some 38) (v := ?_) rfl rfl (by kernel_rfl) (by kernel_rfl) (by kernel_rfl) (fun _ _ _ h => h) (by kernel_rfl) ?hyq_2 (by assumption) ?restq_2
          case hyq_2 => (intro W9 hSw; (try dsimp only at hSw); go_simp; try (with_reducible rfl))
          (try simp only [Act.put, List.setIfInBounds_toArray, List.set_cons_zero, List.set_cons_succ])
          refine heldTake (i := 4) (d := some 41) (v := ?_) rfl rfl (by kernel_rfl) (by kernel_rfl) (by kernel_rfl) (fun _ _ _ h => h) (by kernel_rfl) ?hyq_3 (by assumption) ?restq_3
          case hyq_3 => (intro W9 hSw; (try dsimp only at hSw); go_simp; try (with_reducible rfl))
          (try simp only [Act.put, List.setIfInBounds_toArray, List.set_cons_zero, List.set_cons_succ])
          refine heldTake (i := 5) (d := some 42) (v := ?_) rfl rfl (by kernel_rfl) (by kernel_rfl) (by kernel_rfl) (fun _ _ _ h => h) (by kernel_rfl) ?hyq_4 (by assumption) ?restq_4
          case hyq_4 => (intro W9 hSw; (try dsimp only at hSw); go_simp; try (with_reducible rfl))
          (try simp only [Act.put, List.setIfInBounds_toArray, List.set_cons_zero, List.set_cons_succ])
          refine heldTake (i := 6) (d := some 43) (v := ?_) rfl rfl (by kernel_rfl) (by kernel_rfl) (by kernel_rfl) (fun _ _ _ h => h) (by kernel_rfl) ?hyq_5 (by assumption) ?restq_5
          case hyq_5 => (intro W9 hSw; (try dsimp only at hSw); go_simp; try (with_reducible rfl))
          (try simp only [Act.put, List.setIfInBounds_toArray, List.set_cons_zero, List.set_cons_succ])
          refine wpAnyH_ready (rs := [2]) (by kernel_rfl) (by simp) ?_
          refine AllReadyH.cons rfl (fun K hK => ?_) AllReadyH.nil
          have HY := Lib.hid (spAt_new W4 ⟨yf, yt, yu, ya, yA, yc⟩)
          have hbY := below_lnew W4 (.cells (pK ⟨yf, yt, yu, ya, yA, yc⟩) 29)
          have HOY := Lib.hid (HO4.out.below hbY)
          have HLY := Lib.hid (HL4.out.below hbY)
          have HX5 := Lib.hid (HX4.out.below hbY (by omega))
          have HBY := Lib.hid (HB4.out.trans (hbY.mono HB4.out.size))
          have hzY : W4.heap.size + 1 = (W4.alloc (.cells (pK ⟨yf, yt, yu, ya, yA, yc⟩) 29)).heap.size := by simp
          unfold pK at HY HOY HLY HX5 HBY hzY
          dsimp only at HY HOY HLY HX5 HBY hzY
          clear hbY
          go_simp
          obtain ⟨Y, hY⟩ : ∃ Y, W4.alloc (.cells #[.int .i64 yf, .int .i64 yt, .int .i64 yu, .slice yA ya.length yc] 29) = Y := ⟨_, rfl⟩
          rw [hY] at HY HOY HLY HX5 HBY hzY ⊢
          have hSY : (Y.cell? ⟨gu, 0, none⟩ = some (.int .i64 yf) ∧ Y.cell? ⟨gu, 1, none⟩ = some (.int .i64 yt) ∧ Y.cell? ⟨gu, 2, none⟩ = some (.int .i64 yu) ∧ Y.cell? ⟨gu, 3, none⟩ = some (.slice yA ya.length yc)) := ⟨HX5.out.fr, HX5.out.to, HX5.out.up, HX5.out.at_⟩
          refine hK.out _ _ hSY (fun hHeld => ?_)
          clear hY
          clear hK K
          (try simp only [Act.put, List.setIfInBounds_toArray, List.set_cons_zero, List.set_cons_succ])
          refine wpAnyH_ready (rs := [3]) (by kernel_rfl) (by simp) ?_
          refine AllReadyH.cons rfl (fun K hK => ?_) AllReadyH.nil
          rw [if_pos (by kernel_rfl)]
          refine op_app_sp Y.drew (.tmp 37) (.tmp 39) rfl w.heap.size _ ls rfl HOY.out W4.heap.size 1 ⟨yf, yt, yu, ya, yA, yc⟩ rfl HY.out HLY.out hln (by show w.heap.size ≤ Y.heap.size; omega) ?_
          intro v9 Z hoZ hgZ hkZ
          replace hgZ := grown_of_drew hgZ
          have HBZ := Lib.hid (HBY.out.grown hgZ (by omega) hkZ)
          have HXZ := Lib.hid (HX5.out.kept8 hgZ (fun e => HNE.out e.symm))
          have hSZ : (Z.cell? ⟨gu, 0, none⟩ = some (.int .i64 yf) ∧ Z.cell? ⟨gu, 1, none⟩ = some (.int .i64 yt) ∧ Z.cell? ⟨gu, 2, none⟩ = some (.int .i64 yu) ∧ Z.cell? ⟨gu, 3, none⟩ = some (.slice yA ya.length yc)) := ⟨HXZ.out.fr, HXZ.out.to, HXZ.out.up, HXZ.out.at_⟩
          have HOZ := Lib.hid hoZ
          clear hgZ hkZ hoZ
          refine hK.out _ _ hSZ (fun hHeld => ?_)
          clear hK K
          (try simp only [Act.put, List.setIfInBounds_toArray])
          refine heldTake (i := 7) (d := some 4) (v := ?_) rfl rfl (by kernel_rfl) (by kernel_rfl) (by kernel_rfl) (fun _ _ _ h => h) (by kernel_rfl) ?hyq_6 (by assumption) ?restq_6
          case hyq_6 => (intro W9 hSw; (try dsimp only at hSw); go_simp; try (with_reducible rfl))
          (try simp only [Act.put])
          refine heldTake (i := 8) (d := some 5) (v := ?_) rfl rfl (by kernel_rfl) (by kernel_rfl) (by kernel_rfl) (fun _ _ _ h => h) (by kernel_rfl) ?hyq_7 (by assumption) ?restq_7
          case hyq_7 => (intro W9 hSw; (try dsimp only at hSw); go_simp; try (with_reducible rfl))
          (try simp only [Act.put])
          refine heldTake (i := 9) (d := some 8) (v := ?_) rfl rfl (by kernel_rfl) (by kernel_rfl) (by kernel_rfl) (fun _ _ _ h => h) (by kernel_rfl) ?hyq_8 (by assumption) ?restq_8
          case hyq_8 => (intro W9 hSw; (try dsimp only at hSw); go_simp; try (with_reducible rfl))
          (try simp only [Act.put])
          refine wpAnyH_done (by kernel_rfl) ?_ _
          have HB9 := Lib.hid HBZ.out
          go_wp2
          go_roundw
          case rel => exact ⟨j + 1, m, yt, ls ++ [⟨yf, yt, yu, ya⟩], by have := HLT.out; omega, by go_num, rfl, rfl, e8, by omega, by omega, HN, HOZ, by rw [List.length_append, hll.out]; rfl, HB9⟩
          case measure => simp [intOf]; omega
      · have hjM : j = M := by omega
        have hji : (M : Int) ≤ j := by omega
        have HRUN := Lib.hid (show runS true b M k0 0 = some (ls, kk) from by have := hA.out; rw [hjM] at this; exact this.last)
        obtain ⟨A2, c2, ps, rfl, e2, hc1, hc2, hs2⟩ := hO.out.form
        have HSM := sp_sm (ps := ps) hk0 (by rw [e2]; exact HRUN.out) (by omega)
        have HRT := Lib.hid (right8_any A2 c2 ps wr HSM hs2)
        unfold BoolR at HRT
        rw [e2] at HRT
        have hwr := hB.out.size
        clear hjM hA hs2 HSM e2 hM4
        cases hr : rightL ls with
        | false =>
          rw [hr] at HRT
          have HG := Lib.hid (gs_none hk (by rw [HOF.out, HRUN.out]; simp [gotR, hr]))
          clear hr
          go_wp2_with fail
          refine HRT.out.mono ?_
          rintro e w3 ⟨rfl, hb3⟩
          go_wp2_with fail
          go_ret3
          exact ⟨_, by rw [HG.out.1, HG.out.2.2]; rfl, by rw [HG.out.2.1]; exact SpOwn.nil _ _, hB.out.trans (hb3.mono hwr)⟩
        | true =>
          rw [hr] at HRT
          have HG := Lib.hid (gs_some hk (show gotS true b k = some (ls, kk) by rw [HOF.out, HRUN.out]; simp [gotR, hr]))
          clear hr
          go_wp2_with fail
          refine HRT.out.mono ?_
          rintro e w3 ⟨rfl, hb3⟩
          go_wp2_with fail
          go_ret3
          exact ⟨_, by rw [HG.out.1, HG.out.2.2]; rfl, by rw [HG.out.2.1]; exact hO.out.below hb3, hB.out.trans (hb3.mono hwr)⟩
  · have HG := Lib.hid (gs_none hk (gotS_num hnum))
    clear hnum h harg
    rcases hU with ⟨X, N, hU⟩ | ⟨X, N, hX1, hX2, hU⟩
    · have HU := Lib.hid hU
      clear hU
      go_enter Try.func8, Try.ntmps8
      go_wp2_with fail
      refine (HU.out w HL.out).mono ?_
      rintro e w1 ⟨rfl, rfl⟩
      go_wp2_with fail
      go_ret3
      exact ⟨_, by rw [HG.out.1, HG.out.2.2]; rfl, by rw [HG.out.2.1]; exact SpOwn.nil _ _, Below.refl _ _⟩
    · have HU := Lib.hid hU
      clear hU
      go_enter Try.func8, Try.ntmps8
      go_wp2_with fail
      refine (HU.out w HL.out).mono ?_
      rintro e w1 ⟨rfl, rfl⟩
      go_wp2_with fail
      go_ret3
      exact ⟨_, by rw [HG.out.1, HG.out.2.2]; rfl, by rw [HG.out.2.1]; exact SpOwn.nil _ _, Below.refl _ _⟩
end Go.Proofs.Ytpbopehhalicjaa
