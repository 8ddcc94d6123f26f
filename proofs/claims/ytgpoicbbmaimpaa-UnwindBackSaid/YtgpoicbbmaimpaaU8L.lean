/-
  Contract of the document's Get.
-/
import Derived.Test.YtgpoicbbmaimpaaU8J
import Derived.Test.YtgpoicbbmaimpaaU8K
namespace Go.Proofs.Ytgpoicbbmaimpaa
open Go Go.RowKit

theorem num8_more {M M2 : Nat} {b : List UInt8} {k x n : Nat} (h : num8 M2 b k = some (x, n)) (_hM : M ≤ M2) : (x ≤ M ∧ num8 M b k = some (x, n)) ∨ (M < x ∧ num8 M b k = none) := by
  obtain ⟨h1, h2, h3, _⟩ := num8_has h
  by_cases hx : x ≤ M
  · refine .inl ⟨hx, ?_⟩
    unfold num8
    rw [if_pos ⟨h1, by omega⟩, h2, h3, Int.toNat_natCast]
  · exact .inr ⟨by omega, if_neg (fun q => by omega)⟩
theorem num8_less {M M2 : Nat} {b : List UInt8} {k : Nat} (h : num8 M2 b k = none) (hM : M ≤ M2) : num8 M b k = none := by
  unfold num8 at h ⊢
  split at h
  · cases h
  · rename_i hno
    exact if_neg (fun q => hno ⟨q.1, by omega⟩)
theorem farE_no {a : Int} {f t m : Nat} (h1 : m ≤ 16) (h2 : a + f + t ≤ 16777216) : farE false a f t m = false := by
  unfold farE; rw [decide_eq_false (by omega), decide_eq_false (by omega)]; rfl
theorem farE_many {a : Int} {f t m : Nat} (h1 : 16 < m) : farE false a f t m = true := by
  unfold farE; rw [decide_eq_true h1]; rfl
theorem farE_far {a : Int} {f t m : Nat} (h2 : 16777216 < a + f + t) : farE false a f t m = true := by
  unfold farE; rw [decide_eq_true h2]; simp
theorem rdW_at (s : Bool) {b : List UInt8} {k x n : Nat} (h : k < b.length) (hr : num8 (bU s) b (k + 1) = some (x, n)) : rdW s b k = some (⟨b[k].toNat, -(x : Int)⟩, n) := by rw [rdW_some s h, hr]; rfl
theorem rdW_not (s : Bool) {b : List UInt8} {k : Nat} (h : k < b.length) (hr : num8 (bU s) b (k + 1) = none) : rdW s b k = none := by rw [rdW_some s h, hr]; rfl

set_option maxRecDepth 100000 in
set_option maxHeartbeats 8000000 in
theorem refGet8_any (A : Option Addr) (c : Nat) (b : List UInt8) (i : Int) (w : World) (hn : b.length ≤ 1099511627776) (h : Lies w w.heap.size A b) :
    Calls Try.prog 20 #[.slice A b.length c, .int .i64 i] w (GetR8 b i w) := by
  by_cases h0 : i < 0
  · have HG := Lib.hid (gs_arg (b := b) (.inl h0))
    clear h
    go_enter Try.func20, Try.ntmps20
    go_wp2_with fail
    go_ret3
    exact ⟨_, by rw [HG.out.1, HG.out.2.2]; rfl, by rw [HG.out.2.1]; exact SpOwn.nil _ _, Below.refl _ _⟩
  by_cases h1 : (b.length : Int) < i
  · have HG := Lib.hid (gs_arg (b := b) (.inr h1))
    clear h
    go_enter Try.func20, Try.ntmps20
    go_wp2_with fail
    go_ret3
    exact ⟨_, by rw [HG.out.1, HG.out.2.2]; rfl, by rw [HG.out.2.1]; exact SpOwn.nil _ _, Below.refl _ _⟩
  obtain ⟨k, rfl⟩ : ∃ k : Nat, i = k := ⟨i.toNat, by omega⟩
  have hk : k ≤ b.length := by omega
  have HN1 := Lib.hid (numbers8_one A c b k k w rfl hk hn h)
  have HL := Lib.hid h
  clear h
  cases hnum : num8 16777216 b k with
  | none =>
    have HG := Lib.hid (gs_none hk (gotS_num (num8_less hnum (by omega))))
    rw [hnum] at HN1
    clear hnum
    go_enter Try.func20, Try.ntmps20
    go_wp2_with fail
    refine HN1.out.mono ?_
    rintro e w1 ⟨hb1, ⟨_, rfl⟩ | ⟨_, _, _, _, _, hno, _⟩⟩
    rotate_left
    · cases hno
    go_wp2_with fail
    go_ret3
    exact ⟨_, by rw [HG.out.1, HG.out.2.2]; rfl, by rw [HG.out.2.1]; exact SpOwn.nil _ _, hb1⟩
  | some xn =>
    obtain ⟨M, k0⟩ := xn
    have HMO := num8_more (M := 4000) hnum (by omega)
    have hk0 := (num8_has hnum).2.2.2.2.1
    have hM2 := (num8_has hnum).2.2.2.2.2.1
    rw [hnum] at HN1
    clear hnum
    rcases HMO with ⟨hM, hnum⟩ | ⟨hM, hnum⟩
    rotate_left
    · have HG := Lib.hid (gs_none hk (gotS_num hnum))
      have hMi : (4000 : Int) < M := by omega
      clear hnum
      go_enter Try.func20, Try.ntmps20
      go_wp2_with fail
      refine HN1.out.mono ?_
      rintro e w1 ⟨hb1, ⟨hno, _⟩ | ⟨x', n', g1, p1, c1, hxn, rfl, hc1, hg1, cn1, _⟩⟩
      · cases hno
      simp only [Option.some.injEq, Prod.mk.injEq] at hxn
      obtain ⟨rfl, rfl⟩ := hxn
      go_wp2_with fail
      go_ret3
      exact ⟨_, by rw [HG.out.1, HG.out.2.2]; rfl, by rw [HG.out.2.1]; exact SpOwn.nil _ _, hb1⟩
    have HOF := Lib.hid ((gotS_same b k).symm.trans (gotS_run (s := false) hnum))
    have hMi : (M : Int) ≤ 4000 := by omega
    have HMN := Lib.hid hM
    clear hnum hM hM2
    go_enter Try.func20, Try.ntmps20
    go_wp2_with fail
    refine HN1.out.mono ?_
    rintro e w1 ⟨hb1, ⟨hno, _⟩ | ⟨x', n', g1, p1, c1, hxn, rfl, hc1, hg1, cn1, _⟩⟩
    · cases hno
    simp only [Option.some.injEq, Prod.mk.injEq] at hxn
    obtain ⟨rfl, rfl⟩ := hxn
    have HB1 := Lib.hid hb1
    have hz1 := hb1.size
    have HC1 := Lib.hid cn1
    clear hb1 HN1
    go_wp2_with fail
    clear cn1
    go_loopw [8, 10, 11, 12] (fun nx v la i wr => ∃ (j kk : Nat) (last : Int) (ls : List Sp), j ≤ M ∧ i = .int .i64 j ∧ nx = .int .i64 kk ∧ la = .int .i64 last ∧ kk ≤ b.length ∧ 0 ≤ last ∧ last ≤ 16777216 ∧ Hid (AtS false b M k0 j kk last ls) ∧ Hid (SpOwn wr w1.heap.size v ls) ∧ Hid (ls.length = j) ∧ Hid (Below w1.heap.size w1 wr)) (fun _ _ _ i _ => M - (intOf i).toNat)
    case atStart => exact ⟨0, k0, 0, [], by omega, rfl, rfl, rfl, hk0, by omega, by omega, atS_start _ _ _ _, SpOwn.nil _ _, rfl, Below.refl _ _⟩
    case round =>
      obtain ⟨j, kk, last, ls, hj, rfl, rfl, rfl, hkk, hl0, hl1, hA, hO, hll, hB⟩ := hrel
      have cn1 := (hB.out.cell (p := ⟨g1, p1, none⟩) hg1).trans HC1.out
      have hwr := hB.out.size
      by_cases hlt : j < M
      · have hji : (j : Int) < M := by omega
        have hln : ls.length ≤ 1000000 := by have := hll.out; have := HMN.out; omega
        have HBW := Lib.hid (HB1.out.trans (hB.out.mono hz1))
        have HEN := Lib.hid (numbers8_four A c b kk wr hkk hn ((HL.out.below HBW.out).more HBW.out.size))
        have HST := Lib.hid (fun x n => hA.out.step (x := x) (n := n) hlt)
        have HSO := Lib.hid (hA.out.stop hlt)
        have HLT := Lib.hid hlt
        clear hA hlt
        go_wp2_with fail
        refine HEN.out.mono ?_
        rintro e w3 ⟨hb3, ⟨hno, rfl⟩ | ⟨x0, x1, x2, x3, n, g4, p4, c4, hso, rfl, hc4, hg4, d0, d1, d2, d3, hg4'⟩⟩
        · have HN := Lib.hid (HSO.out (rdU_none (s := false) hno))
          have HG := Lib.hid (gs_none hk (by rw [HOF.out, HN.out]; rfl))
          have HB3 := Lib.hid (HBW.out.trans (hb3.mono HBW.out.size))
          clear hno hb3 HEN HST HSO
          go_wp2_with fail
          go_ret3
          exact ⟨_, by rw [HG.out.1, HG.out.2.2]; rfl, by rw [HG.out.2.1]; exact SpOwn.nil _ _, HB3.out⟩
        obtain ⟨hR0, hx0, hx1, hx2, hx3, hn4, hnb⟩ := rdU_four (s := false) (a := last) hso
        have hx2' : x2 ≤ 16777216 := hx2
        have hx3' : x3 ≤ 16777216 := hx3
        have hz3 := hb3.size
        have HO3 := Lib.hid (hO.out.below hb3)
        have HB3 := Lib.hid (hB.out.trans (hb3.mono hwr))
        have HBW3 := Lib.hid (HBW.out.trans (hb3.mono HBW.out.size))
        have cn3 := (hb3.cell (p := ⟨g1, p1, none⟩) (by dsimp only; omega)).trans cn1
        clear hso hx2 hx3 HEN hb3 cn1
        by_cases hm : 16 < x3
        · have hmi : (16 : Int) < x3 := by omega
          have HN := Lib.hid (HSO.out (by rw [hR0, if_pos (farE_many hm)]))
          have HG := Lib.hid (gs_none hk (by rw [HOF.out, HN.out]; rfl))
          clear hR0 HST HSO
          go_wp2_with fail
          go_ret3
          exact ⟨_, by rw [HG.out.1, HG.out.2.2]; rfl, by rw [HG.out.2.1]; exact SpOwn.nil _ _, HBW3.out⟩
        have hmi : (x3 : Int) ≤ 16 := by omega
        have HR := Lib.hid hR0
        have HD3 := Lib.hid d3
        clear hR0
        go_wp2_with fail
        clear d3
        · skip
          refine wp_region_held_drew (S := fun W9 => (W9.cell? ⟨g4, p4, none⟩ = some (.int .i64 (x0 : Nat)) ∧ W9.cell? ⟨g4, p4 + 1, none⟩ = some (.int .i64 (x1 : Nat)) ∧ W9.cell? ⟨g4, p4 + 2, none⟩ = some (.int .i64 (x2 : Nat)))) (by kernel_rfl) (⟨d0, d1, d2⟩) (fun hHeld => ?_)
          refine heldTake (i := 0) (d := some 67) (v := ?_) rfl rfl (by kernel_rfl) (by kernel_rfl) (by kernel_rfl) (fun _ _ _ h => h) (by kernel_rfl) ?hyq_1 (by assumption) ?restq_1
          case hyq_1 => (intro W9 hSw; (try dsimp only at hSw); go_simp; try (with_reducible rfl))
          (try simp only [Act.put, List.setIfInBounds_toArray, List.set_cons_zero, List.set_cons_succ])
          refine heldTake (i := 1) (d := some 68) (v := ?_) rfl rfl (by kernel_rfl) (by kernel_rfl) (by kernel_rfl) (fun _ _ _ h => h) (by kernel_rfl) ?hyq_2 (by assumption) ?restq_2
          case hyq_2 => (intro W9 hSw; (try dsimp only at hSw); go_simp; try (with_reducible rfl))
          (try simp only [Act.put, List.setIfInBounds_toArray, List.set_cons_zero, List.set_cons_succ])
          refine heldTake (i := 2) (d := some 69) (v := ?_) rfl rfl (by kernel_rfl) (by kernel_rfl) (by kernel_rfl) (fun _ _ _ h => h) (by kernel_rfl) ?hyq_3 (by assumption) ?restq_3
          case hyq_3 => (intro W9 hSw; (try dsimp only at hSw); go_simp; try (with_reducible rfl))
          (try simp only [Act.put, List.setIfInBounds_toArray, List.set_cons_zero, List.set_cons_succ])
          refine heldTake (i := 3) (d := some 70) (v := ?_) rfl rfl (by kernel_rfl) (by kernel_rfl) (by kernel_rfl) (fun _ _ _ h => h) (by kernel_rfl) ?hyq_4 (by assumption) ?restq_4
          case hyq_4 => (intro W9 hSw; (try dsimp only at hSw); go_simp; try (with_reducible rfl))
          (try simp only [Act.put, List.setIfInBounds_toArray, List.set_cons_zero, List.set_cons_succ])
          refine heldTake (i := 4) (d := some 71) (v := ?_) rfl rfl (by kernel_rfl) (by kernel_rfl) (by kernel_rfl) (fun _ _ _ h => h) (by kernel_rfl) ?hyq_5 (by assumption) ?restq_5
          case hyq_5 => (intro W9 hSw; (try dsimp only at hSw); go_simp; try (with_reducible rfl))
          (try simp only [Act.put, List.setIfInBounds_toArray, List.set_cons_zero, List.set_cons_succ])
          refine heldTake (i := 5) (d := some 72) (v := ?_) rfl rfl (by kernel_rfl) (by kernel_rfl) (by kernel_rfl) (fun _ _ _ h => h) (by kernel_rfl) ?hyq_6 (by assumption) ?restq_6
          case hyq_6 => (intro W9 hSw; (try dsimp only at hSw); go_simp; try (with_reducible rfl))
          (try simp only [Act.put, List.setIfInBounds_toArray, List.set_cons_zero, List.set_cons_succ])
          refine heldTake (i := 6) (d := some 73) (v := ?_) rfl rfl (by kernel_rfl) (by kernel_rfl) (by kernel_rfl) (fun _ _ _ h => h) (by kernel_rfl) ?hyq_7 (by assumption) ?restq_7
          case hyq_7 => (intro W9 hSw; (try dsimp only at hSw); go_simp; try (with_reducible rfl))
          (try simp only [Act.put, List.setIfInBounds_toArray, List.set_cons_zero, List.set_cons_succ])
          refine heldTake (i := 7) (d := some 74) (v := ?_) rfl rfl (by kernel_rfl) (by kernel_rfl) (by kernel_rfl) (fun _ _ _ h => h) (by kernel_rfl) ?hyq_8 (by assumption) ?restq_8
          case hyq_8 => (intro W9 hSw; (try dsimp only at hSw); go_simp; try (with_reducible rfl))
          (try simp only [Act.put, List.setIfInBounds_toArray, List.set_cons_zero, List.set_cons_succ])
          refine heldTake (i := 8) (d := some 75) (v := ?_) rfl rfl (by kernel_rfl) (by kernel_rfl) (by kernel_rfl) (fun _ _ _ h => h) (by kernel_rfl) ?hyq_9 (by assumption) ?restq_9
          case hyq_9 => (intro W9 hSw; (try dsimp only at hSw); go_simp; try (with_reducible rfl))
          (try simp only [Act.put, List.setIfInBounds_toArray, List.set_cons_zero, List.set_cons_succ])
          refine heldTake (i := 9) (d := some 76) (v := ?_) rfl rfl (by kernel_rfl) (by kernel_rfl) (by kernel_rfl) (fun _ _ _ h => h) (by kernel_rfl) ?hyq_10 (by assumption) ?restq_10
          case hyq_10 => (intro W9 hSw; (try dsimp only at hSw); go_simp; try (with_reducible rfl))
          (try simp only [Act.put, List.setIfInBounds_toArray, List.set_cons_zero, List.set_cons_succ])
          refine heldTake (i := 10) (d := some 77) (v := ?_) rfl rfl (by kernel_rfl) (by kernel_rfl) (by kernel_rfl) (fun _ _ _ h => h) (by kernel_rfl) ?hyq_11 (by assumption) ?restq_11
          case hyq_11 => (intro W9 hSw; (try dsimp only at hSw); go_simp; try (with_reducible rfl))
          (try simp only [Act.put, List.setIfInBounds_toArray, List.set_cons_zero, List.set_cons_succ])
          refine heldTake (i := 11) (d := some 78) (v := ?_) rfl rfl (by kernel_rfl) (by kernel_rfl) (by kernel_rfl) (fun _ _ _ h => h) (by kernel_rfl) ?hyq_12 (by assumption) ?restq_12
          case hyq_12 => (intro W9 hSw; (try dsimp only at hSw); go_simp; try (with_reducible rfl))
          (try simp only [Act.put, List.setIfInBounds_toArray, List.set_cons_zero, List.set_cons_succ])
          refine heldTake (i := 12) (d := some 79) (v := ?_) rfl rfl (by kernel_rfl) (by kernel_rfl) (by kernel_rfl) (fun _ _ _ h => h) (by kernel_rfl) ?hyq_13 (by assumption) ?restq_13
          case hyq_13 => (intro W9 hSw; (try dsimp only at hSw); go_simp; try (with_reducible rfl))
          (try simp only [Act.put, List.setIfInBounds_toArray, List.set_cons_zero, List.set_cons_succ])
          refine heldTake (i := 13) (d := some 80) (v := ?_) rfl rfl (by kernel_rfl) (by kernel_rfl) (by kernel_rfl) (fun _ _ _ h => h) (by kernel_rfl) ?hyq_14 (by assumption) ?restq_14
          case hyq_14 => (intro W9 hSw; (try dsimp only at hSw); go_simp; try (with_reducible rfl))
          (try simp only [Act.put, List.setIfInBounds_toArray, List.set_cons_zero, List.set_cons_succ])
          refine heldTake (i := 14) (d := some 81) (v := ?_) rfl rfl (by kernel_rfl) (by kernel_rfl) (by kernel_rfl) (fun _ _ _ h => h) (by kernel_rfl) ?hyq_15 (by assumption) ?restq_15
          case hyq_15 => (intro W9 hSw; (try dsimp only at hSw); go_simp; try (with_reducible rfl))
          (try simp only [Act.put, List.setIfInBounds_toArray, List.set_cons_zero, List.set_cons_succ])
          refine heldTake (i := 15) (d := some 82) (v := ?_) rfl rfl (by kernel_rfl) (by kernel_rfl) (by kernel_rfl) (fun _ _ _ h => h) (by kernel_rfl) ?hyq_16 (by assumption) ?restq_16
          case hyq_16 => (intro W9 hSw; (try dsimp only at hSw); go_simp; try (with_reducible rfl))
          (try simp only [Act.put, List.setIfInBounds_toArray, List.set_cons_zero, List.set_cons_succ])
          refine heldTake (i := 16) (d := some 83) (v := ?_) rfl rfl (by kernel_rfl) (by kernel_rfl) (by kernel_rfl) (fun _ _ _ h => h) (by kernel_rfl) ?hyq_17 (by assumption) ?restq_17
          case hyq_17 => (intro W9 hSw; (try dsimp only at hSw); go_simp; try (with_reducible rfl))
          (try simp only [Act.put, List.setIfInBounds_toArray, List.set_cons_zero, List.set_cons_succ])
          refine heldTake (i := 17) (d := some 84) (v := ?_) rfl rfl (by kernel_rfl) (by kernel_rfl) (by kernel_rfl) (fun _ _ _ h => h) (by kernel_rfl) ?hyq_18 (by assumption) ?restq_18
          case hyq_18 => (intro W9 hSw; (try dsimp only at hSw); go_simp; try (with_reducible rfl))
          (try simp only [Act.put, List.setIfInBounds_toArray, List.set_cons_zero, List.set_cons_succ])
          refine wpAnyH_ready (rs := [18]) (by kernel_rfl) (by simp) ?_
          refine AllReadyH.cons rfl (fun K hK => ?_) AllReadyH.nil
          go_simp
          have HY := Lib.hid (spAt_new w3 ⟨0, 0, 0, [], none, 0⟩)
          have hbY := below_lnew w3 (.cells #[.int .i64 0, .int .i64 0, .int .i64 0, .slice none 0 0] 48)
          have HB3Y := Lib.hid hbY
          have hzY : w3.heap.size + 1 = (w3.alloc (.cells #[.int .i64 0, .int .i64 0, .int .i64 0, .slice none 0 0] 48)).heap.size := by simp
          unfold pK at HY
          simp only [List.length_nil] at HY
          clear hbY
          obtain ⟨Y, hY⟩ : ∃ Y, w3.alloc (.cells #[.int .i64 0, .int .i64 0, .int .i64 0, .slice none 0 0] 48) = Y := ⟨_, rfl⟩
          rw [hY] at HY HB3Y hzY ⊢
          have hSY : (Y.cell? ⟨g4, p4, none⟩ = some (.int .i64 (x0 : Nat)) ∧ Y.cell? ⟨g4, p4 + 1, none⟩ = some (.int .i64 (x1 : Nat)) ∧ Y.cell? ⟨g4, p4 + 2, none⟩ = some (.int .i64 (x2 : Nat))) := ⟨(HB3Y.out.cell (p := ⟨g4, p4, none⟩) hg4).trans d0, (HB3Y.out.cell (p := ⟨g4, p4 + 1, none⟩) hg4).trans d1, (HB3Y.out.cell (p := ⟨g4, p4 + 2, none⟩) hg4).trans d2⟩
          have y0 := HY.out.fr
          have y1 := HY.out.to
          have y2 := HY.out.up
          have y3 := HY.out.at_
          have yf := HY.out.frozen
          dsimp only [List.length_nil] at y0 y1 y2 y3
          refine hK.out _ _ hSY (fun hHeld => ?_)
          clear hY
          clear hK K
          (try simp only [Act.put, List.setIfInBounds_toArray, List.set_cons_zero, List.set_cons_succ])
          refine wpAnyH_ready (rs := [19]) (by kernel_rfl) (by simp) ?_
          refine AllReadyH.cons rfl (fun K hK => ?_) AllReadyH.nil
          go_simp
          simp only [wrap8 (show (-9223372036854775808 : Int) ≤ last + x0 by omega) (show last + (x0 : Int) < 9223372036854775808 by omega), wrap8 (show (-9223372036854775808 : Int) ≤ last + x0 + x1 by omega) (show last + (x0 : Int) + x1 < 9223372036854775808 by omega)]
          have HXZ := Lib.hid (show SpAt ((((Y.setCell ⟨w3.heap.size, 0, none⟩ (.int .i64 (last + x0))).setCell ⟨w3.heap.size, 1, none⟩ (.int .i64 (last + x0 + x1))).setCell ⟨w3.heap.size, 2, none⟩ (.int .i64 x2)).setCell ⟨w3.heap.size, 3, none⟩ (.slice none 0 0)) w3.heap.size ⟨last + x0, last + x0 + x1, x2, [], none, 0⟩ from HY.out.setAll ⟨last + x0, last + x0 + x1, x2, [], none, 0⟩)
          have HBZ := Lib.hid (below_all HB3Y.out (Nat.le_refl _) (.int .i64 (last + x0)) (.int .i64 (last + x0 + x1)) (.int .i64 x2) (.slice none 0 0))
          have hzZ : w3.heap.size + 1 ≤ ((((Y.setCell ⟨w3.heap.size, 0, none⟩ (.int .i64 (last + x0))).setCell ⟨w3.heap.size, 1, none⟩ (.int .i64 (last + x0 + x1))).setCell ⟨w3.heap.size, 2, none⟩ (.int .i64 x2)).setCell ⟨w3.heap.size, 3, none⟩ (.slice none 0 0)).heap.size := by simp [World.setCell]; omega
          obtain ⟨Z, hZ⟩ : ∃ Z, ((((Y.setCell ⟨w3.heap.size, 0, none⟩ (.int .i64 (last + x0))).setCell ⟨w3.heap.size, 1, none⟩ (.int .i64 (last + x0 + x1))).setCell ⟨w3.heap.size, 2, none⟩ (.int .i64 x2)).setCell ⟨w3.heap.size, 3, none⟩ (.slice none 0 0)) = Z := ⟨_, rfl⟩
          rw [hZ] at HXZ HBZ hzZ ⊢
          have hSZ : (Z.cell? ⟨g4, p4, none⟩ = some (.int .i64 (x0 : Nat)) ∧ Z.cell? ⟨g4, p4 + 1, none⟩ = some (.int .i64 (x1 : Nat)) ∧ Z.cell? ⟨g4, p4 + 2, none⟩ = some (.int .i64 (x2 : Nat))) := ⟨(HBZ.out.cell (p := ⟨g4, p4, none⟩) hg4).trans d0, (HBZ.out.cell (p := ⟨g4, p4 + 1, none⟩) hg4).trans d1, (HBZ.out.cell (p := ⟨g4, p4 + 2, none⟩) hg4).trans d2⟩
          refine hK.out _ _ hSZ (fun hHeld => ?_)
          clear hZ y0 y1 y2 y3 yf
          clear hK K
          (try simp only [Act.put, List.setIfInBounds_toArray, List.set_cons_zero, List.set_cons_succ])
          refine wpAnyH_done (by kernel_rfl) ?_ _
          have HX2 := Lib.hid (show SpAt Z.drew w3.heap.size ⟨last + x0, last + x0 + x1, x2, [], none, 0⟩ from HXZ.out)
          replace HBZ := Lib.hid HBZ.out.drew
          replace hzZ : w3.heap.size + 1 ≤ Z.drew.heap.size := hzZ
          clear HXZ HY HB3Y hzY hSZ hSY d0 d1 d2
          generalize Z.drew = Z2 at *
          have f1 := HX2.out.to
          have HBWZ := Lib.hid (HBW3.out.trans (HBZ.out.mono (by have := HBW3.out.size; omega)))
          have HBZ1 := Lib.hid (HB3.out.trans (HBZ.out.mono (by omega)))
          have HOZ := Lib.hid (HO3.out.below HBZ.out)
          have d3 := (HBZ.out.cell (p := ⟨g4, p4 + 3, none⟩) hg4).trans HD3.out
          dsimp only at f1
          by_cases hfar : 16777216 < last + x0 + x1
          · have HN := Lib.hid (HSO.out (by rw [HR.out, if_pos (farE_far hfar)]))
            have HG := Lib.hid (gs_none hk (by rw [HOF.out, HN.out]; rfl))
            clear HST HSO
            go_wp2_with fail
            go_ret3
            exact ⟨_, by rw [HG.out.1, HG.out.2.2]; rfl, by rw [HG.out.2.1]; exact SpOwn.nil _ _, HBWZ.out⟩
          · have HRR := Lib.hid (show rdU false b kk last = (rdWs false b x3 n).map fun r => (⟨last + x0, last + x0 + x1, x2, r.1⟩, r.2) by rw [HR.out, if_neg (by rw [farE_no (by omega) (by omega)]; decide)])
            clear HR
            have HLO2 := Lib.hid (LOwn.nil Z2 (w3.heap.size + 1))
            have hgu : w1.heap.size ≤ w3.heap.size := by omega
            have hgu0 : w.heap.size ≤ w3.heap.size := by omega
            have HBW4 := Lib.hid (HBW3.out)
            have HPZ := HBZ
            clear HBZ HBWZ HBZ1 HOZ HBW
            go_wp2_with fail
            clear d3
            generalize hgug : w3.heap.size = gu at *
            go_loopw [8, 17] (fun nx i wi => ∃ (j5 kk5 : Nat) (ls5 : List Lc) (A5 : Option Addr) (c5 : Nat), j5 ≤ x3 ∧ i = .int .i64 j5 ∧ nx = .int .i64 kk5 ∧ kk5 ≤ b.length ∧ Hid (AtW false b x3 n j5 kk5 ls5) ∧ Hid (SpAt wi gu ⟨last + x0, last + x0 + x1, x2, ls5, A5, c5⟩) ∧ Hid (LOwn wi (gu + 1) (.slice A5 ls5.length c5) ls5) ∧ Hid (ls5.length = j5) ∧ Hid (Below gu w3 wi) ∧ gu + 1 ≤ wi.heap.size) (fun _ i _ => x3 - (intOf i).toNat)
            case atStart => exact ⟨0, n, [], none, 0, by omega, rfl, rfl, hnb, atW_start _ _ _ _, HX2, HLO2, rfl, HPZ, by omega⟩
            case round =>
              obtain ⟨j5, kk5, ls5, A5, c5, hj5, rfl, rfl, hkk5, hA5, hX5, hLO5, hll5, hP5, hz5⟩ := hrel
              clear HX2 HLO2 HPZ hzZ f1
              have d3 := (hP5.out.cell (p := ⟨g4, p4 + 3, none⟩) hg4).trans HD3.out
              have HBW5 := Lib.hid (HBW4.out.trans (hP5.out.mono hgu0))
              by_cases hlt5 : j5 < x3
              · have hji5 : (j5 : Int) < x3 := by omega
                have HWN0 := Lib.hid (fun x n => hA5.out.step (x := x) (n := n) hlt5)
                have HWS := Lib.hid (hA5.out.stop hlt5)
                have hln5 : ls5.length ≤ 1000000 := by have := hll5.out; omega
                clear hA5
                by_cases hkb : kk5 < b.length
                · have hkbi : (kk5 : Int) < b.length := by omega
                  have HLI := Lib.hid (HL.out.below HBW5.out)
                  have HN6 := Lib.hid (numbers8_one A c b (kk5 + 1) ((kk5 : Int) + 1) _ (by omega) (by omega) hn (HLI.out.more HBW5.out.size))
                  have HAT := Lib.hid (fun x n => rdW_at false (x := x) (n := n) hkb)
                  have HNT := Lib.hid (rdW_not false hkb)
                  obtain ⟨gb, ob, rfl, hgb, cb⟩ := HLI.out.at_ hkb
                  rw [show bU false = 16777216 from rfl] at HAT HNT
                  go_wp2_with fail
                  refine HN6.out.mono ?_
                  rintro e w6 ⟨hb6, ⟨hno, rfl⟩ | ⟨x6, n6, g6, p6, c6, hxn, rfl, hc6, hg6, cn6, hg6'⟩⟩
                  · have HN := Lib.hid (HSO.out (by rw [HRR.out, HWS.out (HNT.out hno)]; rfl))
                    have HG := Lib.hid (gs_none hk (by rw [HOF.out, HN.out]; rfl))
                    have HB6 := Lib.hid (HBW5.out.trans (hb6.mono HBW5.out.size))
                    clear HST HSO hno hb6
                    go_wp2_with fail
                    go_ret3
                    exact ⟨_, by rw [HG.out.1, HG.out.2.2]; rfl, by rw [HG.out.2.1]; exact SpOwn.nil _ _, HB6.out⟩
                  have HWN := Lib.hid (HWN0.out _ _ (HAT.out _ _ hxn))
                  have hn6 := (num8_has hxn).2.2.2.2.1
                  have hx6 := (num8_has hxn).2.2.2.2.2.1
                  have hz6 := hb6.size
                  have HX6 := Lib.hid (hX5.out.below hb6 (by omega))
                  have HLO6 := Lib.hid (hLO5.out.below hb6)
                  have HOL := Lib.hid (fun k e => (hLO5.out.lt k e).2)
                  have HP6 := Lib.hid (hP5.out.trans (hb6.mono (by omega)))
                  have hby6 := (hb6.cell (p := ⟨gb, ob + kk5, none⟩) (by dsimp only; omega)).trans cb
                  have hb8 := u8_lt b[kk5]
                  have hx6i : (x6 : Int) ≤ 16777216 := by omega
                  clear hxn hb6 cb HWN0 HWS HAT HNT d3 HN6
                  go_wp2_with fail
                  · skip
                    refine wp_region_held_drew (S := fun W9 => (W9.cell? ⟨gb, ob + kk5, none⟩ = some (.int .u8 (b[kk5].toNat : Int)) ∧ W9.cell? ⟨g6, p6, none⟩ = some (.int .i64 (x6 : Nat)))) (by kernel_rfl) (⟨hby6, cn6⟩) (fun hHeld => ?_)
                    refine heldTake (i := 0) (d := some 110) (v := ?_) rfl rfl (by kernel_rfl) (by kernel_rfl) (by kernel_rfl) (fun _ _ _ h => h) (by kernel_rfl) ?hyq_19 (by assumption) ?restq_19
                    case hyq_19 => (intro W9 hSw; (try dsimp only at hSw); go_simp; try (with_reducible rfl))
                    (try simp only [Act.put, List.setIfInBounds_toArray, List.set_cons_zero, List.set_cons_succ])
                    refine heldTake (i := 2) (d := some 112) (v := ?_) rfl rfl (by kernel_rfl) (by kernel_rfl) (by kernel_rfl) (fun _ _ _ h => h) (by kernel_rfl) ?hyq_20 (by assumption) ?restq_20
                    case hyq_20 => (intro W9 hSw; (try dsimp only at hSw); go_simp; try (with_reducible rfl))
                    (try simp only [Act.put, List.setIfInBounds_toArray, List.set_cons_zero, List.set_cons_succ])
                    refine heldTake (i := 3) (d := some 113) (v := ?_) rfl rfl (by kernel_rfl) (by kernel_rfl) (by kernel_rfl) (fun _ _ _ h => h) (by kernel_rfl) ?hyq_21 (by assumption) ?restq_21
                    case hyq_21 => (intro W9 hSw; (try dsimp only at hSw); go_simp; try (with_reducible rfl))
                    (try simp only [Act.put, List.setIfInBounds_toArray, List.set_cons_zero, List.set_cons_succ])
                    refine heldTake (i := 4) (d := some 114) (v := ?_) rfl rfl (by kernel_rfl) (by kernel_rfl) (by kernel_rfl) (fun _ _ _ h => h) (by kernel_rfl) ?hyq_22 (by assumption) ?restq_22
                    case hyq_22 => (intro W9 hSw; (try dsimp only at hSw); go_simp; try (with_reducible rfl))
                    (try simp only [Act.put, List.setIfInBounds_toArray, List.set_cons_zero, List.set_cons_succ])
                    refine heldTake (i := 5) (d := some 115) (v := ?_) rfl rfl (by kernel_rfl) (by kernel_rfl) (by kernel_rfl) (fun _ _ _ h => h) (by kernel_rfl) ?hyq_23 (by assumption) ?restq_23
                    case hyq_23 => (intro W9 hSw; (try dsimp only at hSw); go_simp; try (with_reducible rfl))
                    (try simp only [Act.put, List.setIfInBounds_toArray, List.set_cons_zero, List.set_cons_succ])
                    refine heldTake (i := 6) (d := some 116) (v := ?_) rfl rfl (by kernel_rfl) (by kernel_rfl) (by kernel_rfl) (fun _ _ _ h => h) (by kernel_rfl) ?hyq_24 (by assumption) ?restq_24
                    case hyq_24 => (intro W9 hSw; (try dsimp only at hSw); go_simp; try (with_reducible rfl))
                    (try simp only [Act.put, List.setIfInBounds_toArray, List.set_cons_zero, List.set_cons_succ])
                    refine heldTake (i := 7) (d := some 117) (v := ?_) rfl rfl (by kernel_rfl) (by kernel_rfl) (by kernel_rfl) (fun _ _ _ h => h) (by kernel_rfl) ?hyq_25 (by assumption) ?restq_25
                    case hyq_25 => (intro W9 hSw; (try dsimp only at hSw); go_simp; try (with_reducible rfl))
                    (try simp only [Act.put, List.setIfInBounds_toArray, List.set_cons_zero, List.set_cons_succ])
                    refine heldTake (i := 8) (d := some 118) (v := ?_) rfl rfl (by kernel_rfl) (by kernel_rfl) (by kernel_rfl) (fun _ _ _ h => h) (by kernel_rfl) ?hyq_26 (by assumption) ?restq_26
                    case hyq_26 => (intro W9 hSw; (try dsimp only at hSw); go_simp; try (with_reducible rfl))
                    (try simp only [Act.put, List.setIfInBounds_toArray, List.set_cons_zero, List.set_cons_succ])
                    refine heldTake (i := 9) (d := some 119) (v := ?_) rfl rfl (by kernel_rfl) (by kernel_rfl) (by kernel_rfl) (fun _ _ _ h => h) (by kernel_rfl) ?hyq_27 (by assumption) ?restq_27
                    case hyq_27 => (intro W9 hSw; (try dsimp only at hSw); go_simp; try (with_reducible rfl))
                    (try simp only [Act.put, List.setIfInBounds_toArray, List.set_cons_zero, List.set_cons_succ])
                    refine heldTake (i := 10) (d := some 120) (v := ?_) rfl rfl (by kernel_rfl) (by kernel_rfl) (by kernel_rfl) (fun _ _ _ h => h) (by kernel_rfl) ?hyq_28 (by assumption) ?restq_28
                    case hyq_28 => (intro W9 hSw; (try dsimp only at hSw); go_simp; try (with_reducible rfl))
                    (try simp only [Act.put, List.setIfInBounds_toArray, List.set_cons_zero, List.set_cons_succ])
                    refine heldTake (i := 11) (d := some 121) (v := ?_) rfl rfl (by kernel_rfl) (by kernel_rfl) (by kernel_rfl) (fun _ _ _ h => h) (by kernel_rfl) ?hyq_29 (by assumption) ?restq_29
                    case hyq_29 => (intro W9 hSw; (try dsimp only at hSw); go_simp; try (with_reducible rfl))
                    (try simp only [Act.put, List.setIfInBounds_toArray, List.set_cons_zero, List.set_cons_succ])
                    refine wpAnyH_ready (rs := [1, 12]) (by kernel_rfl) (by simp) ?_
                    refine AllReadyH.cons rfl (fun K hK => ?_) (AllReadyH.cons rfl (fun K hK => ?_) AllReadyH.nil)
                    · have f3 := HX6.out.at_
                      dsimp only at f3
                      go_simp
                      clear f3
                      refine hK.out _ _ ⟨hby6, cn6⟩ (fun hHeld => ?_)
                      clear hK K
                      (try simp only [Act.put, List.setIfInBounds_toArray, List.set_cons_zero, List.set_cons_succ])
                      refine wpAnyH_ready (rs := [12]) (by kernel_rfl) (by simp) ?_
                      refine AllReadyH.cons rfl (fun K hK => ?_) AllReadyH.nil
                      have HL7 := Lib.hid (locAt_new w6 ⟨b[kk5].toNat, -(x6 : Int)⟩)
                      have hbY := below_lnew w6 (.cells #[.int .i64 (b[kk5].toNat : Int), .int .i64 (-(x6 : Int))] 50)
                      have HO7 := Lib.hid (HLO6.out.below hbY)
                      have HX7 := Lib.hid (HX6.out.below hbY (by omega))
                      have HP7 := Lib.hid (HP6.out.trans (hbY.mono (by omega)))
                      have hz7 : w6.heap.size + 1 = (w6.alloc (.cells #[.int .i64 (b[kk5].toNat : Int), .int .i64 (-(x6 : Int))] 50)).heap.size := by simp
                      unfold cK at HL7
                      dsimp only at HL7
                      have hSY0 := (show ((w6.alloc (.cells #[.int .i64 (b[kk5].toNat : Int), .int .i64 (-(x6 : Int))] 50)).cell? ⟨gb, ob + kk5, none⟩ = some (.int .u8 (b[kk5].toNat : Int)) ∧ (w6.alloc (.cells #[.int .i64 (b[kk5].toNat : Int), .int .i64 (-(x6 : Int))] 50)).cell? ⟨g6, p6, none⟩ = some (.int .i64 (x6 : Nat))) from ⟨(hbY.cell (p := ⟨gb, ob + kk5, none⟩) (by dsimp only; omega)).trans hby6, (hbY.cell (p := ⟨g6, p6, none⟩) hg6).trans cn6⟩)
                      clear hbY
                      go_simp
                      simp only [wrap8 (show (-9223372036854775808 : Int) ≤ b[kk5].toNat by omega) (show (b[kk5].toNat : Int) < 9223372036854775808 by omega), wrap8 (show (-9223372036854775808 : Int) ≤ -(x6 : Int) by omega) (show -(x6 : Int) < 9223372036854775808 by omega)]
                      obtain ⟨Y, hY⟩ : ∃ Y, w6.alloc (.cells #[.int .i64 (b[kk5].toNat : Int), .int .i64 (-(x6 : Int))] 50) = Y := ⟨_, rfl⟩
                      rw [hY] at HL7 HO7 HX7 HP7 hz7 hSY0 ⊢
                      have hSY := hSY0
                      clear hSY0
                      refine hK.out _ _ hSY (fun hHeld => ?_)
                      clear hY
                      clear hK K
                      (try simp only [Act.put, List.setIfInBounds_toArray, List.set_cons_zero, List.set_cons_succ])
                      refine wpAnyH_ready (rs := [13]) (by kernel_rfl) (by simp) ?_
                      refine AllReadyH.cons rfl (fun K hK => ?_) AllReadyH.nil
                      rw [if_pos (by kernel_rfl)]
                      refine op_app_lc Y.drew (.tmp 111) (.tmp 122) rfl (gu + 1) _ ls5 rfl HO7.out w6.heap.size 1 ⟨b[kk5].toNat, -(x6 : Int)⟩ rfl HL7.out hln5 (by show gu + 1 ≤ Y.heap.size; omega) ?_
                      intro v9 Z hoZ hgZ
                      replace hgZ := grown_of_drew hgZ
                      have HX8 := Lib.hid (HX7.out.kept8 hgZ (fun e => by have := (HO7.out.lt _ e).1; omega))
                      have HP8 := Lib.hid (HP7.out.grown hgZ (by omega) (fun j e => by have := (HO7.out.lt _ e).1; omega))
                      have hz8 := hgZ.size
                      have hSZ : (Z.cell? ⟨gb, ob + kk5, none⟩ = some (.int .u8 (b[kk5].toNat : Int)) ∧ Z.cell? ⟨g6, p6, none⟩ = some (.int .i64 (x6 : Nat))) := ⟨(World.cell?_of_block (hgZ.block gb (by omega) (fun e => by have := (HO7.out.lt _ e.symm).1; omega))).trans hSY.1, (World.cell?_of_block (hgZ.block g6 (by omega) (fun e => by have := HOL.out _ e.symm; omega))).trans hSY.2⟩
                      obtain ⟨A8, n8, c8, rfl, hn8, _, _, _⟩ := hoZ.formN
                      have HOZ := Lib.hid hoZ
                      clear hgZ hoZ
                      refine hK.out _ _ hSZ (fun hHeld => ?_)
                      clear hK K
                      (try simp only [Act.put, List.setIfInBounds_toArray])
                      refine heldTake (i := 14) (d := some 124) (v := ?_) rfl rfl (by kernel_rfl) (by kernel_rfl) (by kernel_rfl) (fun _ _ _ h => h) (by kernel_rfl) ?hyq_30 (by assumption) ?restq_30
                      case hyq_30 => (intro W9 hSw; (try dsimp only at hSw); go_simp; try (with_reducible rfl))
                      (try simp only [Act.put])
                      refine wpAnyH_ready (rs := [15]) (by kernel_rfl) (by simp) ?_
                      refine AllReadyH.cons rfl (fun K hK => ?_) AllReadyH.nil
                      have y3 := HX8.out.at_
                      have yf := HX8.out.frozen
                      dsimp only at y3
                      go_simp
                      have HX9 := Lib.hid (HX8.out.putA A8 c8 n8 (ls5 ++ [⟨b[kk5].toNat, -(x6 : Int)⟩]) hn8.out)
                      dsimp only at HX9
                      have HO9 := Lib.hid (HOZ.out.set8 (p := ⟨gu, 3, none⟩) (.slice A8 n8 c8) (by dsimp only; omega))
                      have HP9 := Lib.hid (HP8.out.setCell (p := ⟨gu, 3, none⟩) (Nat.le_refl _) (.slice A8 n8 c8))
                      have hz9 : gu + 1 ≤ (Z.setCell ⟨gu, 3, none⟩ (.slice A8 n8 c8)).heap.size := by simp [World.setCell]; omega
                      have hS9 : ((Z.setCell ⟨gu, 3, none⟩ (.slice A8 n8 c8)).cell? ⟨gb, ob + kk5, none⟩ = some (.int .u8 (b[kk5].toNat : Int)) ∧ (Z.setCell ⟨gu, 3, none⟩ (.slice A8 n8 c8)).cell? ⟨g6, p6, none⟩ = some (.int .i64 (x6 : Nat))) := ⟨(World.cell?_of_block (Below.heap_setCell Z ⟨gu, 3, none⟩ _ gb (by dsimp only; omega))).trans hSZ.1, (World.cell?_of_block (Below.heap_setCell Z ⟨gu, 3, none⟩ _ g6 (by dsimp only; omega))).trans hSZ.2⟩
                      refine hK.out _ _ hS9 (fun hHeld => ?_)
                      clear y3 yf
                      clear hK K
                      (try simp only [Act.put, List.setIfInBounds_toArray, List.set_cons_zero, List.set_cons_succ])
                      refine wpAnyH_done (by kernel_rfl) ?_ _
                      clear hSZ hS9
                      go_wp2
                      go_roundw
                      case rel => exact ⟨j5 + 1, n6, ls5 ++ [⟨b[kk5].toNat, -(x6 : Int)⟩], A8, c8, by omega, by go_num, rfl, hn6, HWN, HX9, by rw [hn8.out]; exact HO9, by rw [List.length_append, hll5.out]; rfl, HP9, hz9⟩
                      case measure => simp [intOf]; omega
                    · have HL7 := Lib.hid (locAt_new w6 ⟨b[kk5].toNat, -(x6 : Int)⟩)
                      have hbY := below_lnew w6 (.cells #[.int .i64 (b[kk5].toNat : Int), .int .i64 (-(x6 : Int))] 50)
                      have HO7 := Lib.hid (HLO6.out.below hbY)
                      have HX7 := Lib.hid (HX6.out.below hbY (by omega))
                      have HP7 := Lib.hid (HP6.out.trans (hbY.mono (by omega)))
                      have hz7 : w6.heap.size + 1 = (w6.alloc (.cells #[.int .i64 (b[kk5].toNat : Int), .int .i64 (-(x6 : Int))] 50)).heap.size := by simp
                      unfold cK at HL7
                      dsimp only at HL7
                      have hSY0 := (show ((w6.alloc (.cells #[.int .i64 (b[kk5].toNat : Int), .int .i64 (-(x6 : Int))] 50)).cell? ⟨gb, ob + kk5, none⟩ = some (.int .u8 (b[kk5].toNat : Int)) ∧ (w6.alloc (.cells #[.int .i64 (b[kk5].toNat : Int), .int .i64 (-(x6 : Int))] 50)).cell? ⟨g6, p6, none⟩ = some (.int .i64 (x6 : Nat))) from ⟨(hbY.cell (p := ⟨gb, ob + kk5, none⟩) (by dsimp only; omega)).trans hby6, (hbY.cell (p := ⟨g6, p6, none⟩) hg6).trans cn6⟩)
                      clear hbY
                      go_simp
                      simp only [wrap8 (show (-9223372036854775808 : Int) ≤ b[kk5].toNat by omega) (show (b[kk5].toNat : Int) < 9223372036854775808 by omega), wrap8 (show (-9223372036854775808 : Int) ≤ -(x6 : Int) by omega) (show -(x6 : Int) < 9223372036854775808 by omega)]
                      obtain ⟨Y, hY⟩ : ∃ Y, w6.alloc (.cells #[.int .i64 (b[kk5].toNat : Int), .int .i64 (-(x6 : Int))] 50) = Y := ⟨_, rfl⟩
                      rw [hY] at HL7 HO7 HX7 HP7 hz7 hSY0 ⊢
                      have hSY := hSY0
                      clear hSY0
                      refine hK.out _ _ hSY (fun hHeld => ?_)
                      clear hY
                      clear hK K
                      (try simp only [Act.put, List.setIfInBounds_toArray, List.set_cons_zero, List.set_cons_succ])
                      refine wpAnyH_ready (rs := [1]) (by kernel_rfl) (by simp) ?_
                      refine AllReadyH.cons rfl (fun K hK => ?_) AllReadyH.nil
                      have f3 := HX7.out.at_
                      dsimp only at f3
                      go_simp
                      clear f3
                      refine hK.out _ _ hSY (fun hHeld => ?_)
                      clear hK K
                      (try simp only [Act.put, List.setIfInBounds_toArray, List.set_cons_zero, List.set_cons_succ])
                      refine wpAnyH_ready (rs := [13]) (by kernel_rfl) (by simp) ?_
                      refine AllReadyH.cons rfl (fun K hK => ?_) AllReadyH.nil
                      rw [if_pos (by kernel_rfl)]
                      refine op_app_lc Y.drew (.tmp 111) (.tmp 122) rfl (gu + 1) _ ls5 rfl HO7.out w6.heap.size 1 ⟨b[kk5].toNat, -(x6 : Int)⟩ rfl HL7.out hln5 (by show gu + 1 ≤ Y.heap.size; omega) ?_
                      intro v9 Z hoZ hgZ
                      replace hgZ := grown_of_drew hgZ
                      have HX8 := Lib.hid (HX7.out.kept8 hgZ (fun e => by have := (HO7.out.lt _ e).1; omega))
                      have HP8 := Lib.hid (HP7.out.grown hgZ (by omega) (fun j e => by have := (HO7.out.lt _ e).1; omega))
                      have hz8 := hgZ.size
                      have hSZ : (Z.cell? ⟨gb, ob + kk5, none⟩ = some (.int .u8 (b[kk5].toNat : Int)) ∧ Z.cell? ⟨g6, p6, none⟩ = some (.int .i64 (x6 : Nat))) := ⟨(World.cell?_of_block (hgZ.block gb (by omega) (fun e => by have := (HO7.out.lt _ e.symm).1; omega))).trans hSY.1, (World.cell?_of_block (hgZ.block g6 (by omega) (fun e => by have := HOL.out _ e.symm; omega))).trans hSY.2⟩
                      obtain ⟨A8, n8, c8, rfl, hn8, _, _, _⟩ := hoZ.formN
                      have HOZ := Lib.hid hoZ
                      clear hgZ hoZ
                      refine hK.out _ _ hSZ (fun hHeld => ?_)
                      clear hK K
                      (try simp only [Act.put, List.setIfInBounds_toArray])
                      refine heldTake (i := 14) (d := some 124) (v := ?_) rfl rfl (by kernel_rfl) (by kernel_rfl) (by kernel_rfl) (fun _ _ _ h => h) (by kernel_rfl) ?hyq_31 (by assumption) ?restq_31
                      case hyq_31 => (intro W9 hSw; (try dsimp only at hSw); go_simp; try (with_reducible rfl))
                      (try simp only [Act.put])
                      refine wpAnyH_ready (rs := [15]) (by kernel_rfl) (by simp) ?_
                      refine AllReadyH.cons rfl (fun K hK => ?_) AllReadyH.nil
                      have y3 := HX8.out.at_
                      have yf := HX8.out.frozen
                      dsimp only at y3
                      go_simp
                      have HX9 := Lib.hid (HX8.out.putA A8 c8 n8 (ls5 ++ [⟨b[kk5].toNat, -(x6 : Int)⟩]) hn8.out)
                      dsimp only at HX9
                      have HO9 := Lib.hid (HOZ.out.set8 (p := ⟨gu, 3, none⟩) (.slice A8 n8 c8) (by dsimp only; omega))
                      have HP9 := Lib.hid (HP8.out.setCell (p := ⟨gu, 3, none⟩) (Nat.le_refl _) (.slice A8 n8 c8))
                      have hz9 : gu + 1 ≤ (Z.setCell ⟨gu, 3, none⟩ (.slice A8 n8 c8)).heap.size := by simp [World.setCell]; omega
                      have hS9 : ((Z.setCell ⟨gu, 3, none⟩ (.slice A8 n8 c8)).cell? ⟨gb, ob + kk5, none⟩ = some (.int .u8 (b[kk5].toNat : Int)) ∧ (Z.setCell ⟨gu, 3, none⟩ (.slice A8 n8 c8)).cell? ⟨g6, p6, none⟩ = some (.int .i64 (x6 : Nat))) := ⟨(World.cell?_of_block (Below.heap_setCell Z ⟨gu, 3, none⟩ _ gb (by dsimp only; omega))).trans hSZ.1, (World.cell?_of_block (Below.heap_setCell Z ⟨gu, 3, none⟩ _ g6 (by dsimp only; omega))).trans hSZ.2⟩
                      refine hK.out _ _ hS9 (fun hHeld => ?_)
                      clear y3 yf
                      clear hK K
                      (try simp only [Act.put, List.setIfInBounds_toArray, List.set_cons_zero, List.set_cons_succ])
                      refine wpAnyH_done (by kernel_rfl) ?_ _
                      clear hSZ hS9
                      go_wp2
                      go_roundw
                      case rel => exact ⟨j5 + 1, n6, ls5 ++ [⟨b[kk5].toNat, -(x6 : Int)⟩], A8, c8, by omega, by go_num, rfl, hn6, HWN, HX9, by rw [hn8.out]; exact HO9, by rw [List.length_append, hll5.out]; rfl, HP9, hz9⟩
                      case measure => simp [intOf]; omega
                · have hkbi : (b.length : Int) ≤ kk5 := by omega
                  have HN := Lib.hid (HSO.out (by rw [HRR.out, HWS.out (rdW_none false (by omega))]; rfl))
                  have HG := Lib.hid (gs_none hk (by rw [HOF.out, HN.out]; rfl))
                  clear HST HSO HWN0 HWS
                  go_wp2_with fail
                  go_ret3
                  exact ⟨_, by rw [HG.out.1, HG.out.2.2]; rfl, by rw [HG.out.2.1]; exact SpOwn.nil _ _, HBW5.out⟩
              · have hji5 : (x3 : Int) ≤ j5 := by omega
                have HWR := Lib.hid (show rdWs false b x3 n = some (ls5, kk5) from by have := hA5.out; rw [show j5 = x3 by omega] at this; exact this.last)
                have HN := Lib.hid (HST.out ⟨last + x0, last + x0 + x1, x2, ls5⟩ kk5 (by rw [HRR.out, HWR.out]; rfl))
                have hb7 := below_lnew wr (.cells (pK ⟨last + x0, last + x0 + x1, x2, ls5, A5, c5⟩) 48)
                have HS7 := Lib.hid (spAt_new wr ⟨last + x0, last + x0 + x1, x2, ls5, A5, c5⟩)
                have HO7 := Lib.hid ((HO3.out.below (show Below w3.heap.size w3 wr by rw [hgug]; exact hP5.out)).below hb7)
                have HL7 := Lib.hid ((hLO5.out.below hb7).base (show w1.heap.size ≤ gu + 1 by omega))
                have HB7 := Lib.hid ((HB3.out.trans (hP5.out.mono hgu)).trans (hb7.mono (by omega)))
                have e0 := hX5.out.fr
                have e1 := hX5.out.to
                have e2 := hX5.out.up
                have e3 := hX5.out.at_
                unfold pK at HS7 HO7 HL7 HB7
                dsimp only at HS7 HO7 HL7 HB7 e0 e1 e2 e3
                clear hb7 HST HSO hA5
                go_wp2_with (at_builtin
                             refine app_sp _ rfl (.tmp 126) (.tmp 128) rfl w1.heap.size _ ls rfl HO7.out wr.heap.size 1 ⟨last + x0, last + x0 + x1, x2, ls5, A5, c5⟩ rfl HS7.out HL7.out hln (by simp; omega) ?_
                             intro v9 w9 ho9 hg9 hk9
                             have HB9 := Lib.hid (HB7.out.grown hg9 (by simp; omega) hk9)
                             have HO9 := Lib.hid ho9
                             clear hg9 hk9 ho9)
                go_roundw
                case rel => exact ⟨j + 1, kk5, last + x0 + x1, ls ++ [⟨last + x0, last + x0 + x1, x2, ls5⟩], by have := HLT.out; omega, by go_num, rfl, rfl, hkk5, by omega, by omega, HN, HO9, by rw [List.length_append, hll.out]; rfl, HB9⟩
                case measure => have := HLT.out; simp [intOf]; omega
      · have hjM : j = M := by omega
        have hji : (M : Int) ≤ j := by omega
        have HRUN := Lib.hid (show runS false b M k0 0 = some (ls, kk) from by have := hA.out; rw [hjM] at this; exact this.last)
        obtain ⟨A2, c2, ps, rfl, e2, hc1', hc2, hs2⟩ := hO.out.form
        have HSM := sp_sm (ps := ps) hk0 (by rw [e2]; exact HRUN.out) (by have := HMN.out; omega)
        have HRT := Lib.hid (refRight8_any A2 c2 ps wr HSM hs2)
        unfold BoolR at HRT
        rw [e2] at HRT
        have HBW := Lib.hid (HB1.out.trans (hB.out.mono hz1))
        clear hjM hA hs2 HSM e2
        cases hr : rightL ls with
        | false =>
          rw [hr] at HRT
          have HG := Lib.hid (gs_none hk (by rw [HOF.out, HRUN.out]; simp [gotR, hr]))
          clear hr
          go_wp2_with fail
          refine HRT.out.mono ?_
          rintro e w3 ⟨rfl, hb3⟩
          go_wp2_with fail
          go_ret3
          exact ⟨_, by rw [HG.out.1, HG.out.2.2]; rfl, by rw [HG.out.2.1]; exact SpOwn.nil _ _, HBW.out.trans (hb3.mono HBW.out.size)⟩
        | true =>
          rw [hr] at HRT
          have HG := Lib.hid (gs_some hk (show gotS true b k = some (ls, kk) by rw [HOF.out, HRUN.out]; simp [gotR, hr]))
          clear hr
          go_wp2_with fail
          refine HRT.out.mono ?_
          rintro e w3 ⟨rfl, hb3⟩
          go_wp2_with fail
          go_ret3
          exact ⟨_, by rw [HG.out.1, HG.out.2.2]; rfl, by rw [HG.out.2.1]; exact (hO.out.below hb3).base hz1, HBW.out.trans (hb3.mono HBW.out.size)⟩
end Go.Proofs.Ytgpoicbbmaimpaa
