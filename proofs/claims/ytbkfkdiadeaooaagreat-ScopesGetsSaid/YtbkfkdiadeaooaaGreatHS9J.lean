/-
  Merged for a claim: S9J.
-/
import Derived.Test.YtbkfkdiadeaooaaGreatHJ13
namespace Go.Proofs.YtbkfkdiadeaooaaGreat
open Go Go.RowKit

theorem one_lies (W : World) (x : Int) (h : 0 ≤ x ∧ x < 256) : Lies (W.alloc (.cells #[.int .u8 x] 5)) (W.alloc (.cells #[.int .u8 x] 5)).heap.size (some ⟨W.heap.size, 0, none⟩) [UInt8.ofNat x.toNat] :=
  lies_lit W 5 _ _ (by
    have h0 : ((UInt8.ofNat x.toNat).toNat : Int) = x := by simp; omega
    simp only [List.map_cons, List.map_nil, b8, h0])
theorem lies_grown {w w' : World} {B B' : Nat} {g : Nat} {l : List UInt8} {row : Option Nat} (h : Lies w B (some ⟨g, 0, none⟩) l) (hg : w.grownBy w' row) (hr : some g ≠ row) (hB : g < B') : Lies w' B' (some ⟨g, 0, none⟩) l := fun hl => by
  obtain ⟨g', o, e, hgb, hc⟩ := h hl
  injection e with e
  injection e with e1 e2 _
  subst e1
  subst e2
  refine ⟨_, _, rfl, hB, fun j hj => ?_⟩
  have := hc j hj
  exact (World.cell?_of_block (hg.block _ (World.block_lt_of_cell? w _ this) hr)).trans this
theorem txs_len {fs : List (List UInt8)} (h : ∀ s ∈ fs, s.length ≤ 255) : (fs.flatMap txB).length ≤ 256 * fs.length := by
  induction fs with
  | nil => simp
  | cons x xs ih =>
    have h1 := h x List.mem_cons_self
    have h2 := ih (fun s hs => h s (List.mem_cons_of_mem _ hs))
    rw [List.flatMap_cons, List.length_append, List.length_cons]
    simp only [txB, List.length_cons] at *
    omega
/-- what a variable must be that is put -/
def VarP (v : Vr) : Prop := v.nm.length ≤ 255 ∧ v.tn.length ≤ 255 ∧ (0 ≤ v.kd ∧ v.kd < 256) ∧ (v.kd = 3 → 0 ≤ v.n ∧ v.n < 4611686018427387904) ∧ v.fs.length ≤ 8 ∧ ∀ s ∈ v.fs, s.length ≤ 255

set_option maxRecDepth 100000 in
set_option maxHeartbeats 4000000 in
theorem putVar_any (v : Value) (l : List UInt8) (p : Pv) (w : World) (B : Nat) (hB : B ≤ w.heap.size) (ho : Own w B v l) (hl : l.length ≤ 900000000000) (h : VL w B p) (hp : VarP p.d) :
    Calls Tryz.prog 53 #[v, vV p] w (BG B w v (l ++ encV p.d)) := by
  obtain ⟨⟨nm, kd, n, tn, wd, fs⟩, A, c⟩ := p
  have hb0 := below_lnew w (.cells (vK ⟨⟨nm, kd, n, tn, wd, fs⟩, A, c⟩) 67)
  have hf0 := heap_alloc_new w (.cells (vK ⟨⟨nm, kd, n, tn, wd, fs⟩, A, c⟩) 67)
  unfold vV
  unfold vK tv at hb0 hf0 ⊢
  obtain ⟨hnm, htn, hkd, hn3, hfl, hfs⟩ := hp
  dsimp only at hb0 hf0 h hnm htn hkd hn3 hfl hfs ⊢
  have HO := Lib.hid ho
  have HFS := Lib.hid hfs
  have HN3 := Lib.hid hn3
  clear ho hfs hn3
  go_enter Tryz.func53, Tryz.ntmps53
  go_upto_region 1 with fail
  obtain ⟨W, hW⟩ : ∃ W, W = w.alloc (.cells #[.string (str nm), .int .u8 kd, .int .i64 n, .string (str tn), .int .i64 wd, .slice A fs.length c] 67) := ⟨_, rfl⟩
  rw [← hW] at hb0 hf0 ⊢
  have hT : HasT W w.heap.size 67 := ⟨_, _, hf0⟩
  obtain ⟨c0, c1, c2, c3, c5⟩ : W.cell? ⟨w.heap.size, 0, none⟩ = some (.string (str nm)) ∧ W.cell? ⟨w.heap.size, 1, none⟩ = some (.int .u8 kd) ∧ W.cell? ⟨w.heap.size, 2, none⟩ = some (.int .i64 n) ∧ W.cell? ⟨w.heap.size, 3, none⟩ = some (.string (str tn)) ∧ W.cell? ⟨w.heap.size, 5, none⟩ = some (.slice A fs.length c) := by simp [World.cell?, hf0]
  have HB0 := Lib.hid hb0
  have HT := Lib.hid hT
  have HO0 := Lib.hid (HO.out.below hb0)
  have HSL := Lib.hid (h.1.below (hb0.mono hB))
  have hBW : B ≤ W.heap.size := Nat.le_trans hB hb0.size
  have HBd := Lib.hid (show Below B W W.drew from (Below.refl _ _).drew)
  have htb : (txB nm).length ≤ 256 := by simp [txB]; omega
  clear hW hb0 hf0 hT h HO
  go_cut [0] from 7 to 16 (fun b wx => Hid (Own wx B b (l ++ txB nm ++ [UInt8.ofNat kd.toNat])) ∧ Hid (Below B W wx) ∧ Hid (ButT 5 W wx) ∧ Hid (Gr W v wx b))
  case first =>
    go_wp2_with fail
    refine wp_region_held_drew (S := fun W9 => W9.cell? ⟨w.heap.size, 0, none⟩ = some (.string (str nm)) ∧ W9.cell? ⟨w.heap.size, 1, none⟩ = some (.int .u8 kd)) (by kernel_rfl) (⟨c0, c1⟩) (fun hHeld => ?_)
    refine heldTake (i := 0) (d := some 7) (v := ?_) rfl rfl (by kernel_rfl) (by kernel_rfl) (by kernel_rfl) (fun _ _ _ h => h) (by kernel_rfl) ?hyq_1 (by assumption) ?restq_1
    case hyq_1 => (intro W9 hSw; (try dsimp only at hSw); go_simp; try (with_reducible rfl))
    (try simp only [Act.put, List.setIfInBounds_toArray, List.set_cons_zero, List.set_cons_succ])
    refine heldTake (i := 1) (d := some 8) (v := ?_) rfl rfl (by kernel_rfl) (by kernel_rfl) (by kernel_rfl) (fun _ _ _ h => h) (by kernel_rfl) ?hyq_2 (by assumption) ?restq_2
    case hyq_2 => (intro W9 hSw; (try dsimp only at hSw); go_simp; try (with_reducible rfl))
    (try simp only [Act.put, List.setIfInBounds_toArray, List.set_cons_zero, List.set_cons_succ])
    refine heldTake (i := 2) (d := some 9) (v := ?_) rfl rfl (by kernel_rfl) (by kernel_rfl) (by kernel_rfl) (fun _ _ _ h => h) (by kernel_rfl) ?hyq_3 (by assumption) ?restq_3
    case hyq_3 => (intro W9 hSw; (try dsimp only at hSw); go_simp; try (with_reducible rfl))
    (try simp only [Act.put, List.setIfInBounds_toArray, List.set_cons_zero, List.set_cons_succ])
    refine heldTake (i := 4) (d := some 11) (v := ?_) rfl rfl (by kernel_rfl) (by kernel_rfl) (by kernel_rfl) (fun _ _ _ h => h) (by kernel_rfl) ?hyq_4 (by assumption) ?restq_4
    case hyq_4 => (intro W9 hSw; (try dsimp only at hSw); go_simp; try (with_reducible rfl))
    (try simp only [Act.put, List.setIfInBounds_toArray, List.set_cons_zero, List.set_cons_succ])
    refine heldTake (i := 5) (d := some 12) (v := ?_) rfl rfl (by kernel_rfl) (by kernel_rfl) (by kernel_rfl) (fun _ _ _ h => h) (by kernel_rfl) ?hyq_5 (by assumption) ?restq_5
    case hyq_5 => (intro W9 hSw; (try dsimp only at hSw); go_simp; try (with_reducible rfl))
    (try simp only [Act.put, List.setIfInBounds_toArray, List.set_cons_zero, List.set_cons_succ])
    refine heldTake (i := 6) (d := some 13) (v := ?_) rfl rfl (by kernel_rfl) (by kernel_rfl) (by kernel_rfl) (fun _ _ _ h => h) (by kernel_rfl) ?hyq_6 (by assumption) ?restq_6
    case hyq_6 => (intro W9 hSw; (try dsimp only at hSw); go_simp; try (with_reducible rfl))
    (try simp only [Act.put, List.setIfInBounds_toArray, List.set_cons_zero, List.set_cons_succ])
    refine wpAnyH_ready (rs := [3, 7]) (by kernel_rfl) (by simp) ?_
    refine AllReadyH.cons rfl (fun K hK => ?_) (AllReadyH.cons rfl (fun K hK => ?_) AllReadyH.nil)
    · go_simp
      go_at_call 51
      refine (putText9_any v l nm W.drew B hBW HO0.out (by omega) (by omega)).mono ?_
      rintro e9 X ⟨v1, rfl, ho1, hb1, ht1, hr1⟩
      have hr1 : Gr W v X v1 := ⟨⟨hr1.1.os, hr1.1.tape, hr1.1.output, hr1.1.size, hr1.1.block⟩, hr1.2⟩
      have hSX : X.cell? ⟨w.heap.size, 0, none⟩ = some (.string (str nm)) ∧ X.cell? ⟨w.heap.size, 1, none⟩ = some (.int .u8 kd) := ⟨(ht1.cell (p := ⟨w.heap.size, 0, none⟩) HT.out (by decide)).trans c0, (ht1.cell (p := ⟨w.heap.size, 1, none⟩) HT.out (by decide)).trans c1⟩
      have hzX : B ≤ X.heap.size := Nat.le_trans hBW hb1.size
      go_wp2_with fail
      refine hK.out _ _ hSX (fun hHeld => ?_)
      clear hK K
      (try simp only [Act.put, List.setIfInBounds_toArray, List.set_cons_zero, List.set_cons_succ])
      refine wpAnyH_ready (rs := [7]) (by kernel_rfl) (by simp) ?_
      refine AllReadyH.cons rfl (fun K hK => ?_) AllReadyH.nil
      go_simp
      have hbY := below_lnew X (.cells #[.int .u8 kd] 5)
      have HS1 := one_lies X kd hkd
      obtain ⟨Y, hY⟩ : ∃ Y, X.alloc (.cells #[.int .u8 kd] 5) = Y := ⟨_, rfl⟩
      rw [hY] at hbY HS1 ⊢
      clear hY
      refine hK.out _ _ ⟨(hbY.cell (p := ⟨w.heap.size, 0, none⟩) (by have := hb1.size; have := HT.out.lt; dsimp only; exact Nat.lt_of_lt_of_le this hb1.size)).trans hSX.1, (hbY.cell (p := ⟨w.heap.size, 1, none⟩) (by have := HT.out.lt; dsimp only; exact Nat.lt_of_lt_of_le this hb1.size)).trans hSX.2⟩ (fun hHeld => ?_)
      clear hK K
      (try simp only [Act.put, List.setIfInBounds_toArray, List.set_cons_zero, List.set_cons_succ])
      refine wpAnyH_ready (rs := [8]) (by kernel_rfl) (by simp) ?_
      refine AllReadyH.cons rfl (fun K hK => ?_) AllReadyH.nil
      rw [if_pos (by kernel_rfl)]
      refine op_app9 Y (.tmp 10) (.tmp 14) rfl B _ (l ++ txB nm) rfl (ho1.below hbY) (some ⟨X.heap.size, 0, none⟩) 1 Y.heap.size [UInt8.ofNat kd.toNat] rfl (by simp) HS1 (by simp; omega) (Nat.le_trans hzX hbY.size) ?_
      intro v9 Z ho9 hg9
      change K (Act.put _ (some 15) v9) Z
      have hGZ := hr1.trans ((Gr.of_below hbY v1).trans hg9)
      have hTZ := hGZ.but HO0.out
      have hBZ := hGZ.below HO0.out hBW
      refine hK.out _ _ ⟨(hTZ.cell (p := ⟨w.heap.size, 0, none⟩) HT.out (by decide)).trans c0, (hTZ.cell (p := ⟨w.heap.size, 1, none⟩) HT.out (by decide)).trans c1⟩ (fun hHeld => ?_)
      clear hK K
      (try simp only [Act.put, List.setIfInBounds_toArray, List.set_cons_zero, List.set_cons_succ])
      refine heldTake (i := 9) (d := some 0) (v := ?_) rfl rfl (by kernel_rfl) (by kernel_rfl) (by kernel_rfl) (fun _ _ _ h => h) (by kernel_rfl) ?hyq_7 (by assumption) ?restq_7
      case hyq_7 => (intro W9 hSw; (try dsimp only at hSw); go_simp; try (with_reducible rfl))
      (try simp only [Act.put, List.setIfInBounds_toArray, List.set_cons_zero])
      refine wpAnyH_done (by kernel_rfl) ?_ _
      have HOZ := Lib.hid ho9
      have HBZ := Lib.hid hBZ
      have HTZ := Lib.hid hTZ
      have HGZ := Lib.hid hGZ
      go_wp2
      go_meet
      exact ⟨HOZ, HBZ, HTZ, HGZ⟩
    · go_simp
      have hbY := below_lnew W (.cells #[.int .u8 kd] 5)
      have HS0 := And.intro (one_lies W kd hkd) (show W.heap.size < (W.alloc (.cells #[.int .u8 kd] 5)).heap.size by simp)
      obtain ⟨Y, hY⟩ : ∃ Y, W.alloc (.cells #[.int .u8 kd] 5) = Y := ⟨_, rfl⟩
      have hYd : W.drew.alloc (.cells #[.int .u8 kd] 5) = Y.drew := by rw [← hY]; rfl
      first | rw [hYd] | rw [show (W.alloc (.cells #[.int .u8 kd] 5)).drew = Y.drew by rw [hY]]
      rw [hY] at hbY HS0
      clear hYd hY
      have hSY : Y.cell? ⟨w.heap.size, 0, none⟩ = some (.string (str nm)) ∧ Y.cell? ⟨w.heap.size, 1, none⟩ = some (.int .u8 kd) := ⟨(hbY.cell (p := ⟨w.heap.size, 0, none⟩) HT.out.lt).trans c0, (hbY.cell (p := ⟨w.heap.size, 1, none⟩) HT.out.lt).trans c1⟩
      have hoY := HO0.out.below hbY
      refine hK.out _ _ hSY (fun hHeld => ?_)
      clear hK K
      (try simp only [Act.put, List.setIfInBounds_toArray, List.set_cons_zero, List.set_cons_succ])
      refine wpAnyH_ready (rs := [3]) (by kernel_rfl) (by simp) ?_
      refine AllReadyH.cons rfl (fun K hK => ?_) AllReadyH.nil
      go_simp
      go_at_call 51
      refine (putText9_any v l nm Y.drew B (Nat.le_trans hBW hbY.size) hoY (by omega) (by omega)).mono ?_
      rintro e9 X ⟨v1, rfl, ho1, hb1, ht1, hr1⟩
      have hg1 := hr1.1
      have hr1 : Gr Y v X v1 := ⟨⟨hr1.1.os, hr1.1.tape, hr1.1.output, hr1.1.size, hr1.1.block⟩, hr1.2⟩
      have ht1 : ButT 5 Y X := ht1
      have hb1 : Below B Y X := ⟨hb1.os, hb1.tape, hb1.output, hb1.size, hb1.block⟩
      have hTX := (ButT.below (T := 5) hbY).trans ht1
      have hSX : X.cell? ⟨w.heap.size, 0, none⟩ = some (.string (str nm)) ∧ X.cell? ⟨w.heap.size, 1, none⟩ = some (.int .u8 kd) := ⟨(hTX.cell (p := ⟨w.heap.size, 0, none⟩) HT.out (by decide)).trans c0, (hTX.cell (p := ⟨w.heap.size, 1, none⟩) HT.out (by decide)).trans c1⟩
      have hzX : B ≤ X.heap.size := Nat.le_trans (Nat.le_trans hBW hbY.size) hb1.size
      have hzW : W.heap.size < Y.heap.size := HS0.2
      have HS1 : Lies X X.heap.size (some ⟨W.heap.size, 0, none⟩) [UInt8.ofNat kd.toNat] := (lies_grown (w := Y.drew) HS0.1 hg1 (fun q => by have := (HO0.out.lt _ q.symm).2; omega) (Nat.lt_of_lt_of_le hzW hb1.size))
      go_wp2_with fail
      refine hK.out _ _ hSX (fun hHeld => ?_)
      clear hK K
      (try simp only [Act.put, List.setIfInBounds_toArray, List.set_cons_zero, List.set_cons_succ])
      refine wpAnyH_ready (rs := [8]) (by kernel_rfl) (by simp) ?_
      refine AllReadyH.cons rfl (fun K hK => ?_) AllReadyH.nil
      rw [if_pos (by kernel_rfl)]
      refine op_app9 X (.tmp 10) (.tmp 14) rfl B _ (l ++ txB nm) rfl ho1 (some ⟨W.heap.size, 0, none⟩) 1 X.heap.size [UInt8.ofNat kd.toNat] rfl (by simp) HS1 (by simp; omega) hzX ?_
      intro v9 Z ho9 hg9
      change K (Act.put _ (some 15) v9) Z
      have hGZ := ((Gr.of_below hbY v).trans hr1).trans hg9
      have hTZ := hGZ.but HO0.out
      have hBZ := hGZ.below HO0.out hBW
      refine hK.out _ _ ⟨(hTZ.cell (p := ⟨w.heap.size, 0, none⟩) HT.out (by decide)).trans c0, (hTZ.cell (p := ⟨w.heap.size, 1, none⟩) HT.out (by decide)).trans c1⟩ (fun hHeld => ?_)
      clear hK K
      (try simp only [Act.put, List.setIfInBounds_toArray, List.set_cons_zero, List.set_cons_succ])
      refine heldTake (i := 9) (d := some 0) (v := ?_) rfl rfl (by kernel_rfl) (by kernel_rfl) (by kernel_rfl) (fun _ _ _ h => h) (by kernel_rfl) ?hyq_8 (by assumption) ?restq_8
      case hyq_8 => (intro W9 hSw; (try dsimp only at hSw); go_simp; try (with_reducible rfl))
      (try simp only [Act.put, List.setIfInBounds_toArray, List.set_cons_zero])
      refine wpAnyH_done (by kernel_rfl) ?_ _
      have HOZ := Lib.hid ho9
      have HBZ := Lib.hid hBZ
      have HTZ := Lib.hid hTZ
      have HGZ := Lib.hid hGZ
      go_wp2
      go_meet
      exact ⟨HOZ, HBZ, HTZ, HGZ⟩
  case rest =>
    obtain ⟨hO1, hB1, hT1, hG1⟩ := hcut
    have HG1 := Lib.hid ((Gr.of_below HB0.out v).trans hG1.out)
    have hz1 : B ≤ wc.heap.size := Nat.le_trans hBW hB1.out.size
    have d1 := (hT1.out.cell (p := ⟨w.heap.size, 1, none⟩) HT.out (by decide)).trans c1
    have d2 := (hT1.out.cell (p := ⟨w.heap.size, 2, none⟩) HT.out (by decide)).trans c2
    have d3 := (hT1.out.cell (p := ⟨w.heap.size, 3, none⟩) HT.out (by decide)).trans c3
    have d5 := (hT1.out.cell (p := ⟨w.heap.size, 5, none⟩) HT.out (by decide)).trans c5
    have HGB := Lib.hid (And.intro ((HB0.out.mono hB).trans hB1.out) ((ButT.below HB0.out).trans hT1.out))
    clear c0 c1 c2 c3 c5
    by_cases k3 : kd = 3
    · subst k3
      have h3 := HN3.out rfl
      go_wp2_with fail
      refine (putNumber_any _ _ n wc B hz1 hO1.out (by simp only [List.length_append, List.length_cons, List.length_nil]; omega) h3.1 (by omega)).mono ?_
      rintro e w2 ⟨v2, rfl, ho2, hb2, ht2, hr2⟩
      have HG2 := Lib.hid (HG1.out.trans hr2)
      have HO2 := Lib.hid ho2
      have HB2 := Lib.hid (HGB.out.1.trans hb2)
      have HT2 := Lib.hid (HGB.out.2.trans ht2)
      clear ho2 hb2 ht2
      go_wp2_with fail
      go_ret
      exact ⟨_, rfl, by unfold encV; simpa [List.append_assoc] using HO2.out, HB2.out, HT2.out, HG2.out⟩
    have q3 : (kd == 3) = false := by simpa using k3
    by_cases k4 : kd = 4
    · subst k4
      have e5 := d5
      go_wp2_with fail
      refine (putText9_any _ _ tn wc B hz1 hO1.out (by simp only [List.length_append, List.length_cons, List.length_nil]; omega) htn).mono ?_
      rintro e w2 ⟨v2, rfl, ho2, hb2, ht2, hr2⟩
      have HG2 := Lib.hid (HG1.out.trans hr2)
      have HT2 := Lib.hid (hT1.out.trans ht2)
      have HB2 := Lib.hid (hB1.out.trans hb2)
      have HO2 := Lib.hid ho2
      have f5 := (HT2.out.cell (p := ⟨w.heap.size, 5, none⟩) HT.out (by decide))
      have f6 := (ht2.cell (p := ⟨w.heap.size, 5, none⟩) (HT.out.same (hT1.out _ _ HT.out (by decide))) (by decide)).trans e5
      have hz2 : B ≤ w2.heap.size := Nat.le_trans hBW HB2.out.size
      have htl : (txB tn).length ≤ 256 := by simp [txB]; omega
      clear d1 d2 d3 d5 e5 f5 ho2 hb2 ht2
      go_wp2_with fail
      refine (putNumber_any v2 _ (fs.length : Int) w2 B hz2 HO2.out (by simp only [List.length_append, List.length_cons, List.length_nil]; omega) (by omega) (by omega)).mono ?_
      rintro e w3 ⟨v3, rfl, ho3, hb3, ht3, hr3⟩
      have HG3 := Lib.hid (HG2.out.trans hr3)
      have g5 := (ht3.cell (p := ⟨w.heap.size, 5, none⟩) (HT.out.same (HT2.out _ _ HT.out (by decide))) (by decide)).trans f6
      have HT3 := Lib.hid (HT2.out.trans ht3)
      have HB3 := Lib.hid (HB2.out.trans hb3)
      have n3 := nb10 (fs.length : Int)
      obtain ⟨m, hm⟩ : ∃ m, m = l ++ txB nm ++ [UInt8.ofNat (4 : Int).toNat] ++ txB tn ++ nB false (fs.length : Int) := ⟨_, rfl⟩
      rw [← hm] at ho3
      have hml : m.length ≤ 900000001000 := by rw [hm]; simp only [List.length_append, List.length_cons, List.length_nil]; omega
      have HM := Lib.hid hm
      have HO3 := Lib.hid (show Own w3 B v3 (m ++ (fs.take 0).flatMap txB) by simpa using ho3)
      clear f6 ho3 hb3 ht3 HO2 hm n3
      go_wp2_with fail
      go_loopw [0, 41] (fun b i wr => ∃ k : Nat, k ≤ fs.length ∧ i = .int .i64 k ∧ Hid (Own wr B b (m ++ (fs.take k).flatMap txB)) ∧ Hid (Below B W wr) ∧ Hid (ButT 5 W wr) ∧ Hid (Gr w v wr b)) (fun _ i _ => fs.length - (intOf i).toNat)
      case atStart => exact ⟨0, by omega, rfl, HO3, HB3, HT3, HG3⟩
      case round =>
        obtain ⟨k, hk, rfl, hO, hBb, hTt, hGg⟩ := hrel
        clear HO3 HB3 HT3 HG3
        by_cases hlt : k < fs.length
        · obtain ⟨g, o, rfl, hg, x0⟩ := eS_at (HSL.out.below hBb.out) hlt
          have hx := HFS.out _ (List.getElem_mem hlt)
          have HS := Lib.hid (show fs.take (k + 1) = fs.take k ++ [fs[k]] from by rw [List.take_append_getElem])
          have hln := txs_len (fs := fs.take k) (fun s hs => HFS.out s (List.mem_of_mem_take hs))
          rw [List.length_take] at hln
          have hln2 : ((fs.take k).flatMap txB).length ≤ 2048 := by omega
          generalize fs[k] = x at *
          clear hln
          have hzr : B ≤ wr.heap.size := Nat.le_trans hBW hBb.out.size
          go_wp2_with fail
          refine (putText9_any _ _ x wr B hzr hO.out (by simp only [List.length_append]; omega) hx).mono ?_
          rintro e w4 ⟨v4, rfl, ho4, hb4, ht4, hr4⟩
          have HG4 := Lib.hid (hGg.out.trans hr4)
          have HB4 := Lib.hid (hBb.out.trans hb4)
          have HT4 := Lib.hid (hTt.out.trans ht4)
          have HO4 := Lib.hid (show Own w4 B v4 (m ++ (fs.take (k + 1)).flatMap txB) by rw [HS.out, List.flatMap_append, ← List.append_assoc]; simpa using ho4)
          clear ho4 hb4 ht4 HS
          go_wp2_with fail
          go_roundw
          case rel => exact ⟨k + 1, by omega, by go_num, HO4, HB4, HT4, HG4⟩
          case measure => simp [intOf]; omega
        · have hki : (fs.length : Int) ≤ k := by omega
          have hx0 := hO.out
          rw [List.take_of_length_le (by omega), HM.out] at hx0
          have HX := Lib.hid hx0
          clear hO hx0
          go_wp2_with fail
          go_ret
          exact ⟨_, rfl, by unfold encV; simpa [List.append_assoc] using HX.out, (HB0.out.mono hB).trans hBb.out, (ButT.below HB0.out).trans hTt.out, hGg.out⟩
    have q4 : (kd == 4) = false := by simpa using k4
    go_wp2_with fail
    go_ret
    exact ⟨_, rfl, by unfold encV; rw [if_neg k3, if_neg k4]; simpa [List.append_assoc] using hO1.out, HGB.out.1, HGB.out.2, HG1.out⟩
end Go.Proofs.YtbkfkdiadeaooaaGreat
