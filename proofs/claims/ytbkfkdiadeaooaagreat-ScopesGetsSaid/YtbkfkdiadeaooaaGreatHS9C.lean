/-
  Merged for a claim: S9C.
-/
import Derived.Test.YtbkfkdiadeaooaaGreatHJ10
import Derived.Test.YtbkfkdiadeaooaaGreatHL7O
import Derived.Test.YtbkfkdiadeaooaaGreatKG
import Derived.Deep.CutRange
import Derived.WalkSpells
namespace Go.Proofs.YtbkfkdiadeaooaaGreat
open Go Go.RowKit

def wordsV (v : Vr) : Int := if v.kd = 3 then v.n else if v.kd = 4 then v.fs.length else 1
def fldB (fs : List (List UInt8)) : Bool := decide (1 ≤ fs.length ∧ fs.length ≤ 8) && fs.all nameB
def plainB (v : Vr) : Bool := decide (v.tn = []) && decide (v.fs.length = 0)
def kindB (v : Vr) : Bool := if v.kd = 1 ∨ v.kd = 2 then plainB v && decide (v.n = 0) else if v.kd = 3 then plainB v && decide (1 ≤ v.n ∧ v.n ≤ 16) else if v.kd = 4 then decide (v.n = 0) && (nameB v.tn && fldB v.fs) else false
def varB (v : Vr) : Bool := nameB v.nm && (decide (v.wd = wordsV v) && kindB v)

set_option maxRecDepth 100000 in
set_option maxHeartbeats 1000000 in
theorem words_any (p : Pv) (w : World) :
    Calls Tryz.prog 63 #[vV p] w fun e w' => e = .returned (.int .i64 (wordsV p.d)) ∧ Below w.heap.size w w' := by
  obtain ⟨⟨nm, kd, n, tn, wd, fs⟩, A, c⟩ := p
  have HB := Lib.hid (below_lnew w (.cells (vK ⟨⟨nm, kd, n, tn, wd, fs⟩, A, c⟩) 67))
  unfold vV
  unfold vK tv at HB ⊢
  dsimp only at HB ⊢
  by_cases h3 : kd = 3
  · subst h3
    go_enter Tryz.func63, Tryz.ntmps63
    go_wp2
    go_ret
    exact ⟨rfl, HB.out⟩
  by_cases h4 : kd = 4
  · subst h4
    go_enter Tryz.func63, Tryz.ntmps63
    go_wp2
    go_ret
    exact ⟨rfl, HB.out⟩
  have HW := Lib.hid (show wordsV ⟨nm, kd, n, tn, wd, fs⟩ = 1 by unfold wordsV; rw [if_neg h3, if_neg h4])
  have q3 : (kd == 3) = false := by simpa using h3
  have q4 : (kd == 4) = false := by simpa using h4
  rw [HW.out]
  go_enter Tryz.func63, Tryz.ntmps63
  go_wp2
  go_ret
  exact ⟨rfl, HB.out⟩

theorem fld_long {s : List (List UInt8)} (h : ¬ (1 ≤ s.length ∧ s.length ≤ 8)) : fldB s = false := by
  unfold fldB; rw [decide_eq_false h]; rfl
theorem fld_start {s : List (List UInt8)} (h : 1 ≤ s.length ∧ s.length ≤ 8) : fldB s = (s.drop 0).all nameB := by
  unfold fldB; rw [decide_eq_true h]; rfl
set_option maxRecDepth 100000 in
set_option maxHeartbeats 1000000 in
theorem areFields_any (A : Option Addr) (c : Nat) (s : List (List UInt8)) (w : World) (h : eS.Lies w w.heap.size A s) :
    Calls Tryz.prog 90 #[.slice A s.length c] w fun e w' => e = .returned (.bool (fldB s)) ∧ w = w' := by
  by_cases h1 : s.length < 1
  · rw [fld_long (by omega)]
    have h1i : (s.length : Int) < 1 := by omega
    go_enter Tryz.func90, Tryz.ntmps90
    go_wp2
    go_ret
    exact ⟨rfl, rfl⟩
  by_cases h2 : 8 < s.length
  · rw [fld_long (by omega)]
    have h1i : (1 : Int) ≤ (s.length : Int) := by omega
    have h2i : (8 : Int) < (s.length : Int) := by omega
    go_enter Tryz.func90, Tryz.ntmps90
    go_wp2
    go_ret
    exact ⟨rfl, rfl⟩
  have h1i : (1 : Int) ≤ (s.length : Int) := by omega
  have h2i : (s.length : Int) ≤ 8 := by omega
  have H0 := Lib.hid (fld_start (s := s) ⟨by omega, by omega⟩)
  obtain ⟨b, hb⟩ : ∃ b, fldB s = b := ⟨_, rfl⟩
  rw [hb]
  rw [hb] at H0
  clear hb
  go_enter Tryz.func90, Tryz.ntmps90
  go_wp2
  go_loop [15] (fun i => ∃ k : Nat, k ≤ s.length ∧ i = .int .i64 k ∧ Hid (b = (s.drop k).all nameB)) (fun i => s.length - (intOf i).toNat)
  case atStart => exact ⟨0, by omega, rfl, H0⟩
  case round =>
    obtain ⟨k, hk, rfl, hr⟩ := hrel
    clear H0
    by_cases hlt : k < s.length
    · obtain ⟨g, o, rfl, hg, c1⟩ := eS_at h hlt
      have HN := Lib.hid (fun hp => all_step hlt hr.out hp)
      have HF := Lib.hid (fun hp => all_stop hlt hr.out hp)
      clear hr h
      generalize s[k] = x at *
      cases hp : nameB x
      · have HR := Lib.hid (HF.out hp)
        have HX := Lib.hid hp
        clear HN HF hp
        go_wp2_with (first | (go_at_call 41; refine (isName_any x w).mono ?_; rintro e w' ⟨rfl, rfl⟩; rw [HX.out]))
        go_ret
        exact ⟨by rw [HR.out]; rfl, rfl⟩
      · have HR := Lib.hid (HN.out hp)
        have HX := Lib.hid hp
        clear HN HF hp
        go_wp2_with (first | (go_at_call 41; refine (isName_any x w).mono ?_; rintro e w' ⟨rfl, rfl⟩; rw [HX.out]))
        go_round
        case rel => exact ⟨k + 1, by omega, by go_num, HR⟩
        case measure => simp [intOf]; omega
    · obtain rfl : k = s.length := by omega
      have HR := Lib.hid (all_end hr.out)
      clear hr
      go_wp2
      go_ret
      exact ⟨by rw [HR.out]; rfl, rfl⟩

set_option maxRecDepth 100000 in
set_option maxHeartbeats 2000000 in
theorem isVar_any (p : Pv) (w : World) (h : VL w w.heap.size p) :
    Calls Tryz.prog 67 #[vV p] w (BoolR (varB p.d) w) := by
  obtain ⟨⟨nm, kd, n, tn, wd, fs⟩, A, c⟩ := p
  have HF := Lib.hid h.1
  have hb := below_lnew w (.cells (vK ⟨⟨nm, kd, n, tn, wd, fs⟩, A, c⟩) 67)
  have hw1 := heap_alloc_new w (.cells (vK ⟨⟨nm, kd, n, tn, wd, fs⟩, A, c⟩) 67)
  have HFL := Lib.hid ((h.1.below hb).more hb.size)
  clear h
  unfold vV
  unfold vK tv at hb hw1 HFL ⊢
  dsimp only at hb hw1 HF HFL ⊢
  obtain ⟨W, hW⟩ : ∃ W, W = w.alloc (.cells #[.string (str nm), .int .u8 kd, .int .i64 n, .string (str tn), .int .i64 wd, .slice A fs.length c] 67) := ⟨_, rfl⟩
  have hz : w.heap.size < W.heap.size := by rw [hW]; simp
  rw [← hW] at hb hw1 HFL
  obtain ⟨c0, c1, c2, c3, c4, c5⟩ : (W.cell? ⟨w.heap.size, 0, none⟩ = some (.string (str nm)) ∧ W.cell? ⟨w.heap.size, 1, none⟩ = some (.int .u8 kd) ∧ W.cell? ⟨w.heap.size, 2, none⟩ = some (.int .i64 n) ∧ W.cell? ⟨w.heap.size, 3, none⟩ = some (.string (str tn)) ∧ W.cell? ⟨w.heap.size, 4, none⟩ = some (.int .i64 wd) ∧ W.cell? ⟨w.heap.size, 5, none⟩ = some (.slice A fs.length c)) := by
    simp [World.cell?, hw1]
  have HB := Lib.hid hb
  clear hb hw1
  have HV := Lib.hid (show varB ⟨nm, kd, n, tn, wd, fs⟩ = (nameB nm && (decide (wd = wordsV ⟨nm, kd, n, tn, wd, fs⟩) && kindB ⟨nm, kd, n, tn, wd, fs⟩)) from rfl)
  rw [HV.out]
  clear HV
  cases hnm : nameB nm
  · have HNM := Lib.hid hnm
    go_enter Tryz.func67, Tryz.ntmps67
    go_wp2_with fail
    rw [← hW]
    clear hW
    refine wp_region_held_drew (S := fun W9 => (W9.cell? ⟨w.heap.size, 0, none⟩ = some (.string (str nm)) ∧ W9.cell? ⟨w.heap.size, 1, none⟩ = some (.int .u8 kd) ∧ W9.cell? ⟨w.heap.size, 2, none⟩ = some (.int .i64 n) ∧ W9.cell? ⟨w.heap.size, 3, none⟩ = some (.string (str tn)) ∧ W9.cell? ⟨w.heap.size, 4, none⟩ = some (.int .i64 wd) ∧ W9.cell? ⟨w.heap.size, 5, none⟩ = some (.slice A fs.length c))) (by kernel_rfl) (⟨c0, c1, c2, c3, c4, c5⟩) (fun hHeld => ?_)
    refine heldTake (i := 0) (d := some 4) (v := ?_) rfl rfl (by kernel_rfl) (by kernel_rfl) (by kernel_rfl) (fun _ _ _ h => h) (by kernel_rfl) ?hyq_1 (by assumption) ?restq_1
    case hyq_1 => (intro W9 hSw; (try dsimp only at hSw); go_simp; try (with_reducible rfl))
    (try simp only [Act.put, List.setIfInBounds_toArray, List.set_cons_zero, List.set_cons_succ])
    refine heldTake (i := 1) (d := some 5) (v := ?_) rfl rfl (by kernel_rfl) (by kernel_rfl) (by kernel_rfl) (fun _ _ _ h => h) (by kernel_rfl) ?hyq_2 (by assumption) ?restq_2
    case hyq_2 => (intro W9 hSw; (try dsimp only at hSw); go_simp; try (with_reducible rfl))
    (try simp only [Act.put, List.setIfInBounds_toArray, List.set_cons_zero, List.set_cons_succ])
    refine wpAnyH_ready (rs := [2]) (by kernel_rfl) (by simp) ?_
    refine AllReadyH.cons rfl (fun K hK => ?_) AllReadyH.nil
    go_simp
    go_at_call 41
    refine (isName_any nm _).mono ?_
    rintro e9 X ⟨rfl, rfl⟩
    go_wp2_with fail
    refine hK.out _ _ (by assumption) (fun hHeld => ?_)
    clear hK K
    (try simp only [Act.put, List.setIfInBounds_toArray, List.set_cons_zero, List.set_cons_succ])
    refine heldTake (i := 3) (d := some 7) (v := ?_) rfl rfl (by kernel_rfl) (by kernel_rfl) (by kernel_rfl) (fun _ _ _ h => h) (by kernel_rfl) ?hyq_3 (by assumption) ?restq_3
    case hyq_3 => (intro W9 hSw; (try dsimp only at hSw); go_simp; try (with_reducible rfl))
    (try simp only [Act.put, List.setIfInBounds_toArray, List.set_cons_zero, List.set_cons_succ])
    refine heldTake (i := 4) (d := some 8) (v := ?_) rfl rfl (by kernel_rfl) (by kernel_rfl) (by kernel_rfl) (fun _ _ _ h => h) (by kernel_rfl) ?hyq_4 (by assumption) ?restq_4
    case hyq_4 => (intro W9 hSw; (try dsimp only at hSw); go_simp; try (with_reducible rfl))
    (try simp only [Act.put, List.setIfInBounds_toArray, List.set_cons_zero, List.set_cons_succ])
    refine heldSkip (i := 5) (d := some 9) rfl rfl (by kernel_rfl) (by kernel_rfl) (by kernel_rfl) (fun _ _ _ h => h) (by kernel_rfl) (by assumption) ?_
    (try simp only [Act.put, List.setIfInBounds_toArray, List.set_cons_zero, List.set_cons_succ])
    refine heldSkip (i := 6) (d := some 10) rfl rfl (by kernel_rfl) (by kernel_rfl) (by kernel_rfl) (fun _ _ _ h => h) (by kernel_rfl) (by assumption) ?_
    (try simp only [Act.put, List.setIfInBounds_toArray, List.set_cons_zero, List.set_cons_succ])
    refine heldSkip (i := 7) (d := some 11) rfl rfl (by kernel_rfl) (by kernel_rfl) (by kernel_rfl) (fun _ _ _ h => h) (by kernel_rfl) (by assumption) ?_
    (try simp only [Act.put, List.setIfInBounds_toArray, List.set_cons_zero, List.set_cons_succ])
    refine heldSkip (i := 8) (d := some 12) rfl rfl (by kernel_rfl) (by kernel_rfl) (by kernel_rfl) (fun _ _ _ h => h) (by kernel_rfl) (by assumption) ?_
    (try simp only [Act.put, List.setIfInBounds_toArray, List.set_cons_zero, List.set_cons_succ])
    refine heldSkip (i := 9) (d := some 13) rfl rfl (by kernel_rfl) (by kernel_rfl) (by kernel_rfl) (fun _ _ _ h => h) (by kernel_rfl) (by assumption) ?_
    (try simp only [Act.put, List.setIfInBounds_toArray, List.set_cons_zero, List.set_cons_succ])
    refine heldTake (i := 10) (d := some 14) (v := ?_) rfl rfl (by kernel_rfl) (by kernel_rfl) (by kernel_rfl) (fun _ _ _ h => h) (by kernel_rfl) ?hyq_5 (by assumption) ?restq_5
    case hyq_5 => (intro W9 hSw; (try dsimp only at hSw); go_simp; try (with_reducible rfl))
    (try simp only [Act.put, List.setIfInBounds_toArray, List.set_cons_zero, List.set_cons_succ])
    refine wpAnyH_done (by kernel_rfl) ?_ _
    go_wp2_with fail
    go_ret
    exact ⟨rfl, HB.out.drew⟩
  obtain ⟨m, hm⟩ : ∃ m, wordsV ⟨nm, kd, n, tn, wd, fs⟩ = m := ⟨_, rfl⟩
  rw [hm]
  have HM := Lib.hid hm
  clear hm
  by_cases hwm : wd = m
  · subst hwm
    rw [decide_eq_true rfl, Bool.true_and, Bool.true_and]
    go_enter Tryz.func67, Tryz.ntmps67
    go_wp2_with fail
    rw [← hW]
    clear hW
    refine wp_region_held_drew (S := fun W9 => (W9.cell? ⟨w.heap.size, 0, none⟩ = some (.string (str nm)) ∧ W9.cell? ⟨w.heap.size, 1, none⟩ = some (.int .u8 kd) ∧ W9.cell? ⟨w.heap.size, 2, none⟩ = some (.int .i64 n) ∧ W9.cell? ⟨w.heap.size, 3, none⟩ = some (.string (str tn)) ∧ W9.cell? ⟨w.heap.size, 4, none⟩ = some (.int .i64 wd) ∧ W9.cell? ⟨w.heap.size, 5, none⟩ = some (.slice A fs.length c))) (by kernel_rfl) (⟨c0, c1, c2, c3, c4, c5⟩) (fun hHeld => ?_)
    refine heldTake (i := 0) (d := some 4) (v := ?_) rfl rfl (by kernel_rfl) (by kernel_rfl) (by kernel_rfl) (fun _ _ _ h => h) (by kernel_rfl) ?hyq_6 (by assumption) ?restq_6
    case hyq_6 => (intro W9 hSw; (try dsimp only at hSw); go_simp; try (with_reducible rfl))
    (try simp only [Act.put, List.setIfInBounds_toArray, List.set_cons_zero, List.set_cons_succ])
    refine heldTake (i := 1) (d := some 5) (v := ?_) rfl rfl (by kernel_rfl) (by kernel_rfl) (by kernel_rfl) (fun _ _ _ h => h) (by kernel_rfl) ?hyq_7 (by assumption) ?restq_7
    case hyq_7 => (intro W9 hSw; (try dsimp only at hSw); go_simp; try (with_reducible rfl))
    (try simp only [Act.put, List.setIfInBounds_toArray, List.set_cons_zero, List.set_cons_succ])
    refine wpAnyH_ready (rs := [2]) (by kernel_rfl) (by simp) ?_
    refine AllReadyH.cons rfl (fun K hK => ?_) AllReadyH.nil
    go_simp
    go_at_call 41
    refine (isName_any nm _).mono ?_
    rintro e9 X ⟨rfl, rfl⟩
    go_wp2_with fail
    refine hK.out _ _ (by assumption) (fun hHeld => ?_)
    clear hK K
    (try simp only [Act.put, List.setIfInBounds_toArray, List.set_cons_zero, List.set_cons_succ])
    refine heldTake (i := 3) (d := some 7) (v := ?_) rfl rfl (by kernel_rfl) (by kernel_rfl) (by kernel_rfl) (fun _ _ _ h => h) (by kernel_rfl) ?hyq_8 (by assumption) ?restq_8
    case hyq_8 => (intro W9 hSw; (try dsimp only at hSw); go_simp; try (with_reducible rfl))
    (try simp only [Act.put, List.setIfInBounds_toArray, List.set_cons_zero, List.set_cons_succ])
    refine heldTake (i := 4) (d := some 8) (v := ?_) rfl rfl (by kernel_rfl) (by kernel_rfl) (by kernel_rfl) (fun _ _ _ h => h) (by kernel_rfl) ?hyq_9 (by assumption) ?restq_9
    case hyq_9 => (intro W9 hSw; (try dsimp only at hSw); go_simp; try (with_reducible rfl))
    (try simp only [Act.put, List.setIfInBounds_toArray, List.set_cons_zero, List.set_cons_succ])
    refine heldTake (i := 5) (d := some 9) (v := ?_) rfl rfl (by kernel_rfl) (by kernel_rfl) (by kernel_rfl) (fun _ _ _ h => h) (by kernel_rfl) ?hyq_10 (by assumption) ?restq_10
    case hyq_10 => (intro W9 hSw; (try dsimp only at hSw); go_simp; try (with_reducible rfl))
    (try simp only [Act.put, List.setIfInBounds_toArray, List.set_cons_zero, List.set_cons_succ])
    refine heldTake (i := 6) (d := some 10) (v := ?_) rfl rfl (by kernel_rfl) (by kernel_rfl) (by kernel_rfl) (fun _ _ _ h => h) (by kernel_rfl) ?hyq_11 (by assumption) ?restq_11
    case hyq_11 => (intro W9 hSw; (try dsimp only at hSw); go_simp; try (with_reducible rfl))
    (try simp only [Act.put, List.setIfInBounds_toArray, List.set_cons_zero, List.set_cons_succ])
    refine heldTake (i := 7) (d := some 11) (v := ?_) rfl rfl (by kernel_rfl) (by kernel_rfl) (by kernel_rfl) (fun _ _ _ h => h) (by kernel_rfl) ?hyq_12 (by assumption) ?restq_12
    case hyq_12 => (intro W9 hSw; (try dsimp only at hSw); go_simp; try (with_reducible rfl))
    (try simp only [Act.put, List.setIfInBounds_toArray, List.set_cons_zero, List.set_cons_succ])
    refine wpAnyH_ready (rs := [8]) (by kernel_rfl) (by simp) ?_
    refine AllReadyH.cons rfl (fun K hK => ?_) AllReadyH.nil
    go_simp
    go_at_call 63
    refine (words_any ⟨⟨nm, kd, n, tn, wd, fs⟩, A, c⟩ _).mono ?_
    rintro e9 X ⟨rfl, hbX⟩
    dsimp only
    rw [HM.out]
    have hbX := below_of_drew hbX
    have hSX : (X.cell? ⟨w.heap.size, 0, none⟩ = some (.string (str nm)) ∧ X.cell? ⟨w.heap.size, 1, none⟩ = some (.int .u8 kd) ∧ X.cell? ⟨w.heap.size, 2, none⟩ = some (.int .i64 n) ∧ X.cell? ⟨w.heap.size, 3, none⟩ = some (.string (str tn)) ∧ X.cell? ⟨w.heap.size, 4, none⟩ = some (.int .i64 wd) ∧ X.cell? ⟨w.heap.size, 5, none⟩ = some (.slice A fs.length c)) := ⟨(hbX.cell (p := ⟨w.heap.size, 0, none⟩) hz).trans c0, (hbX.cell (p := ⟨w.heap.size, 1, none⟩) hz).trans c1, (hbX.cell (p := ⟨w.heap.size, 2, none⟩) hz).trans c2, (hbX.cell (p := ⟨w.heap.size, 3, none⟩) hz).trans c3, (hbX.cell (p := ⟨w.heap.size, 4, none⟩) hz).trans c4, (hbX.cell (p := ⟨w.heap.size, 5, none⟩) hz).trans c5⟩
    have HBX := Lib.hid (HB.out.trans (hbX.mono (by omega)))
    go_wp2_with fail
    refine hK.out _ _ hSX (fun hHeld => ?_)
    clear hK K
    (try simp only [Act.put, List.setIfInBounds_toArray, List.set_cons_zero, List.set_cons_succ])
    refine heldTake (i := 9) (d := some 13) (v := ?_) rfl rfl (by kernel_rfl) (by kernel_rfl) (by kernel_rfl) (fun _ _ _ h => h) (by kernel_rfl) ?hyq_13 (by assumption) ?restq_13
    case hyq_13 => (intro W9 hSw; (try dsimp only at hSw); go_simp; try (with_reducible rfl))
    (try simp only [Act.put, List.setIfInBounds_toArray, List.set_cons_zero, List.set_cons_succ])
    refine heldTake (i := 10) (d := some 14) (v := ?_) rfl rfl (by kernel_rfl) (by kernel_rfl) (by kernel_rfl) (fun _ _ _ h => h) (by kernel_rfl) ?hyq_14 (by assumption) ?restq_14
    case hyq_14 => (intro W9 hSw; (try dsimp only at hSw); go_simp; try (with_reducible rfl))
    (try simp only [Act.put, List.setIfInBounds_toArray, List.set_cons_zero, List.set_cons_succ])
    refine wpAnyH_done (by kernel_rfl) ?_ _
    have HP := Lib.hid (show plainB ⟨nm, kd, n, tn, wd, fs⟩ = (((str tn).toList == []) && ((fs.length : Int) == 0)) from by
      unfold plainB
      rw [str_toList, Bool.eq_iff_iff]
      simp)
    have HFX := Lib.hid ((HF.out.below HBX.out).more HBX.out.size)
    have hx1 := hSX.2.1
    have hx2 := hSX.2.2.1
    have hx3 := hSX.2.2.2.1
    have hx5 := hSX.2.2.2.2.2
    obtain ⟨pl, hpl⟩ : ∃ pl, plainB ⟨nm, kd, n, tn, wd, fs⟩ = pl := ⟨_, rfl⟩
    rw [hpl] at HP
    go_upto_region 3 with fail
    go_cut [3] from 15 to 25 (fun p wx => p = .bool pl ∧ wx = X)
    case first =>
      clear hpl
      cases hT : ((str tn).toList == []) <;> cases hF : ((fs.length : Int) == 0)
      all_goals
        rw [hT, hF] at HP
        go_wp2_with fail
        go_meet
        exact ⟨by rw [HP.out]; rfl, rfl⟩
    case rest =>
      obtain ⟨rfl, rfl⟩ := hcut
      have HPL := Lib.hid hpl
      clear HP hpl
      by_cases k12 : kd = 1 ∨ kd = 2
      · have HK := Lib.hid (show kindB ⟨nm, kd, n, tn, wd, fs⟩ = (plainB ⟨nm, kd, n, tn, wd, fs⟩ && (n == 0)) from by
          unfold kindB
          rw [if_pos k12]
          rfl)
        rcases k12 with k1 | k1 <;> subst k1 <;> cases pl <;> cases hN : (n == 0)
        all_goals
          go_wp2_with fail
          go_ret
          exact ⟨by rw [HK.out, HPL.out, hN]; rfl, HBX.out⟩
      have q1 : (kd == 1) = false := by simp; omega
      have q2 : (kd == 2) = false := by simp; omega
      by_cases k3 : kd = 3
      · have HK := Lib.hid (show kindB ⟨nm, kd, n, tn, wd, fs⟩ = (plainB ⟨nm, kd, n, tn, wd, fs⟩ && (decide (1 ≤ n) && decide (n ≤ 16))) from by
          unfold kindB
          rw [if_neg k12, if_pos k3]
          congr 1
          rw [Bool.eq_iff_iff]; simp)
        clear q1 q2
        subst k3
        cases pl <;> by_cases hN : 1 ≤ n <;> by_cases hM : n ≤ 16
        all_goals try (exfalso; omega)
        all_goals
          go_wp2_with fail
          go_ret
          exact ⟨by rw [HK.out, HPL.out]; simp [hN, hM], HBX.out⟩
      have q3 : (kd == 3) = false := by simpa using k3
      by_cases k4 : kd = 4
      · have HK := Lib.hid (show kindB ⟨nm, kd, n, tn, wd, fs⟩ = ((n == 0) && (nameB tn && fldB fs)) from by
          unfold kindB
          rw [if_neg k12, if_neg k3, if_pos k4]
          rfl)
        clear HPL q1 q2 q3
        subst k4
        cases hN : (n == 0) <;> cases hM : nameB tn
        all_goals
          go_wp2_with (first
            | (go_at_call 41; refine (isName_any tn _).mono ?_; rintro e9 X9 ⟨rfl, rfl⟩)
            | (go_at_call 90; refine (areFields_any A c fs _ HFX.out).mono ?_; rintro e9 X9 ⟨rfl, rfl⟩))
          go_ret
          exact ⟨by rw [HK.out, hN, hM]; rfl, HBX.out⟩
      have q4 : (kd == 4) = false := by simpa using k4
      have HK := Lib.hid (show kindB ⟨nm, kd, n, tn, wd, fs⟩ = false by unfold kindB; rw [if_neg k12, if_neg k3, if_neg k4])
      clear HPL
      go_wp2_with fail
      go_ret
      exact ⟨by rw [HK.out]; rfl, HBX.out⟩
  · have hwq : (wd == m) = false := by simpa using hwm
    rw [decide_eq_false hwm, Bool.false_and, Bool.true_and]
    go_enter Tryz.func67, Tryz.ntmps67
    go_wp2_with fail
    rw [← hW]
    clear hW
    refine wp_region_held_drew (S := fun W9 => (W9.cell? ⟨w.heap.size, 0, none⟩ = some (.string (str nm)) ∧ W9.cell? ⟨w.heap.size, 1, none⟩ = some (.int .u8 kd) ∧ W9.cell? ⟨w.heap.size, 2, none⟩ = some (.int .i64 n) ∧ W9.cell? ⟨w.heap.size, 3, none⟩ = some (.string (str tn)) ∧ W9.cell? ⟨w.heap.size, 4, none⟩ = some (.int .i64 wd) ∧ W9.cell? ⟨w.heap.size, 5, none⟩ = some (.slice A fs.length c))) (by kernel_rfl) (⟨c0, c1, c2, c3, c4, c5⟩) (fun hHeld => ?_)
    refine heldTake (i := 0) (d := some 4) (v := ?_) rfl rfl (by kernel_rfl) (by kernel_rfl) (by kernel_rfl) (fun _ _ _ h => h) (by kernel_rfl) ?hyq_15 (by assumption) ?restq_15
    case hyq_15 => (intro W9 hSw; (try dsimp only at hSw); go_simp; try (with_reducible rfl))
    (try simp only [Act.put, List.setIfInBounds_toArray, List.set_cons_zero, List.set_cons_succ])
    refine heldTake (i := 1) (d := some 5) (v := ?_) rfl rfl (by kernel_rfl) (by kernel_rfl) (by kernel_rfl) (fun _ _ _ h => h) (by kernel_rfl) ?hyq_16 (by assumption) ?restq_16
    case hyq_16 => (intro W9 hSw; (try dsimp only at hSw); go_simp; try (with_reducible rfl))
    (try simp only [Act.put, List.setIfInBounds_toArray, List.set_cons_zero, List.set_cons_succ])
    refine wpAnyH_ready (rs := [2]) (by kernel_rfl) (by simp) ?_
    refine AllReadyH.cons rfl (fun K hK => ?_) AllReadyH.nil
    go_simp
    go_at_call 41
    refine (isName_any nm _).mono ?_
    rintro e9 X ⟨rfl, rfl⟩
    go_wp2_with fail
    refine hK.out _ _ (by assumption) (fun hHeld => ?_)
    clear hK K
    (try simp only [Act.put, List.setIfInBounds_toArray, List.set_cons_zero, List.set_cons_succ])
    refine heldTake (i := 3) (d := some 7) (v := ?_) rfl rfl (by kernel_rfl) (by kernel_rfl) (by kernel_rfl) (fun _ _ _ h => h) (by kernel_rfl) ?hyq_17 (by assumption) ?restq_17
    case hyq_17 => (intro W9 hSw; (try dsimp only at hSw); go_simp; try (with_reducible rfl))
    (try simp only [Act.put, List.setIfInBounds_toArray, List.set_cons_zero, List.set_cons_succ])
    refine heldTake (i := 4) (d := some 8) (v := ?_) rfl rfl (by kernel_rfl) (by kernel_rfl) (by kernel_rfl) (fun _ _ _ h => h) (by kernel_rfl) ?hyq_18 (by assumption) ?restq_18
    case hyq_18 => (intro W9 hSw; (try dsimp only at hSw); go_simp; try (with_reducible rfl))
    (try simp only [Act.put, List.setIfInBounds_toArray, List.set_cons_zero, List.set_cons_succ])
    refine heldTake (i := 5) (d := some 9) (v := ?_) rfl rfl (by kernel_rfl) (by kernel_rfl) (by kernel_rfl) (fun _ _ _ h => h) (by kernel_rfl) ?hyq_19 (by assumption) ?restq_19
    case hyq_19 => (intro W9 hSw; (try dsimp only at hSw); go_simp; try (with_reducible rfl))
    (try simp only [Act.put, List.setIfInBounds_toArray, List.set_cons_zero, List.set_cons_succ])
    refine heldTake (i := 6) (d := some 10) (v := ?_) rfl rfl (by kernel_rfl) (by kernel_rfl) (by kernel_rfl) (fun _ _ _ h => h) (by kernel_rfl) ?hyq_20 (by assumption) ?restq_20
    case hyq_20 => (intro W9 hSw; (try dsimp only at hSw); go_simp; try (with_reducible rfl))
    (try simp only [Act.put, List.setIfInBounds_toArray, List.set_cons_zero, List.set_cons_succ])
    refine heldTake (i := 7) (d := some 11) (v := ?_) rfl rfl (by kernel_rfl) (by kernel_rfl) (by kernel_rfl) (fun _ _ _ h => h) (by kernel_rfl) ?hyq_21 (by assumption) ?restq_21
    case hyq_21 => (intro W9 hSw; (try dsimp only at hSw); go_simp; try (with_reducible rfl))
    (try simp only [Act.put, List.setIfInBounds_toArray, List.set_cons_zero, List.set_cons_succ])
    refine wpAnyH_ready (rs := [8]) (by kernel_rfl) (by simp) ?_
    refine AllReadyH.cons rfl (fun K hK => ?_) AllReadyH.nil
    go_simp
    go_at_call 63
    refine (words_any ⟨⟨nm, kd, n, tn, wd, fs⟩, A, c⟩ _).mono ?_
    rintro e9 X ⟨rfl, hbX⟩
    dsimp only
    rw [HM.out]
    have hbX := below_of_drew hbX
    have hSX : (X.cell? ⟨w.heap.size, 0, none⟩ = some (.string (str nm)) ∧ X.cell? ⟨w.heap.size, 1, none⟩ = some (.int .u8 kd) ∧ X.cell? ⟨w.heap.size, 2, none⟩ = some (.int .i64 n) ∧ X.cell? ⟨w.heap.size, 3, none⟩ = some (.string (str tn)) ∧ X.cell? ⟨w.heap.size, 4, none⟩ = some (.int .i64 wd) ∧ X.cell? ⟨w.heap.size, 5, none⟩ = some (.slice A fs.length c)) := ⟨(hbX.cell (p := ⟨w.heap.size, 0, none⟩) hz).trans c0, (hbX.cell (p := ⟨w.heap.size, 1, none⟩) hz).trans c1, (hbX.cell (p := ⟨w.heap.size, 2, none⟩) hz).trans c2, (hbX.cell (p := ⟨w.heap.size, 3, none⟩) hz).trans c3, (hbX.cell (p := ⟨w.heap.size, 4, none⟩) hz).trans c4, (hbX.cell (p := ⟨w.heap.size, 5, none⟩) hz).trans c5⟩
    have HBX := Lib.hid (HB.out.trans (hbX.mono (by omega)))
    go_wp2_with fail
    refine hK.out _ _ hSX (fun hHeld => ?_)
    clear hK K
    (try simp only [Act.put, List.setIfInBounds_toArray, List.set_cons_zero, List.set_cons_succ])
    refine heldTake (i := 9) (d := some 13) (v := ?_) rfl rfl (by kernel_rfl) (by kernel_rfl) (by kernel_rfl) (fun _ _ _ h => h) (by kernel_rfl) ?hyq_22 (by assumption) ?restq_22
    case hyq_22 => (intro W9 hSw; (try dsimp only at hSw); go_simp; try (with_reducible rfl))
    (try simp only [Act.put, List.setIfInBounds_toArray, List.set_cons_zero, List.set_cons_succ])
    refine heldTake (i := 10) (d := some 14) (v := ?_) rfl rfl (by kernel_rfl) (by kernel_rfl) (by kernel_rfl) (fun _ _ _ h => h) (by kernel_rfl) ?hyq_23 (by assumption) ?restq_23
    case hyq_23 => (intro W9 hSw; (try dsimp only at hSw); go_simp; try (with_reducible rfl))
    (try simp only [Act.put, List.setIfInBounds_toArray, List.set_cons_zero, List.set_cons_succ])
    refine wpAnyH_done (by kernel_rfl) ?_ _
    go_wp2_with fail
    go_ret
    exact ⟨rfl, HBX.out⟩
end Go.Proofs.YtbkfkdiadeaooaaGreat
