/-
  Merged for a claim: T9W.
-/
import Derived.BigQuiet
import Derived.Test.YtbkfkdiadeaooaaGreatHJ20
import Derived.Test.YtbkfkdiadeaooaaGreatHJ17
namespace Go.Proofs.YtbkfkdiadeaooaaGreat
open Go Go.RowKit

theorem grown_drewN (w : World) (n : Nat) (r : Option Nat) : w.grownBy (w.drewN n) r := ⟨rfl, rfl, rfl, Nat.le_refl _, fun _ _ _ => rfl⟩
def DkP (w : World) (gr : Nat) (A : Option Addr) (c : Nat) (b : List UInt8) (xs : List Sp) (s : RS) (e : Ending) (w' : World) : Prop := ∃ v, e = .returned v ∧ SpOwn w' w.heap.size v xs ∧ DdAt w' gr A c b s ∧ w.grownBy w' (some gr)

set_option maxRecDepth 100000 in
set_option maxHeartbeats 4000000 in
theorem dtext_no (gr : Nat) (A : Option Addr) (c : Nat) (b : List UInt8) (at_ : Int) (w : World) (hc : b.length ≤ c) (hbn : b.length ≤ 1099511627776) (hl : Lies w gr A b) (hr : DdAt w gr A c b ⟨at_, true⟩) :
    Calls Tryz.prog 22 #[.pointer (some ⟨gr, 0, none⟩)] w (DkR w gr A c b (.string (str (txX b ⟨at_, true⟩))) (txT b ⟨at_, true⟩)) := by
  have c0 := hr.b0
  have c1 := hr.a1
  have c2 := hr.n2
  have HR := Lib.hid hr
  have hcon := refText_any A c b at_ w.drew gr hc hbn hl
  obtain ⟨e1, e2⟩ := tx_no (b := b) (s := ⟨at_, true⟩) rfl
  rw [e1, e2]
  clear e1 e2
  dsimp only at c1 c2
  clear hr hl
  generalize txE b at_ = E at *
  generalize txN b at_ = N at *
  generalize txS b at_ = T0 at *
  have HCON := Lib.hid hcon
  clear hcon
  go_enter Tryz.func22, Tryz.ntmps22
  go_wp2
  refine wp_region_held_drew (S := fun W9 => (W9.cell? ⟨gr, 0, none⟩ = some (.slice A b.length c) ∧ W9.cell? ⟨gr, 1, none⟩ = some (.int .i64 at_) ∧ W9.cell? ⟨gr, 2, none⟩ = some (.bool true))) (by kernel_rfl) (⟨c0, c1, c2⟩) (fun hHeld => ?_)
  refine heldTake (i := 0) (d := some 7) (v := ?_) rfl rfl (by kernel_rfl) (by kernel_rfl) (by kernel_rfl) (fun _ _ _ h => h) (by kernel_rfl) ?hyq_1 (by assumption) ?restq_1
  case hyq_1 => (intro W9 hSw; (try dsimp only at hSw); go_simp; try (with_reducible rfl))
  (try simp only [Act.put, List.setIfInBounds_toArray, List.set_cons_zero, List.set_cons_succ])
  refine heldTake (i := 1) (d := some 8) (v := ?_) rfl rfl (by kernel_rfl) (by kernel_rfl) (by kernel_rfl) (fun _ _ _ h => h) (by kernel_rfl) ?hyq_2 (by assumption) ?restq_2
  case hyq_2 => (intro W9 hSw; (try dsimp only at hSw); go_simp; try (with_reducible rfl))
  (try simp only [Act.put, List.setIfInBounds_toArray, List.set_cons_zero, List.set_cons_succ])
  refine heldTake (i := 2) (d := some 9) (v := ?_) rfl rfl (by kernel_rfl) (by kernel_rfl) (by kernel_rfl) (fun _ _ _ h => h) (by kernel_rfl) ?hyq_3 (by assumption) ?restq_3
  case hyq_3 => (intro W9 hSw; (try dsimp only at hSw); go_simp; try (with_reducible rfl))
  (try simp only [Act.put, List.setIfInBounds_toArray, List.set_cons_zero, List.set_cons_succ])
  refine heldTake (i := 3) (d := some 10) (v := ?_) rfl rfl (by kernel_rfl) (by kernel_rfl) (by kernel_rfl) (fun _ _ _ h => h) (by kernel_rfl) ?hyq_4 (by assumption) ?restq_4
  case hyq_4 => (intro W9 hSw; (try dsimp only at hSw); go_simp; try (with_reducible rfl))
  (try simp only [Act.put, List.setIfInBounds_toArray, List.set_cons_zero, List.set_cons_succ])
  refine heldTake (i := 4) (d := some 11) (v := ?_) rfl rfl (by kernel_rfl) (by kernel_rfl) (by kernel_rfl) (fun _ _ _ h => h) (by kernel_rfl) ?hyq_5 (by assumption) ?restq_5
  case hyq_5 => (intro W9 hSw; (try dsimp only at hSw); go_simp; try (with_reducible rfl))
  (try simp only [Act.put, List.setIfInBounds_toArray, List.set_cons_zero, List.set_cons_succ])
  refine heldTake (i := 5) (d := some 12) (v := ?_) rfl rfl (by kernel_rfl) (by kernel_rfl) (by kernel_rfl) (fun _ _ _ h => h) (by kernel_rfl) ?hyq_6 (by assumption) ?restq_6
  case hyq_6 => (intro W9 hSw; (try dsimp only at hSw); go_simp; try (with_reducible rfl))
  (try simp only [Act.put, List.setIfInBounds_toArray, List.set_cons_zero, List.set_cons_succ])
  refine heldTake (i := 6) (d := some 13) (v := ?_) rfl rfl (by kernel_rfl) (by kernel_rfl) (by kernel_rfl) (fun _ _ _ h => h) (by kernel_rfl) ?hyq_7 (by assumption) ?restq_7
  case hyq_7 => (intro W9 hSw; (try dsimp only at hSw); go_simp; try (with_reducible rfl))
  (try simp only [Act.put, List.setIfInBounds_toArray, List.set_cons_zero, List.set_cons_succ])
  refine heldTake (i := 7) (d := some 14) (v := ?_) rfl rfl (by kernel_rfl) (by kernel_rfl) (by kernel_rfl) (fun _ _ _ h => h) (by kernel_rfl) ?hyq_8 (by assumption) ?restq_8
  case hyq_8 => (intro W9 hSw; (try dsimp only at hSw); go_simp; try (with_reducible rfl))
  (try simp only [Act.put, List.setIfInBounds_toArray, List.set_cons_zero, List.set_cons_succ])
  refine wpAnyH_ready (rs := [8]) (by kernel_rfl) (by simp) ?_
  refine AllReadyH.cons rfl (fun K hK => ?_) AllReadyH.nil
  go_simp
  go_at_call 45
  refine HCON.out.mono ?_
  rintro e9 X ⟨rfl, rfl⟩
  go_wp2_with fail
  refine hK.out _ _ (by assumption) (fun hHeld => ?_)
  clear hK K
  (try simp only [Act.put, List.setIfInBounds_toArray, List.set_cons_zero, List.set_cons_succ])
  refine heldTake (i := 9) (d := some 6) (v := ?_) rfl rfl (by kernel_rfl) (by kernel_rfl) (by kernel_rfl) (fun _ _ _ h => h) (by kernel_rfl) ?hyq_9 (by assumption) ?restq_9
  case hyq_9 => (intro W9 hSw; (try dsimp only at hSw); go_simp; try (with_reducible rfl))
  (try simp only [Act.put, List.setIfInBounds_toArray, List.set_cons_zero, List.set_cons_succ])
  refine heldTake (i := 10) (d := some 16) (v := ?_) rfl rfl (by kernel_rfl) (by kernel_rfl) (by kernel_rfl) (fun _ _ _ h => h) (by kernel_rfl) ?hyq_10 (by assumption) ?restq_10
  case hyq_10 => (intro W9 hSw; (try dsimp only at hSw); go_simp; try (with_reducible rfl))
  (try simp only [Act.put, List.setIfInBounds_toArray, List.set_cons_zero, List.set_cons_succ])
  refine heldTake (i := 11) (d := some 17) (v := ?_) rfl rfl (by kernel_rfl) (by kernel_rfl) (by kernel_rfl) (fun _ _ _ h => h) (by kernel_rfl) ?hyq_11 (by assumption) ?restq_11
  case hyq_11 => (intro W9 hSw; (try dsimp only at hSw); go_simp; try (with_reducible rfl))
  (try simp only [Act.put, List.setIfInBounds_toArray, List.set_cons_zero, List.set_cons_succ])
  refine heldTake (i := 12) (d := some 18) (v := ?_) rfl rfl (by kernel_rfl) (by kernel_rfl) (by kernel_rfl) (fun _ _ _ h => h) (by kernel_rfl) ?hyq_12 (by assumption) ?restq_12
  case hyq_12 => (intro W9 hSw; (try dsimp only at hSw); go_simp; try (with_reducible rfl))
  (try simp only [Act.put, List.setIfInBounds_toArray, List.set_cons_zero, List.set_cons_succ])
  refine heldTake (i := 13) (d := some 3) (v := ?_) rfl rfl (by kernel_rfl) (by kernel_rfl) (by kernel_rfl) (fun _ _ _ h => h) (by kernel_rfl) ?hyq_13 (by assumption) ?restq_13
  case hyq_13 => (intro W9 hSw; (try dsimp only at hSw); go_simp; try (with_reducible rfl))
  (try simp only [Act.put, List.setIfInBounds_toArray, List.set_cons_zero, List.set_cons_succ])
  refine heldTake (i := 14) (d := some 4) (v := ?_) rfl rfl (by kernel_rfl) (by kernel_rfl) (by kernel_rfl) (fun _ _ _ h => h) (by kernel_rfl) ?hyq_14 (by assumption) ?restq_14
  case hyq_14 => (intro W9 hSw; (try dsimp only at hSw); go_simp; try (with_reducible rfl))
  (try simp only [Act.put, List.setIfInBounds_toArray, List.set_cons_zero, List.set_cons_succ])
  refine heldTake (i := 15) (d := some 5) (v := ?_) rfl rfl (by kernel_rfl) (by kernel_rfl) (by kernel_rfl) (fun _ _ _ h => h) (by kernel_rfl) ?hyq_15 (by assumption) ?restq_15
  case hyq_15 => (intro W9 hSw; (try dsimp only at hSw); go_simp; try (with_reducible rfl))
  (try simp only [Act.put, List.setIfInBounds_toArray, List.set_cons_zero, List.set_cons_succ])
  refine wpAnyH_done (by kernel_rfl) ?_ _
  obtain ⟨x0, x1, x2⟩ := hHeld
  have HX := Lib.hid (show DdAt w.drew gr A c b ⟨at_, true⟩ from HR.out)
  have f1 := HX.out.frozen 1
  have f2 := HX.out.frozen 2
  have HY : Hid (DdAt _ gr A c b ⟨at_, true⟩) := Lib.hid (HX.out.setN true)
  go_wp2
  go_ret
  exact ⟨rfl, HY.out, grown_trans (grown_drew _ _) (grown_set _ _ _ _)⟩

set_option maxRecDepth 100000 in
set_option maxHeartbeats 4000000 in
theorem dtext_ok (gr : Nat) (A : Option Addr) (c : Nat) (b : List UInt8) (at_ : Int) (w : World) (hc : b.length ≤ c) (hbn : b.length ≤ 1099511627776) (hl : Lies w gr A b) (hr : DdAt w gr A c b ⟨at_, false⟩) :
    Calls Tryz.prog 22 #[.pointer (some ⟨gr, 0, none⟩)] w (DkR w gr A c b (.string (str (txX b ⟨at_, false⟩))) (txT b ⟨at_, false⟩)) := by
  have c0 := hr.b0
  have c1 := hr.a1
  have c2 := hr.n2
  have HR := Lib.hid hr
  have hcon := refText_any A c b at_ w.drew gr hc hbn hl
  have hX : txX b ⟨at_, false⟩ = (if txE b at_ = 0 then txS b at_ else []) := rfl
  have hS : txT b ⟨at_, false⟩ = tkS (txE b at_) (txN b at_) at_ := rfl
  rw [hX, hS]
  clear hX hS
  dsimp only at c1 c2
  clear hr hl
  generalize txE b at_ = E at *
  generalize txN b at_ = N at *
  generalize txS b at_ = T0 at *
  have HCON := Lib.hid hcon
  clear hcon
  obtain ⟨V, hV⟩ : ∃ V, (if E = 0 then T0 else []) = V := ⟨_, rfl⟩
  obtain ⟨S9, hS9⟩ : ∃ S9, tkS E N at_ = S9 := ⟨_, rfl⟩
  rw [hV, hS9]
  have HV := Lib.hid hV
  have HS9 := Lib.hid hS9
  clear hV hS9
  go_enter Tryz.func22, Tryz.ntmps22
  go_wp2
  refine wp_region_held_drew (S := fun W9 => (W9.cell? ⟨gr, 0, none⟩ = some (.slice A b.length c) ∧ W9.cell? ⟨gr, 1, none⟩ = some (.int .i64 at_) ∧ W9.cell? ⟨gr, 2, none⟩ = some (.bool false))) (by kernel_rfl) (⟨c0, c1, c2⟩) (fun hHeld => ?_)
  refine heldTake (i := 0) (d := some 7) (v := ?_) rfl rfl (by kernel_rfl) (by kernel_rfl) (by kernel_rfl) (fun _ _ _ h => h) (by kernel_rfl) ?hyq_16 (by assumption) ?restq_16
  case hyq_16 => (intro W9 hSw; (try dsimp only at hSw); go_simp; try (with_reducible rfl))
  (try simp only [Act.put, List.setIfInBounds_toArray, List.set_cons_zero, List.set_cons_succ])
  refine heldTake (i := 1) (d := some 8) (v := ?_) rfl rfl (by kernel_rfl) (by kernel_rfl) (by kernel_rfl) (fun _ _ _ h => h) (by kernel_rfl) ?hyq_17 (by assumption) ?restq_17
  case hyq_17 => (intro W9 hSw; (try dsimp only at hSw); go_simp; try (with_reducible rfl))
  (try simp only [Act.put, List.setIfInBounds_toArray, List.set_cons_zero, List.set_cons_succ])
  refine heldTake (i := 2) (d := some 9) (v := ?_) rfl rfl (by kernel_rfl) (by kernel_rfl) (by kernel_rfl) (fun _ _ _ h => h) (by kernel_rfl) ?hyq_18 (by assumption) ?restq_18
  case hyq_18 => (intro W9 hSw; (try dsimp only at hSw); go_simp; try (with_reducible rfl))
  (try simp only [Act.put, List.setIfInBounds_toArray, List.set_cons_zero, List.set_cons_succ])
  refine heldTake (i := 3) (d := some 10) (v := ?_) rfl rfl (by kernel_rfl) (by kernel_rfl) (by kernel_rfl) (fun _ _ _ h => h) (by kernel_rfl) ?hyq_19 (by assumption) ?restq_19
  case hyq_19 => (intro W9 hSw; (try dsimp only at hSw); go_simp; try (with_reducible rfl))
  (try simp only [Act.put, List.setIfInBounds_toArray, List.set_cons_zero, List.set_cons_succ])
  refine heldTake (i := 4) (d := some 11) (v := ?_) rfl rfl (by kernel_rfl) (by kernel_rfl) (by kernel_rfl) (fun _ _ _ h => h) (by kernel_rfl) ?hyq_20 (by assumption) ?restq_20
  case hyq_20 => (intro W9 hSw; (try dsimp only at hSw); go_simp; try (with_reducible rfl))
  (try simp only [Act.put, List.setIfInBounds_toArray, List.set_cons_zero, List.set_cons_succ])
  refine heldTake (i := 5) (d := some 12) (v := ?_) rfl rfl (by kernel_rfl) (by kernel_rfl) (by kernel_rfl) (fun _ _ _ h => h) (by kernel_rfl) ?hyq_21 (by assumption) ?restq_21
  case hyq_21 => (intro W9 hSw; (try dsimp only at hSw); go_simp; try (with_reducible rfl))
  (try simp only [Act.put, List.setIfInBounds_toArray, List.set_cons_zero, List.set_cons_succ])
  refine heldTake (i := 6) (d := some 13) (v := ?_) rfl rfl (by kernel_rfl) (by kernel_rfl) (by kernel_rfl) (fun _ _ _ h => h) (by kernel_rfl) ?hyq_22 (by assumption) ?restq_22
  case hyq_22 => (intro W9 hSw; (try dsimp only at hSw); go_simp; try (with_reducible rfl))
  (try simp only [Act.put, List.setIfInBounds_toArray, List.set_cons_zero, List.set_cons_succ])
  refine heldTake (i := 7) (d := some 14) (v := ?_) rfl rfl (by kernel_rfl) (by kernel_rfl) (by kernel_rfl) (fun _ _ _ h => h) (by kernel_rfl) ?hyq_23 (by assumption) ?restq_23
  case hyq_23 => (intro W9 hSw; (try dsimp only at hSw); go_simp; try (with_reducible rfl))
  (try simp only [Act.put, List.setIfInBounds_toArray, List.set_cons_zero, List.set_cons_succ])
  refine wpAnyH_ready (rs := [8]) (by kernel_rfl) (by simp) ?_
  refine AllReadyH.cons rfl (fun K hK => ?_) AllReadyH.nil
  go_simp
  go_at_call 45
  refine HCON.out.mono ?_
  rintro e9 X ⟨rfl, rfl⟩
  go_wp2_with fail
  refine hK.out _ _ (by assumption) (fun hHeld => ?_)
  clear hK K
  (try simp only [Act.put, List.setIfInBounds_toArray, List.set_cons_zero, List.set_cons_succ])
  refine heldTake (i := 9) (d := some 6) (v := ?_) rfl rfl (by kernel_rfl) (by kernel_rfl) (by kernel_rfl) (fun _ _ _ h => h) (by kernel_rfl) ?hyq_24 (by assumption) ?restq_24
  case hyq_24 => (intro W9 hSw; (try dsimp only at hSw); go_simp; try (with_reducible rfl))
  (try simp only [Act.put, List.setIfInBounds_toArray, List.set_cons_zero, List.set_cons_succ])
  refine heldTake (i := 10) (d := some 16) (v := ?_) rfl rfl (by kernel_rfl) (by kernel_rfl) (by kernel_rfl) (fun _ _ _ h => h) (by kernel_rfl) ?hyq_25 (by assumption) ?restq_25
  case hyq_25 => (intro W9 hSw; (try dsimp only at hSw); go_simp; try (with_reducible rfl))
  (try simp only [Act.put, List.setIfInBounds_toArray, List.set_cons_zero, List.set_cons_succ])
  refine heldTake (i := 11) (d := some 17) (v := ?_) rfl rfl (by kernel_rfl) (by kernel_rfl) (by kernel_rfl) (fun _ _ _ h => h) (by kernel_rfl) ?hyq_26 (by assumption) ?restq_26
  case hyq_26 => (intro W9 hSw; (try dsimp only at hSw); go_simp; try (with_reducible rfl))
  (try simp only [Act.put, List.setIfInBounds_toArray, List.set_cons_zero, List.set_cons_succ])
  refine heldTake (i := 12) (d := some 18) (v := ?_) rfl rfl (by kernel_rfl) (by kernel_rfl) (by kernel_rfl) (fun _ _ _ h => h) (by kernel_rfl) ?hyq_27 (by assumption) ?restq_27
  case hyq_27 => (intro W9 hSw; (try dsimp only at hSw); go_simp; try (with_reducible rfl))
  (try simp only [Act.put, List.setIfInBounds_toArray, List.set_cons_zero, List.set_cons_succ])
  refine heldTake (i := 13) (d := some 3) (v := ?_) rfl rfl (by kernel_rfl) (by kernel_rfl) (by kernel_rfl) (fun _ _ _ h => h) (by kernel_rfl) ?hyq_28 (by assumption) ?restq_28
  case hyq_28 => (intro W9 hSw; (try dsimp only at hSw); go_simp; try (with_reducible rfl))
  (try simp only [Act.put, List.setIfInBounds_toArray, List.set_cons_zero, List.set_cons_succ])
  refine heldTake (i := 14) (d := some 4) (v := ?_) rfl rfl (by kernel_rfl) (by kernel_rfl) (by kernel_rfl) (fun _ _ _ h => h) (by kernel_rfl) ?hyq_29 (by assumption) ?restq_29
  case hyq_29 => (intro W9 hSw; (try dsimp only at hSw); go_simp; try (with_reducible rfl))
  (try simp only [Act.put, List.setIfInBounds_toArray, List.set_cons_zero, List.set_cons_succ])
  refine heldTake (i := 15) (d := some 5) (v := ?_) rfl rfl (by kernel_rfl) (by kernel_rfl) (by kernel_rfl) (fun _ _ _ h => h) (by kernel_rfl) ?hyq_30 (by assumption) ?restq_30
  case hyq_30 => (intro W9 hSw; (try dsimp only at hSw); go_simp; try (with_reducible rfl))
  (try simp only [Act.put, List.setIfInBounds_toArray, List.set_cons_zero, List.set_cons_succ])
  refine wpAnyH_done (by kernel_rfl) ?_ _
  obtain ⟨x0, x1, x2⟩ := hHeld
  have HX := Lib.hid (show DdAt w.drew gr A c b ⟨at_, false⟩ from HR.out)
  have f1 := HX.out.frozen 1
  have f2 := HX.out.frozen 2
  by_cases hE : E = 0
  · subst hE
    have e1 : V = T0 := by rw [← HV.out, if_pos rfl]
    have e2 : S9 = ⟨N, false⟩ := by rw [← HS9.out]; unfold tkS; rw [if_pos rfl]
    subst e1 e2
    have HY := Lib.hid (HX.out.setA N)
    clear HV HS9
    go_wp2
    go_ret
    exact ⟨rfl, HY.out, grown_trans (grown_drew _ _) (grown_set _ _ _ _)⟩
  · have e1 : V = [] := by rw [← HV.out, if_neg hE]
    have e2 : S9 = ⟨at_, true⟩ := by rw [← HS9.out]; unfold tkS; rw [if_neg hE]
    subst e1 e2
    have hEb : (E != 0) = true := bne_iff_ne.2 hE
    have HY := Lib.hid (HX.out.setN true)
    clear HV HS9
    go_wp2
    go_ret
    exact ⟨rfl, HY.out, grown_trans (grown_drew _ _) (grown_set _ _ _ _)⟩
theorem dtext_any (gr : Nat) (A : Option Addr) (c : Nat) (b : List UInt8) (s : RS) (w : World) (hc : b.length ≤ c) (hbn : b.length ≤ 1099511627776) (hl : Lies w gr A b) (hr : DdAt w gr A c b s) :
    Calls Tryz.prog 22 #[.pointer (some ⟨gr, 0, none⟩)] w (DkR w gr A c b (.string (str (txX b s))) (txT b s)) := by
  obtain ⟨at_, no⟩ := s
  cases no
  · exact dtext_ok gr A c b at_ w hc hbn hl hr
  · exact dtext_no gr A c b at_ w hc hbn hl hr

set_option maxRecDepth 100000 in
set_option maxHeartbeats 4000000 in
theorem dspans_any (gr : Nat) (A : Option Addr) (c : Nat) (b : List UInt8) (s : RS) (w : World) (hbn : b.length ≤ 1099511627776) (hl : Lies w gr A b) (hr : DdAt w gr A c b s) :
    Calls Tryz.prog 24 #[.pointer (some ⟨gr, 0, none⟩)] w (DkP w gr A c b (spX b s) (spS b s)) := by
  obtain ⟨at_, no⟩ := s
  cases no with
  | true =>
    obtain ⟨e1, e2⟩ := sp_no (b := b) (s := ⟨at_, true⟩) rfl
    rw [e1, e2]
    have c2 := hr.n2
    have HR := Lib.hid hr
    dsimp only at c2
    clear hr hl e1 e2
    go_enter Tryz.func24, Tryz.ntmps24
    go_wp2
    go_ret
    exact ⟨_, rfl, SpOwn.nil _ _, HR.out, World.grownBy.refl _ _⟩
  | false =>
    have c0 := hr.b0
    have c1 := hr.a1
    have c2 := hr.n2
    have hlt := hr.lt
    have HR := Lib.hid hr
    have hcon := refGet7_any A c b at_ w.drew hbn (show Lies w w.heap.size A b from hl.more (Nat.le_of_lt hlt))
    unfold GetR7 at hcon
    have hX : spX b ⟨at_, false⟩ = gsL b at_ := rfl
    have hS : spS b ⟨at_, false⟩ = tkS (gsE b at_) (gsN b at_) at_ := rfl
    have hbad := gsL_bad (b := b) (i := at_)
    rw [hX, hS]
    dsimp only at c1 c2
    clear hr hl hX hS
    generalize gsE b at_ = E at *
    generalize gsN b at_ = N at *
    generalize gsL b at_ = T0 at *
    have HCON := Lib.hid hcon
    have HBAD := Lib.hid hbad
    obtain ⟨S9, hS9⟩ : ∃ S9, tkS E N at_ = S9 := ⟨_, rfl⟩
    rw [hS9]
    have HS9 := Lib.hid hS9
    clear hcon hS9 hbad
    go_enter Tryz.func24, Tryz.ntmps24
    go_wp2
    refine wp_region_held_drew (S := fun W9 => (W9.cell? ⟨gr, 0, none⟩ = some (.slice A b.length c) ∧ W9.cell? ⟨gr, 1, none⟩ = some (.int .i64 at_) ∧ W9.cell? ⟨gr, 2, none⟩ = some (.bool false))) (by kernel_rfl) (⟨c0, c1, c2⟩) (fun hHeld => ?_)
    refine heldTake (i := 0) (d := some 11) (v := ?_) rfl rfl (by kernel_rfl) (by kernel_rfl) (by kernel_rfl) (fun _ _ _ h => h) (by kernel_rfl) ?hyq_31 (by assumption) ?restq_31
    case hyq_31 => (intro W9 hSw; (try dsimp only at hSw); go_simp; try (with_reducible rfl))
    (try simp only [Act.put, List.setIfInBounds_toArray, List.set_cons_zero, List.set_cons_succ])
    refine heldTake (i := 1) (d := some 12) (v := ?_) rfl rfl (by kernel_rfl) (by kernel_rfl) (by kernel_rfl) (fun _ _ _ h => h) (by kernel_rfl) ?hyq_32 (by assumption) ?restq_32
    case hyq_32 => (intro W9 hSw; (try dsimp only at hSw); go_simp; try (with_reducible rfl))
    (try simp only [Act.put, List.setIfInBounds_toArray, List.set_cons_zero, List.set_cons_succ])
    refine heldTake (i := 2) (d := some 13) (v := ?_) rfl rfl (by kernel_rfl) (by kernel_rfl) (by kernel_rfl) (fun _ _ _ h => h) (by kernel_rfl) ?hyq_33 (by assumption) ?restq_33
    case hyq_33 => (intro W9 hSw; (try dsimp only at hSw); go_simp; try (with_reducible rfl))
    (try simp only [Act.put, List.setIfInBounds_toArray, List.set_cons_zero, List.set_cons_succ])
    refine heldTake (i := 3) (d := some 14) (v := ?_) rfl rfl (by kernel_rfl) (by kernel_rfl) (by kernel_rfl) (fun _ _ _ h => h) (by kernel_rfl) ?hyq_34 (by assumption) ?restq_34
    case hyq_34 => (intro W9 hSw; (try dsimp only at hSw); go_simp; try (with_reducible rfl))
    (try simp only [Act.put, List.setIfInBounds_toArray, List.set_cons_zero, List.set_cons_succ])
    refine heldTake (i := 4) (d := some 15) (v := ?_) rfl rfl (by kernel_rfl) (by kernel_rfl) (by kernel_rfl) (fun _ _ _ h => h) (by kernel_rfl) ?hyq_35 (by assumption) ?restq_35
    case hyq_35 => (intro W9 hSw; (try dsimp only at hSw); go_simp; try (with_reducible rfl))
    (try simp only [Act.put, List.setIfInBounds_toArray, List.set_cons_zero, List.set_cons_succ])
    refine heldTake (i := 5) (d := some 16) (v := ?_) rfl rfl (by kernel_rfl) (by kernel_rfl) (by kernel_rfl) (fun _ _ _ h => h) (by kernel_rfl) ?hyq_36 (by assumption) ?restq_36
    case hyq_36 => (intro W9 hSw; (try dsimp only at hSw); go_simp; try (with_reducible rfl))
    (try simp only [Act.put, List.setIfInBounds_toArray, List.set_cons_zero, List.set_cons_succ])
    refine heldTake (i := 6) (d := some 17) (v := ?_) rfl rfl (by kernel_rfl) (by kernel_rfl) (by kernel_rfl) (fun _ _ _ h => h) (by kernel_rfl) ?hyq_37 (by assumption) ?restq_37
    case hyq_37 => (intro W9 hSw; (try dsimp only at hSw); go_simp; try (with_reducible rfl))
    (try simp only [Act.put, List.setIfInBounds_toArray, List.set_cons_zero, List.set_cons_succ])
    refine heldTake (i := 7) (d := some 18) (v := ?_) rfl rfl (by kernel_rfl) (by kernel_rfl) (by kernel_rfl) (fun _ _ _ h => h) (by kernel_rfl) ?hyq_38 (by assumption) ?restq_38
    case hyq_38 => (intro W9 hSw; (try dsimp only at hSw); go_simp; try (with_reducible rfl))
    (try simp only [Act.put, List.setIfInBounds_toArray, List.set_cons_zero, List.set_cons_succ])
    refine wpAnyH_ready (rs := [8]) (by kernel_rfl) (by simp) ?_
    refine AllReadyH.cons rfl (fun K hK => ?_) AllReadyH.nil
    go_simp
    go_at_call 47
    refine HCON.out.mono ?_
    rintro e9 X ⟨vX, rfl, hoX, hbX⟩
    have hbX : Below w.heap.size w X := below_of_drew hbX
    have HOX := Lib.hid hoX
    have HX := Lib.hid (HR.out.below hbX hlt)
    have hSX : (X.cell? ⟨gr, 0, none⟩ = some (.slice A b.length c) ∧ X.cell? ⟨gr, 1, none⟩ = some (.int .i64 at_) ∧ X.cell? ⟨gr, 2, none⟩ = some (.bool false)) := ⟨HX.out.b0, HX.out.a1, HX.out.n2⟩
    have HGX := Lib.hid (grown_below hbX (some gr))
    clear hoX
    go_wp2_with fail
    refine hK.out _ _ hSX (fun hHeld => ?_)
    clear hK K
    (try simp only [Act.put, List.setIfInBounds_toArray, List.set_cons_zero, List.set_cons_succ])
    refine heldTake (i := 9) (d := some 10) (v := ?_) rfl rfl (by kernel_rfl) (by kernel_rfl) (by kernel_rfl) (fun _ _ _ h => h) (by kernel_rfl) ?hyq_39 (by assumption) ?restq_39
    case hyq_39 => (intro W9 hSw; (try dsimp only at hSw); go_simp; try (with_reducible rfl))
    (try simp only [Act.put, List.setIfInBounds_toArray, List.set_cons_zero, List.set_cons_succ])
    refine heldTake (i := 10) (d := some 20) (v := ?_) rfl rfl (by kernel_rfl) (by kernel_rfl) (by kernel_rfl) (fun _ _ _ h => h) (by kernel_rfl) ?hyq_40 (by assumption) ?restq_40
    case hyq_40 => (intro W9 hSw; (try dsimp only at hSw); go_simp; try (with_reducible rfl))
    (try simp only [Act.put, List.setIfInBounds_toArray, List.set_cons_zero, List.set_cons_succ])
    refine heldTake (i := 11) (d := some 21) (v := ?_) rfl rfl (by kernel_rfl) (by kernel_rfl) (by kernel_rfl) (fun _ _ _ h => h) (by kernel_rfl) ?hyq_41 (by assumption) ?restq_41
    case hyq_41 => (intro W9 hSw; (try dsimp only at hSw); go_simp; try (with_reducible rfl))
    (try simp only [Act.put, List.setIfInBounds_toArray, List.set_cons_zero, List.set_cons_succ])
    refine heldTake (i := 12) (d := some 22) (v := ?_) rfl rfl (by kernel_rfl) (by kernel_rfl) (by kernel_rfl) (fun _ _ _ h => h) (by kernel_rfl) ?hyq_42 (by assumption) ?restq_42
    case hyq_42 => (intro W9 hSw; (try dsimp only at hSw); go_simp; try (with_reducible rfl))
    (try simp only [Act.put, List.setIfInBounds_toArray, List.set_cons_zero, List.set_cons_succ])
    refine heldTake (i := 13) (d := some 3) (v := ?_) rfl rfl (by kernel_rfl) (by kernel_rfl) (by kernel_rfl) (fun _ _ _ h => h) (by kernel_rfl) ?hyq_43 (by assumption) ?restq_43
    case hyq_43 => (intro W9 hSw; (try dsimp only at hSw); go_simp; try (with_reducible rfl))
    (try simp only [Act.put, List.setIfInBounds_toArray, List.set_cons_zero, List.set_cons_succ])
    refine heldTake (i := 14) (d := some 4) (v := ?_) rfl rfl (by kernel_rfl) (by kernel_rfl) (by kernel_rfl) (fun _ _ _ h => h) (by kernel_rfl) ?hyq_44 (by assumption) ?restq_44
    case hyq_44 => (intro W9 hSw; (try dsimp only at hSw); go_simp; try (with_reducible rfl))
    (try simp only [Act.put, List.setIfInBounds_toArray, List.set_cons_zero, List.set_cons_succ])
    refine heldTake (i := 15) (d := some 5) (v := ?_) rfl rfl (by kernel_rfl) (by kernel_rfl) (by kernel_rfl) (fun _ _ _ h => h) (by kernel_rfl) ?hyq_45 (by assumption) ?restq_45
    case hyq_45 => (intro W9 hSw; (try dsimp only at hSw); go_simp; try (with_reducible rfl))
    (try simp only [Act.put, List.setIfInBounds_toArray, List.set_cons_zero, List.set_cons_succ])
    refine wpAnyH_done (by kernel_rfl) ?_ _
    have f1 := HX.out.frozen 1
    have f2 := HX.out.frozen 2
    obtain ⟨x0, x1, x2⟩ := hSX
    by_cases hE : E = 0
    · subst hE
      have e2 : S9 = ⟨N, false⟩ := by rw [← HS9.out]; unfold tkS; rw [if_pos rfl]
      subst e2
      have HY := Lib.hid (HX.out.setA N)
      have HOY := Lib.hid (HOX.out.set (p := ⟨gr, 1, none⟩) (.int .i64 N) hlt)
      clear HS9
      go_wp2
      go_ret
      exact ⟨_, rfl, HOY.out, HY.out, grown_trans HGX.out (grown_set _ _ _ _)⟩
    · have e2 : S9 = ⟨at_, true⟩ := by rw [← HS9.out]; unfold tkS; rw [if_neg hE]
      have e1 : T0 = [] := HBAD.out hE
      subst e1 e2
      have hEb : (E != 0) = true := bne_iff_ne.2 hE
      have HY := Lib.hid (HX.out.setN true)
      clear HS9
      go_wp2
      go_ret
      exact ⟨_, rfl, SpOwn.nil _ _, HY.out, grown_trans HGX.out (grown_set _ _ _ _)⟩

set_option maxRecDepth 100000 in
set_option maxHeartbeats 4000000 in
theorem dbyte_any (gr : Nat) (A : Option Addr) (c : Nat) (b : List UInt8) (k : Nat) (no : Bool) (w : World) (hk : k ≤ b.length) (hbn : b.length ≤ 1099511627776) (hl : Lies w gr A b) (hr : DdAt w gr A c b ⟨(k : Int), no⟩) :
    Calls Tryz.prog 46 #[.pointer (some ⟨gr, 0, none⟩)] w (DkR w gr A c b (.int .u8 (oxX b ⟨(k : Int), no⟩)) (oxS b ⟨(k : Int), no⟩)) := by
  have c0 := hr.b0
  have c1 := hr.a1
  have c2 := hr.n2
  have HR := Lib.hid hr
  dsimp only at c1 c2
  have f1 := hr.frozen 1
  have f2 := hr.frozen 2
  cases no with
  | true =>
    obtain ⟨e1, e2⟩ := ox_no (b := b) (s := ⟨(k : Int), true⟩) rfl
    rw [e1, e2]
    have HY := Lib.hid (fun n => (show DdAt (w.drewN n) gr A c b ⟨(k : Int), true⟩ from HR.out).setN true)
    clear hr hl e1 e2
    go_enter Tryz.func46, Tryz.ntmps46
    go_wp2
    go_quiet (fail)
    go_wp2
    go_ret
    exact ⟨rfl, HY.out nq, grown_trans (grown_drewN _ _ _) (grown_set _ _ _ _)⟩
  | false =>
    by_cases hlt : k < b.length
    · obtain ⟨g, o, rfl, hg, hbc⟩ := hl (by omega)
      have hbk := hbc k hlt
      have e0 : stV b.length (k : Int) 1 = 0 := by unfold stV; rw [if_neg (by omega), if_neg (by omega)]
      have e1 : oxX b ⟨(k : Int), false⟩ = (b[k].toNat : Int) := by
        unfold oxX
        rw [if_neg Bool.false_ne_true, if_pos e0]
        unfold oneX
        rw [if_pos e0, Int.toNat_natCast, List.getD_eq_getElem?_getD, List.getElem?_eq_getElem hlt]
        rfl
      have e2 : oxS b ⟨(k : Int), false⟩ = ⟨(k : Int) + 1, false⟩ := by
        unfold oxS tkS
        rw [if_neg Bool.false_ne_true, if_pos e0]
        unfold oneN
        rw [if_pos e0]
      rw [e1, e2]
      have hlti : (k : Int) < b.length := by omega
      have HY := Lib.hid (fun n => (show DdAt (w.drewN n) gr (some ⟨g, o, none⟩) c b ⟨(k : Int), false⟩ from HR.out).setA ((k : Int) + 1))
      have hgr : g ≠ gr := by omega
      have HBK := Lib.hid (fun n => (World.cell?_of_block (w := w.drewN n) (w' := (w.drewN n).setCell ⟨gr, 1, none⟩ (.int .i64 ((k : Int) + 1))) (Below.heap_setCell (w.drewN n) _ _ g hgr)).trans (show (w.drewN n).cell? ⟨g, o + k, none⟩ = _ from hbk))
      have hw1 : IntKind.i64.wrap ((k : Int) + 1) = (k : Int) + 1 := by rw [IntKind.wrap_i64]; omega
      have hw2 : IntKind.i64.wrap ((k : Int) + 1 - 1) = (k : Int) := by rw [IntKind.wrap_i64]; omega
      clear hr hl e0 e1 e2 hbc
      generalize b[k] = x at *
      go_enter Tryz.func46, Tryz.ntmps46
      go_wp2
      go_quiet (fail)
      have y0 := (HY.out nq).b0
      have y1 := (HY.out nq).a1
      have yb := HBK.out nq
      dsimp only at y1
      have HY1 := Lib.hid (HY.out nq)
      have HG1 := Lib.hid (grown_trans (grown_drewN w nq (some gr)) (grown_set (w.drewN nq) gr 1 (.int .i64 ((k : Int) + 1))))
      clear HY HBK
      go_wp2
      go_quiet (fail)
      go_wp2
      go_ret
      exact ⟨rfl, HY1.out, grown_trans HG1.out (grown_drewN _ _ _)⟩
    · have hke : k = b.length := by omega
      have e0 : stV b.length (k : Int) 1 ≠ 0 := by unfold stV; rw [if_neg (by omega), if_pos (by omega)]; decide
      have e1 : oxX b ⟨(k : Int), false⟩ = 0 := by unfold oxX; rw [if_neg Bool.false_ne_true, if_neg e0]
      have e2 : oxS b ⟨(k : Int), false⟩ = ⟨(k : Int), true⟩ := by unfold oxS tkS; rw [if_neg Bool.false_ne_true, if_neg e0]
      rw [e1, e2]
      have HY := Lib.hid (fun n => (show DdAt (w.drewN n) gr A c b ⟨(k : Int), false⟩ from HR.out).setN true)
      have hge : (b.length : Int) ≤ (k : Int) := by omega
      clear hr hl e0 e1 e2 hke
      go_enter Tryz.func46, Tryz.ntmps46
      go_wp2
      go_quiet (fail)
      go_wp2
      go_ret
      exact ⟨rfl, HY.out nq, grown_trans (grown_drewN _ _ _) (grown_set _ _ _ _)⟩
end Go.Proofs.YtbkfkdiadeaooaaGreat
