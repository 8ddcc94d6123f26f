/-
  Merged for a claim: S9O.
-/
import Derived.Test.YtbkfkdiadeaooaaGreatHS9N
namespace Go.Proofs.YtbkfkdiadeaooaaGreat
open Go Go.RowKit

def TkP (w : World) (gr : Nat) (A : Option Addr) (c : Nat) (b : List UInt8) (xs : List Sp) (s : RS) (e : Ending) (w' : World) : Prop := ∃ v, e = .returned v ∧ SpOwn w' w.heap.size v xs ∧ RdAt w' gr A c b s ∧ w.grownBy w' (some gr)
theorem gsL_bad {b : List UInt8} {i : Int} (h : gsE b i ≠ 0) : gsL b i = [] := by
  unfold gsE at h
  unfold gsL gsO
  split at h
  · rename_i q
    rw [if_pos q]
  · rename_i q
    rw [if_neg q]
    cases e : gotS b i.toNat with
    | none => rfl
    | some x => rw [e] at h; exact absurd rfl h
theorem grown_below {w w1 : World} (h : Below w.heap.size w w1) (r : Option Nat) : w.grownBy w1 r := ⟨h.os, h.tape, h.output, h.size, fun k hk _ => h.block k hk⟩

set_option maxRecDepth 100000 in
set_option maxHeartbeats 2000000 in
theorem takeP_no (gr : Nat) (A : Option Addr) (c : Nat) (b : List UInt8) (at_ : Int) (F : Fn) (w : World) (hr : RdAt w gr A c b ⟨at_, true⟩) :
    Calls Tryz.prog 38 #[.pointer (some ⟨gr, 0, none⟩), .func F #[] #[]] w (TkP w gr A c b [] ⟨at_, true⟩) := by
  have c2 := hr.n2
  have HR := Lib.hid hr
  dsimp only at c2
  clear hr
  go_enter Tryz.func38, Tryz.ntmps38
  go_wp2
  go_ret
  exact ⟨_, rfl, SpOwn.nil _ _, HR.out, World.grownBy.refl _ _⟩
set_option maxRecDepth 100000 in
set_option maxHeartbeats 4000000 in
theorem takeP_any (gr : Nat) (A : Option Addr) (c : Nat) (b : List UInt8) (at_ : Int) (w : World) (hbn : b.length ≤ 1099511627776) (hl : Lies w gr A b) (hr : RdAt w gr A c b ⟨at_, false⟩) :
    Calls Tryz.prog 38 #[.pointer (some ⟨gr, 0, none⟩), .func (.func 39) #[] #[]] w (TkP w gr A c b (gsL b at_) (tkS (gsE b at_) (gsN b at_) at_)) := by
  have c0 := hr.b0
  have c1 := hr.a1
  have c2 := hr.n2
  have hgr := hr.lt
  have HR := Lib.hid hr
  have HCON := Lib.hid (get7_any A c b at_ w.drew hbn (hl.more (Nat.le_of_lt hgr)))
  unfold GetR7 at HCON
  dsimp only at c1 c2
  clear hl hr
  unfold tkS
  by_cases h0 : gsE b at_ = 0
  · rw [if_pos h0]
    rw [h0] at HCON
    generalize gsN b at_ = N at *
    generalize gsL b at_ = xs at *
    clear h0
    go_enter Tryz.func38, Tryz.ntmps38
    go_wp2
    refine wp_region_held_drew (S := fun W9 => (W9.cell? ⟨gr, 0, none⟩ = some (.slice A b.length c) ∧ W9.cell? ⟨gr, 1, none⟩ = some (.int .i64 at_) ∧ W9.cell? ⟨gr, 2, none⟩ = some (.bool false))) (by kernel_rfl) (⟨c0, c1, c2⟩) (fun hHeld => ?_)
    refine heldTake (i := 0) (d := some 15) (v := ?_) rfl rfl (by kernel_rfl) (by kernel_rfl) (by kernel_rfl) (fun _ _ _ h => h) (by kernel_rfl) ?hyq_1 (by assumption) ?restq_1
    case hyq_1 => (intro W9 hSw; (try dsimp only at hSw); go_simp; try (with_reducible rfl))
    (try simp only [Act.put, List.setIfInBounds_toArray, List.set_cons_zero, List.set_cons_succ])
    refine heldTake (i := 1) (d := some 16) (v := ?_) rfl rfl (by kernel_rfl) (by kernel_rfl) (by kernel_rfl) (fun _ _ _ h => h) (by kernel_rfl) ?hyq_2 (by assumption) ?restq_2
    case hyq_2 => (intro W9 hSw; (try dsimp only at hSw); go_simp; try (with_reducible rfl))
    (try simp only [Act.put, List.setIfInBounds_toArray, List.set_cons_zero, List.set_cons_succ])
    refine heldTake (i := 2) (d := some 17) (v := ?_) rfl rfl (by kernel_rfl) (by kernel_rfl) (by kernel_rfl) (fun _ _ _ h => h) (by kernel_rfl) ?hyq_3 (by assumption) ?restq_3
    case hyq_3 => (intro W9 hSw; (try dsimp only at hSw); go_simp; try (with_reducible rfl))
    (try simp only [Act.put, List.setIfInBounds_toArray, List.set_cons_zero, List.set_cons_succ])
    refine heldTake (i := 3) (d := some 18) (v := ?_) rfl rfl (by kernel_rfl) (by kernel_rfl) (by kernel_rfl) (fun _ _ _ h => h) (by kernel_rfl) ?hyq_4 (by assumption) ?restq_4
    case hyq_4 => (intro W9 hSw; (try dsimp only at hSw); go_simp; try (with_reducible rfl))
    (try simp only [Act.put, List.setIfInBounds_toArray, List.set_cons_zero, List.set_cons_succ])
    refine heldTake (i := 4) (d := some 19) (v := ?_) rfl rfl (by kernel_rfl) (by kernel_rfl) (by kernel_rfl) (fun _ _ _ h => h) (by kernel_rfl) ?hyq_5 (by assumption) ?restq_5
    case hyq_5 => (intro W9 hSw; (try dsimp only at hSw); go_simp; try (with_reducible rfl))
    (try simp only [Act.put, List.setIfInBounds_toArray, List.set_cons_zero, List.set_cons_succ])
    refine heldTake (i := 5) (d := some 20) (v := ?_) rfl rfl (by kernel_rfl) (by kernel_rfl) (by kernel_rfl) (fun _ _ _ h => h) (by kernel_rfl) ?hyq_6 (by assumption) ?restq_6
    case hyq_6 => (intro W9 hSw; (try dsimp only at hSw); go_simp; try (with_reducible rfl))
    (try simp only [Act.put, List.setIfInBounds_toArray, List.set_cons_zero, List.set_cons_succ])
    refine heldTake (i := 6) (d := some 21) (v := ?_) rfl rfl (by kernel_rfl) (by kernel_rfl) (by kernel_rfl) (fun _ _ _ h => h) (by kernel_rfl) ?hyq_7 (by assumption) ?restq_7
    case hyq_7 => (intro W9 hSw; (try dsimp only at hSw); go_simp; try (with_reducible rfl))
    (try simp only [Act.put, List.setIfInBounds_toArray, List.set_cons_zero, List.set_cons_succ])
    refine heldTake (i := 7) (d := some 22) (v := ?_) rfl rfl (by kernel_rfl) (by kernel_rfl) (by kernel_rfl) (fun _ _ _ h => h) (by kernel_rfl) ?hyq_8 (by assumption) ?restq_8
    case hyq_8 => (intro W9 hSw; (try dsimp only at hSw); go_simp; try (with_reducible rfl))
    (try simp only [Act.put, List.setIfInBounds_toArray, List.set_cons_zero, List.set_cons_succ])
    refine heldTake (i := 8) (d := some 23) (v := ?_) rfl rfl (by kernel_rfl) (by kernel_rfl) (by kernel_rfl) (fun _ _ _ h => h) (by kernel_rfl) ?hyq_9 (by assumption) ?restq_9
    case hyq_9 => (intro W9 hSw; (try dsimp only at hSw); go_simp; try (with_reducible rfl))
    (try simp only [Act.put, List.setIfInBounds_toArray, List.set_cons_zero, List.set_cons_succ])
    refine wpAnyH_ready (rs := [9]) (by kernel_rfl) (by simp) ?_
    refine AllReadyH.cons rfl (fun K hK => ?_) AllReadyH.nil
    go_simp
    go_at_call 39
    refine HCON.out.mono ?_
    rintro e9 X ⟨vX, rfl, hoX, hbX⟩
    have hbX := below_of_drew hbX
    have hSX : (X.cell? ⟨gr, 0, none⟩ = some (.slice A b.length c) ∧ X.cell? ⟨gr, 1, none⟩ = some (.int .i64 at_) ∧ X.cell? ⟨gr, 2, none⟩ = some (.bool false)) := ⟨(hbX.cell (p := ⟨gr, 0, none⟩) hgr).trans c0, (hbX.cell (p := ⟨gr, 1, none⟩) hgr).trans c1, (hbX.cell (p := ⟨gr, 2, none⟩) hgr).trans c2⟩
    have HBX := Lib.hid hbX
    have HOX := Lib.hid hoX
    have HRX := Lib.hid (HR.out.below hbX hgr)
    have hxf1 := HRX.out.frozen 1
    have hxf2 := HRX.out.frozen 2
    have hgx : gr < X.heap.size := HRX.out.lt
    clear hoX hbX
    go_wp2_with fail
    refine hK.out _ _ hSX (fun hHeld => ?_)
    clear hK K
    (try simp only [Act.put, List.setIfInBounds_toArray, List.set_cons_zero, List.set_cons_succ])
    refine heldTake (i := 10) (d := some 14) (v := ?_) rfl rfl (by kernel_rfl) (by kernel_rfl) (by kernel_rfl) (fun _ _ _ h => h) (by kernel_rfl) ?hyq_10 (by assumption) ?restq_10
    case hyq_10 => (intro W9 hSw; (try dsimp only at hSw); go_simp; try (with_reducible rfl))
    (try simp only [Act.put, List.setIfInBounds_toArray, List.set_cons_zero, List.set_cons_succ])
    refine heldTake (i := 11) (d := some 25) (v := ?_) rfl rfl (by kernel_rfl) (by kernel_rfl) (by kernel_rfl) (fun _ _ _ h => h) (by kernel_rfl) ?hyq_11 (by assumption) ?restq_11
    case hyq_11 => (intro W9 hSw; (try dsimp only at hSw); go_simp; try (with_reducible rfl))
    (try simp only [Act.put, List.setIfInBounds_toArray, List.set_cons_zero, List.set_cons_succ])
    refine heldTake (i := 12) (d := some 26) (v := ?_) rfl rfl (by kernel_rfl) (by kernel_rfl) (by kernel_rfl) (fun _ _ _ h => h) (by kernel_rfl) ?hyq_12 (by assumption) ?restq_12
    case hyq_12 => (intro W9 hSw; (try dsimp only at hSw); go_simp; try (with_reducible rfl))
    (try simp only [Act.put, List.setIfInBounds_toArray, List.set_cons_zero, List.set_cons_succ])
    refine heldTake (i := 13) (d := some 27) (v := ?_) rfl rfl (by kernel_rfl) (by kernel_rfl) (by kernel_rfl) (fun _ _ _ h => h) (by kernel_rfl) ?hyq_13 (by assumption) ?restq_13
    case hyq_13 => (intro W9 hSw; (try dsimp only at hSw); go_simp; try (with_reducible rfl))
    (try simp only [Act.put, List.setIfInBounds_toArray, List.set_cons_zero, List.set_cons_succ])
    refine heldTake (i := 14) (d := some 6) (v := ?_) rfl rfl (by kernel_rfl) (by kernel_rfl) (by kernel_rfl) (fun _ _ _ h => h) (by kernel_rfl) ?hyq_14 (by assumption) ?restq_14
    case hyq_14 => (intro W9 hSw; (try dsimp only at hSw); go_simp; try (with_reducible rfl))
    (try simp only [Act.put, List.setIfInBounds_toArray, List.set_cons_zero, List.set_cons_succ])
    refine heldTake (i := 15) (d := some 7) (v := ?_) rfl rfl (by kernel_rfl) (by kernel_rfl) (by kernel_rfl) (fun _ _ _ h => h) (by kernel_rfl) ?hyq_15 (by assumption) ?restq_15
    case hyq_15 => (intro W9 hSw; (try dsimp only at hSw); go_simp; try (with_reducible rfl))
    (try simp only [Act.put, List.setIfInBounds_toArray, List.set_cons_zero, List.set_cons_succ])
    refine heldTake (i := 16) (d := some 8) (v := ?_) rfl rfl (by kernel_rfl) (by kernel_rfl) (by kernel_rfl) (fun _ _ _ h => h) (by kernel_rfl) ?hyq_16 (by assumption) ?restq_16
    case hyq_16 => (intro W9 hSw; (try dsimp only at hSw); go_simp; try (with_reducible rfl))
    (try simp only [Act.put, List.setIfInBounds_toArray, List.set_cons_zero, List.set_cons_succ])
    refine wpAnyH_done (by kernel_rfl) ?_ _
    go_wp2
    go_ret
    exact ⟨_, rfl, HOX.out.set _ hgr, HRX.out.setA N, grown_trans (grown_below HBX.out _) (grown_set X gr 1 _)⟩
  · rw [if_neg h0, gsL_bad h0]
    have hq : (gsE b at_ == 0) = false := by simpa using h0
    have hq2 : (gsE b at_ != 0) = true := by simpa using h0
    generalize gsE b at_ = E at *
    generalize gsN b at_ = N at *
    generalize gsL b at_ = xs at *
    go_enter Tryz.func38, Tryz.ntmps38
    go_wp2
    refine wp_region_held_drew (S := fun W9 => (W9.cell? ⟨gr, 0, none⟩ = some (.slice A b.length c) ∧ W9.cell? ⟨gr, 1, none⟩ = some (.int .i64 at_) ∧ W9.cell? ⟨gr, 2, none⟩ = some (.bool false))) (by kernel_rfl) (⟨c0, c1, c2⟩) (fun hHeld => ?_)
    refine heldTake (i := 0) (d := some 15) (v := ?_) rfl rfl (by kernel_rfl) (by kernel_rfl) (by kernel_rfl) (fun _ _ _ h => h) (by kernel_rfl) ?hyq_17 (by assumption) ?restq_17
    case hyq_17 => (intro W9 hSw; (try dsimp only at hSw); go_simp; try (with_reducible rfl))
    (try simp only [Act.put, List.setIfInBounds_toArray, List.set_cons_zero, List.set_cons_succ])
    refine heldTake (i := 1) (d := some 16) (v := ?_) rfl rfl (by kernel_rfl) (by kernel_rfl) (by kernel_rfl) (fun _ _ _ h => h) (by kernel_rfl) ?hyq_18 (by assumption) ?restq_18
    case hyq_18 => (intro W9 hSw; (try dsimp only at hSw); go_simp; try (with_reducible rfl))
    (try simp only [Act.put, List.setIfInBounds_toArray, List.set_cons_zero, List.set_cons_succ])
    refine heldTake (i := 2) (d := some 17) (v := ?_) rfl rfl (by kernel_rfl) (by kernel_rfl) (by kernel_rfl) (fun _ _ _ h => h) (by kernel_rfl) ?hyq_19 (by assumption) ?restq_19
    case hyq_19 => (intro W9 hSw; (try dsimp only at hSw); go_simp; try (with_reducible rfl))
    (try simp only [Act.put, List.setIfInBounds_toArray, List.set_cons_zero, List.set_cons_succ])
    refine heldTake (i := 3) (d := some 18) (v := ?_) rfl rfl (by kernel_rfl) (by kernel_rfl) (by kernel_rfl) (fun _ _ _ h => h) (by kernel_rfl) ?hyq_20 (by assumption) ?restq_20
    case hyq_20 => (intro W9 hSw; (try dsimp only at hSw); go_simp; try (with_reducible rfl))
    (try simp only [Act.put, List.setIfInBounds_toArray, List.set_cons_zero, List.set_cons_succ])
    refine heldTake (i := 4) (d := some 19) (v := ?_) rfl rfl (by kernel_rfl) (by kernel_rfl) (by kernel_rfl) (fun _ _ _ h => h) (by kernel_rfl) ?hyq_21 (by assumption) ?restq_21
    case hyq_21 => (intro W9 hSw; (try dsimp only at hSw); go_simp; try (with_reducible rfl))
    (try simp only [Act.put, List.setIfInBounds_toArray, List.set_cons_zero, List.set_cons_succ])
    refine heldTake (i := 5) (d := some 20) (v := ?_) rfl rfl (by kernel_rfl) (by kernel_rfl) (by kernel_rfl) (fun _ _ _ h => h) (by kernel_rfl) ?hyq_22 (by assumption) ?restq_22
    case hyq_22 => (intro W9 hSw; (try dsimp only at hSw); go_simp; try (with_reducible rfl))
    (try simp only [Act.put, List.setIfInBounds_toArray, List.set_cons_zero, List.set_cons_succ])
    refine heldTake (i := 6) (d := some 21) (v := ?_) rfl rfl (by kernel_rfl) (by kernel_rfl) (by kernel_rfl) (fun _ _ _ h => h) (by kernel_rfl) ?hyq_23 (by assumption) ?restq_23
    case hyq_23 => (intro W9 hSw; (try dsimp only at hSw); go_simp; try (with_reducible rfl))
    (try simp only [Act.put, List.setIfInBounds_toArray, List.set_cons_zero, List.set_cons_succ])
    refine heldTake (i := 7) (d := some 22) (v := ?_) rfl rfl (by kernel_rfl) (by kernel_rfl) (by kernel_rfl) (fun _ _ _ h => h) (by kernel_rfl) ?hyq_24 (by assumption) ?restq_24
    case hyq_24 => (intro W9 hSw; (try dsimp only at hSw); go_simp; try (with_reducible rfl))
    (try simp only [Act.put, List.setIfInBounds_toArray, List.set_cons_zero, List.set_cons_succ])
    refine heldTake (i := 8) (d := some 23) (v := ?_) rfl rfl (by kernel_rfl) (by kernel_rfl) (by kernel_rfl) (fun _ _ _ h => h) (by kernel_rfl) ?hyq_25 (by assumption) ?restq_25
    case hyq_25 => (intro W9 hSw; (try dsimp only at hSw); go_simp; try (with_reducible rfl))
    (try simp only [Act.put, List.setIfInBounds_toArray, List.set_cons_zero, List.set_cons_succ])
    refine wpAnyH_ready (rs := [9]) (by kernel_rfl) (by simp) ?_
    refine AllReadyH.cons rfl (fun K hK => ?_) AllReadyH.nil
    go_simp
    go_at_call 39
    refine HCON.out.mono ?_
    rintro e9 X ⟨vX, rfl, hoX, hbX⟩
    have hbX := below_of_drew hbX
    have hSX : (X.cell? ⟨gr, 0, none⟩ = some (.slice A b.length c) ∧ X.cell? ⟨gr, 1, none⟩ = some (.int .i64 at_) ∧ X.cell? ⟨gr, 2, none⟩ = some (.bool false)) := ⟨(hbX.cell (p := ⟨gr, 0, none⟩) hgr).trans c0, (hbX.cell (p := ⟨gr, 1, none⟩) hgr).trans c1, (hbX.cell (p := ⟨gr, 2, none⟩) hgr).trans c2⟩
    have HBX := Lib.hid hbX
    have HOX := Lib.hid hoX
    have HRX := Lib.hid (HR.out.below hbX hgr)
    have hxf1 := HRX.out.frozen 1
    have hxf2 := HRX.out.frozen 2
    have hgx : gr < X.heap.size := HRX.out.lt
    clear hoX hbX
    go_wp2_with fail
    refine hK.out _ _ hSX (fun hHeld => ?_)
    clear hK K
    (try simp only [Act.put, List.setIfInBounds_toArray, List.set_cons_zero, List.set_cons_succ])
    refine heldTake (i := 10) (d := some 14) (v := ?_) rfl rfl (by kernel_rfl) (by kernel_rfl) (by kernel_rfl) (fun _ _ _ h => h) (by kernel_rfl) ?hyq_26 (by assumption) ?restq_26
    case hyq_26 => (intro W9 hSw; (try dsimp only at hSw); go_simp; try (with_reducible rfl))
    (try simp only [Act.put, List.setIfInBounds_toArray, List.set_cons_zero, List.set_cons_succ])
    refine heldTake (i := 11) (d := some 25) (v := ?_) rfl rfl (by kernel_rfl) (by kernel_rfl) (by kernel_rfl) (fun _ _ _ h => h) (by kernel_rfl) ?hyq_27 (by assumption) ?restq_27
    case hyq_27 => (intro W9 hSw; (try dsimp only at hSw); go_simp; try (with_reducible rfl))
    (try simp only [Act.put, List.setIfInBounds_toArray, List.set_cons_zero, List.set_cons_succ])
    refine heldTake (i := 12) (d := some 26) (v := ?_) rfl rfl (by kernel_rfl) (by kernel_rfl) (by kernel_rfl) (fun _ _ _ h => h) (by kernel_rfl) ?hyq_28 (by assumption) ?restq_28
    case hyq_28 => (intro W9 hSw; (try dsimp only at hSw); go_simp; try (with_reducible rfl))
    (try simp only [Act.put, List.setIfInBounds_toArray, List.set_cons_zero, List.set_cons_succ])
    refine heldTake (i := 13) (d := some 27) (v := ?_) rfl rfl (by kernel_rfl) (by kernel_rfl) (by kernel_rfl) (fun _ _ _ h => h) (by kernel_rfl) ?hyq_29 (by assumption) ?restq_29
    case hyq_29 => (intro W9 hSw; (try dsimp only at hSw); go_simp; try (with_reducible rfl))
    (try simp only [Act.put, List.setIfInBounds_toArray, List.set_cons_zero, List.set_cons_succ])
    refine heldTake (i := 14) (d := some 6) (v := ?_) rfl rfl (by kernel_rfl) (by kernel_rfl) (by kernel_rfl) (fun _ _ _ h => h) (by kernel_rfl) ?hyq_30 (by assumption) ?restq_30
    case hyq_30 => (intro W9 hSw; (try dsimp only at hSw); go_simp; try (with_reducible rfl))
    (try simp only [Act.put, List.setIfInBounds_toArray, List.set_cons_zero, List.set_cons_succ])
    refine heldTake (i := 15) (d := some 7) (v := ?_) rfl rfl (by kernel_rfl) (by kernel_rfl) (by kernel_rfl) (fun _ _ _ h => h) (by kernel_rfl) ?hyq_31 (by assumption) ?restq_31
    case hyq_31 => (intro W9 hSw; (try dsimp only at hSw); go_simp; try (with_reducible rfl))
    (try simp only [Act.put, List.setIfInBounds_toArray, List.set_cons_zero, List.set_cons_succ])
    refine heldTake (i := 16) (d := some 8) (v := ?_) rfl rfl (by kernel_rfl) (by kernel_rfl) (by kernel_rfl) (fun _ _ _ h => h) (by kernel_rfl) ?hyq_32 (by assumption) ?restq_32
    case hyq_32 => (intro W9 hSw; (try dsimp only at hSw); go_simp; try (with_reducible rfl))
    (try simp only [Act.put, List.setIfInBounds_toArray, List.set_cons_zero, List.set_cons_succ])
    refine wpAnyH_done (by kernel_rfl) ?_ _
    go_wp2
    go_ret
    exact ⟨_, rfl, SpOwn.nil _ _, HRX.out.setN true, grown_trans (grown_below HBX.out _) (grown_set X gr 2 _)⟩

/-- a number that a table may have -/
def nmX (b : List UInt8) (s : RS) : Int := if s.no = true then 0 else if rdE false b s.at_ = 0 then (if rdX false b s.at_ ≤ 16777216 then rdX false b s.at_ else 0) else 0
def nmS (b : List UInt8) (s : RS) : RS := if s.no = true then s else if rdE false b s.at_ = 0 then (if rdX false b s.at_ ≤ 16777216 then ⟨rdN false b s.at_, false⟩ else ⟨rdN false b s.at_, true⟩) else ⟨s.at_, true⟩
def txX (b : List UInt8) (s : RS) : List UInt8 := if s.no = true then [] else if txE b s.at_ = 0 then txS b s.at_ else []
def txT (b : List UInt8) (s : RS) : RS := if s.no = true then s else tkS (txE b s.at_) (txN b s.at_) s.at_
theorem rdX_rng (b : List UInt8) (i : Int) : 0 ≤ rdX false b i ∧ rdX false b i < 18446744073709551616 := by
  unfold rdX
  split
  · rename_i h
    unfold rdE at h
    split at h
    · cases h
    · split at h
      · rename_i hg
        have := hv_rng hg
        simpa [rng] using this
      · cases h
  · omega
set_option maxRecDepth 100000 in
set_option maxHeartbeats 2000000 in
theorem number_any (gr : Nat) (A : Option Addr) (c : Nat) (b : List UInt8) (s : RS) (w : World) (hc : b.length ≤ c) (hbn : b.length ≤ 1099511627776) (hl : Lies w gr A b) (hr : RdAt w gr A c b s) :
    Calls Tryz.prog 33 #[.pointer (some ⟨gr, 0, none⟩)] w (TkR w gr A c b (.int .i64 (nmX b s)) (nmS b s)) := by
  obtain ⟨at_, no⟩ := s
  cases no
  · have HT := Lib.hid (takeU_any gr A c b at_ w hc hbn hl hr)
    have hrg := rdX_rng b at_
    have hff : ¬ (false = true) := by decide
    unfold tkS at HT
    clear hl hr
    by_cases hE : rdE false b at_ = 0
    · rw [if_pos hE, if_pos hE] at HT
      by_cases hX : rdX false b at_ ≤ 16777216
      · rw [show nmX b ⟨at_, false⟩ = rdX false b at_ by unfold nmX; dsimp only; rw [if_neg hff, if_pos hE, if_pos hX], show nmS b ⟨at_, false⟩ = ⟨rdN false b at_, false⟩ by unfold nmS; dsimp only; rw [if_neg hff, if_pos hE, if_pos hX]]
        generalize rdX false b at_ = X at *
        generalize rdN false b at_ = N at *
        clear hE
        go_enter Tryz.func33, Tryz.ntmps33
        go_wp2_with fail
        refine HT.out.mono ?_
        rintro e w1 ⟨rfl, hr1, hg1⟩
        have HR1 := Lib.hid hr1
        have HG1 := Lib.hid hg1
        clear hr1 hg1 HT
        go_wp2_with fail
        go_ret
        exact ⟨rfl, HR1.out, HG1.out⟩
      · rw [show nmX b ⟨at_, false⟩ = 0 by unfold nmX; dsimp only; rw [if_neg hff, if_pos hE, if_neg hX], show nmS b ⟨at_, false⟩ = ⟨rdN false b at_, true⟩ by unfold nmS; dsimp only; rw [if_neg hff, if_pos hE, if_neg hX]]
        generalize rdX false b at_ = X at *
        generalize rdN false b at_ = N at *
        clear hE
        go_enter Tryz.func33, Tryz.ntmps33
        go_wp2_with fail
        refine HT.out.mono ?_
        rintro e w1 ⟨rfl, hr1, hg1⟩
        have n2 := hr1.n2
        have nf := hr1.frozen 2
        have HR1 := Lib.hid hr1
        have HG1 := Lib.hid hg1
        clear hr1 hg1 HT
        go_wp2_with fail
        go_ret
        exact ⟨rfl, HR1.out.setN true, grown_trans HG1.out (grown_set w1 gr 2 _)⟩
    · rw [if_neg hE, if_neg hE] at HT
      rw [show nmX b ⟨at_, false⟩ = 0 by unfold nmX; dsimp only; rw [if_neg hff, if_neg hE], show nmS b ⟨at_, false⟩ = ⟨at_, true⟩ by unfold nmS; dsimp only; rw [if_neg hff, if_neg hE]]
      go_enter Tryz.func33, Tryz.ntmps33
      go_wp2_with fail
      refine HT.out.mono ?_
      rintro e w1 ⟨rfl, hr1, hg1⟩
      have HR1 := Lib.hid hr1
      have HG1 := Lib.hid hg1
      clear hr1 hg1 HT
      go_wp2_with fail
      go_ret
      exact ⟨rfl, HR1.out, HG1.out⟩
  · have HT := Lib.hid (takeU_no gr A c b at_ (.func 57) w hr)
    unfold nmX nmS
    dsimp only
    rw [if_pos rfl, if_pos rfl]
    clear hl hr
    go_enter Tryz.func33, Tryz.ntmps33
    go_wp2_with fail
    refine HT.out.mono ?_
    rintro e w1 ⟨rfl, hr1, hg1⟩
    have HR1 := Lib.hid hr1
    have HG1 := Lib.hid hg1
    clear hr1 hg1 HT
    go_wp2_with fail
    go_ret
    exact ⟨rfl, HR1.out, HG1.out⟩
set_option maxRecDepth 100000 in
set_option maxHeartbeats 2000000 in
theorem text9_any (gr : Nat) (A : Option Addr) (c : Nat) (b : List UInt8) (s : RS) (w : World) (hc : b.length ≤ c) (hbn : b.length ≤ 1099511627776) (hl : Lies w gr A b) (hr : RdAt w gr A c b s) :
    Calls Tryz.prog 34 #[.pointer (some ⟨gr, 0, none⟩)] w (TkR w gr A c b (.string (str (txX b s))) (txT b s)) := by
  obtain ⟨at_, no⟩ := s
  cases no
  · have ht := takeS_any gr A c b at_ w hc hbn hl hr
    have e : (if txE b at_ = 0 then (.string (str (txS b at_)) : Value) else .string ⟨#[]⟩) = .string (str (txX b ⟨at_, false⟩)) := by
      unfold txX
      dsimp only
      rw [if_neg (show ¬ (false = true) by decide)]
      split <;> rfl
    rw [e] at ht
    have HT := Lib.hid ht
    unfold txT
    dsimp only
    rw [if_neg (show ¬ (false = true) by decide)]
    generalize txX b ⟨at_, false⟩ = X at *
    generalize tkS (txE b at_) (txN b at_) at_ = s' at *
    clear hl hr ht e
    go_enter Tryz.func34, Tryz.ntmps34
    go_wp2_with fail
    refine HT.out.mono ?_
    rintro e w1 ⟨rfl, hr1, hg1⟩
    have HR1 := Lib.hid hr1
    have HG1 := Lib.hid hg1
    clear hr1 hg1 HT
    go_wp2_with fail
    go_ret
    exact ⟨rfl, HR1.out, HG1.out⟩
  · have HT := Lib.hid (takeS_no gr A c b at_ (.func 59) w hr)
    unfold txX txT
    dsimp only
    rw [if_pos rfl, if_pos rfl]
    clear hl hr
    go_enter Tryz.func34, Tryz.ntmps34
    go_wp2_with fail
    refine HT.out.mono ?_
    rintro e w1 ⟨rfl, hr1, hg1⟩
    have HR1 := Lib.hid hr1
    have HG1 := Lib.hid hg1
    clear hr1 hg1 HT
    go_wp2_with fail
    go_ret
    exact ⟨rfl, HR1.out, HG1.out⟩
end Go.Proofs.YtbkfkdiadeaooaaGreat
