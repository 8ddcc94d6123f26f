/-
  Merged for a claim: SYY.
-/
import Derived.Test.YtcgohlooelojfaaJJ8
namespace Go.Proofs.Ytcgohlooelojfaa
open Go Go.RowKit

/-- the parser alone on the way -/
structure PsW (w : World) (gp : Nat) (A : Option Addr) (c : Nat) (l : List To) (W : World) (u : List To) : Prop where
  p : Ps W gp A c l u
  g : w.grownBy W (some gp)
section
variable {w W W' : World} {gp : Nat} {A : Option Addr} {c : Nat} {l u u' : List To}
theorem PsW.new (h : Ps w gp A c l u) : PsW w gp A c l w u := ⟨h, World.grownBy.refl _ _⟩
theorem PsW.below (h : PsW w gp A c l W u) (hb : Below W.heap.size W W') : PsW w gp A c l W' u := ⟨h.p.next hb, grown_trans h.g (grown_below hb _)⟩
theorem PsW.drew (h : PsW w gp A c l W u) : PsW w gp A c l W.drew u := h.below ((Below.refl _ W).drew)
theorem PsW.step (h : PsW w gp A c l W u) (hp : Ps W' gp A c l u') (hg : W.grownBy W' (some gp)) (_hu : u'.length ≤ u.length) : PsW w gp A c l W' u' := ⟨hp, grown_trans h.g hg⟩
end
section
variable {σ : Type}
def comS (one : σ → List To → R σ) : Nat → σ → List To → R σ
  | 0, _, _ => .out
  | n + 1, x, u => (one x u).bind fun y v => if isS [44] v = true then comS one n y v.tail else takeS [41] v fun w => .ok y w
/-- behind the bracket that begins it -/
def lisS (one : σ → List To → R σ) (x : σ) (u : List To) : R σ := if isS [41] u = true then .ok x u.tail else comS one (u.length + 1) x u
def LiR (Inv : σ → List To → World → Prop) (Bd : List To → World → Prop) (r : R σ) (e : Ending) (w' : World) : Prop := match r with
  | .ok y v => e = .returned (.tuple #[]) ∧ Inv y v w'
  | .bad v => e = .panicked misC ∧ Bd v w'
  | .out => False
/-- what one call of those that are listed owes -/
structure OneL (gp : Nat) (A : Option Addr) (c : Nat) (l : List To) (Inv : σ → List To → World → Prop) (Bd : List To → World → Prop) (one : σ → List To → R σ) (F : Nat) (args : Array Value) : Prop where
  enter : ∀ a w, (callFunc F a).run Try.prog w = .ok (.enter F a) w
  call : ∀ x u W, Inv x u W → Calls Try.prog F args W (LiR Inv Bd (one x u))
  ps : ∀ x u W, Inv x u W → Ps W gp A c l u
  step : ∀ x u u' W W', Inv x u W → Ps W' gp A c l u' → W.grownBy W' (some gp) → u'.length ≤ u.length → Inv x u' W'
  bad : ∀ x u W, Inv x u W → Bd u W
  len : ∀ x u y v, one x u = .ok y v → v.length + 1 ≤ u.length
  nout : ∀ x u, one x u ≠ .out
variable {Inv : σ → List To → World → Prop} {Bd : List To → World → Prop} {one : σ → List To → R σ} {gp : Nat} {A : Option Addr} {c : Nat} {l u : List To} {w : World} {x : σ}
theorem LiR.ok' {r : R σ} {e : Ending} {w' : World} {y : σ} {v : List To} (hr : r = .ok y v) (he : e = .returned (.tuple #[])) (h : Inv y v w') : LiR Inv Bd r e w' := by
  subst hr
  exact ⟨he, h⟩
theorem LiR.bad' {r : R σ} {e : Ending} {w' : World} {v : List To} (hr : r = .bad v) (he : e = .panicked misC) (h : Bd v w') : LiR Inv Bd r e w' := by
  subst hr
  exact ⟨he, h⟩
set_option maxRecDepth 100000 in
set_option maxHeartbeats 8000000 in
theorem listed_any (F : Nat) (recv caps : Array Value) (hO : OneL gp A c l Inv Bd one F (recv ++ caps)) (hi : Inv x u w) :
    Calls Try.prog 62 #[.pointer (some ⟨gp, 0, none⟩), .func (.func F) recv caps] w (LiR Inv Bd (lisS one x u)) := by
  have HO := Lib.hid hO
  have hE := hO.enter
  have H0 := Lib.hid (PsW.new (hO.ps _ _ _ hi))
  have HI := Lib.hid hi
  obtain ⟨r, hr⟩ : ∃ r, lisS one x u = r := ⟨_, rfl⟩
  rw [hr]
  have HR := Lib.hid (show r = if isS [41] u = true then .ok x u.tail else comS one (u.length + 1) x u from hr.symm)
  clear hr hi hO
  go_enter Try.func62, Try.ntmps62
  go_wp2_with fail
  refine wp_region_held_drew (S := fun W9 => True) (by kernel_rfl) (trivial) (fun hHeld => ?_)
  refine heldTake (i := 0) (d := some 4) (v := ?_) rfl rfl (by kernel_rfl) (by kernel_rfl) (by kernel_rfl) (fun _ _ _ h => h) (by kernel_rfl) ?hyq_1 (by assumption) ?restq_1
  case hyq_1 => (intro W9 hSw; (try dsimp only at hSw); go_simp; try (with_reducible rfl))
  (try simp only [Act.put, List.setIfInBounds_toArray, List.set_cons_zero, List.set_cons_succ])
  refine heldTake (i := 1) (d := some 5) (v := ?_) rfl rfl (by kernel_rfl) (by kernel_rfl) (by kernel_rfl) (fun _ _ _ h => h) (by kernel_rfl) ?hyq_2 (by assumption) ?restq_2
  case hyq_2 => (intro W9 hSw; (try dsimp only at hSw); go_simp; try (with_reducible rfl))
  (try simp only [Act.put, List.setIfInBounds_toArray, List.set_cons_zero, List.set_cons_succ])
  refine heldTake (i := 2) (d := some 6) (v := ?_) rfl rfl (by kernel_rfl) (by kernel_rfl) (by kernel_rfl) (fun _ _ _ h => h) (by kernel_rfl) ?hyq_3 (by assumption) ?restq_3
  case hyq_3 => (intro W9 hSw; (try dsimp only at hSw); go_simp; try (with_reducible rfl))
  (try simp only [Act.put, List.setIfInBounds_toArray, List.set_cons_zero, List.set_cons_succ])
  refine wpAnyH_ready (rs := [3]) (by kernel_rfl) (by simp) ?_
  refine AllReadyH.cons rfl (fun K hK => ?_) AllReadyH.nil
  go_simp
  go_at_call 60
  refine (sign_any [41] _).mono ?_
  rintro e9 X ⟨rfl, hbX⟩
  have H1x := Lib.hid (H0.out.drew.below hbX)
  clear hbX
  go_wp2_with fail
  refine hK.out _ _ trivial (fun hHeld => ?_)
  clear hK K
  (try simp only [Act.put, List.setIfInBounds_toArray, List.set_cons_zero, List.set_cons_succ])
  refine wpAnyH_ready (rs := [4]) (by kernel_rfl) (by simp) ?_
  refine AllReadyH.cons rfl (fun K hK => ?_) AllReadyH.nil
  go_simp
  go_at_call 61
  refine (takeT_any H1x.out.p 4 [41] (by decide)).mono ?_
  rintro e9 Y ⟨rfl, hpY, hgY⟩
  have H1 := Lib.hid (H1x.out.step hpY hgY (stp_len _ _ _))
  clear hpY hgY H1x
  go_wp2_with fail
  refine hK.out _ _ trivial (fun hHeld => ?_)
  clear hK K
  (try simp only [Act.put, List.setIfInBounds_toArray, List.set_cons_zero, List.set_cons_succ])
  refine wpAnyH_done (by kernel_rfl) ?_ _
  cases hq : isT 4 [41] u
  · rw [stp_no hq] at H1
    have HF := Lib.hid (HR.out.trans (if_neg (by show ¬ isT 4 [41] u = true; rw [hq]; decide)))
    have HI1 := Lib.hid (HO.out.step _ _ _ _ _ HI.out H1.out.p H1.out.g (Nat.le_refl _))
    have HC := Lib.hid (HO.out.call _ _ _ HI1.out)
    clear H0 H1 HI HR hq
    rcases hx : one x u with ⟨y, v⟩ | v | _
    · rw [hx] at HC
      have hl0 := HO.out.len _ _ _ _ hx
      have HG := Lib.hid (show r = if isS [44] v = true then comS one u.length y v.tail else takeS [41] v fun w => .ok y w by rw [HF.out, comS, hx]; rfl)
      clear HF hx
      go_wp2_with fail
      refine HC.out.mono ?_
      rintro e w2 ⟨rfl, hi2⟩
      have HI2 := Lib.hid hi2
      clear hi2 HC HI1
      go_wp2_with fail
      go_loopw [] (fun wr => ∃ (n : Nat) (y : σ) (v : List To), v.length ≤ n ∧ Hid (r = if isS [44] v = true then comS one n y v.tail else takeS [41] v fun w => .ok y w) ∧ Hid (Inv y v wr)) (fun wr => lft wr gp l)
      case atStart => exact ⟨u.length, y, v, by omega, HG, HI2⟩
      case round =>
        obtain ⟨n, y2, v2, hn, hr2, hI⟩ := hrel
        obtain ⟨w3, rfl⟩ : ∃ z, z = wr := ⟨_, rfl⟩
        have HL3 := Lib.hid ((HO.out.ps _ _ _ hI.out).lft)
        have H3 := Lib.hid (PsW.new (HO.out.ps _ _ _ hI.out))
        clear HG HI2 hl0
        go_wp2_with fail
        refine wp_region_held_drew (S := fun W9 => True) (by kernel_rfl) (trivial) (fun hHeld => ?_)
        refine heldTake (i := 0) (d := some 11) (v := ?_) rfl rfl (by kernel_rfl) (by kernel_rfl) (by kernel_rfl) (fun _ _ _ h => h) (by kernel_rfl) ?hyq_4 (by assumption) ?restq_4
        case hyq_4 => (intro W9 hSw; (try dsimp only at hSw); go_simp; try (with_reducible rfl))
        (try simp only [Act.put, List.setIfInBounds_toArray, List.set_cons_zero, List.set_cons_succ])
        refine heldTake (i := 1) (d := some 12) (v := ?_) rfl rfl (by kernel_rfl) (by kernel_rfl) (by kernel_rfl) (fun _ _ _ h => h) (by kernel_rfl) ?hyq_5 (by assumption) ?restq_5
        case hyq_5 => (intro W9 hSw; (try dsimp only at hSw); go_simp; try (with_reducible rfl))
        (try simp only [Act.put, List.setIfInBounds_toArray, List.set_cons_zero, List.set_cons_succ])
        refine heldTake (i := 2) (d := some 13) (v := ?_) rfl rfl (by kernel_rfl) (by kernel_rfl) (by kernel_rfl) (fun _ _ _ h => h) (by kernel_rfl) ?hyq_6 (by assumption) ?restq_6
        case hyq_6 => (intro W9 hSw; (try dsimp only at hSw); go_simp; try (with_reducible rfl))
        (try simp only [Act.put, List.setIfInBounds_toArray, List.set_cons_zero, List.set_cons_succ])
        refine wpAnyH_ready (rs := [3]) (by kernel_rfl) (by simp) ?_
        refine AllReadyH.cons rfl (fun K hK => ?_) AllReadyH.nil
        go_simp
        go_at_call 60
        refine (sign_any [44] _).mono ?_
        rintro e9 X ⟨rfl, hbX⟩
        have H4x := Lib.hid (H3.out.drew.below hbX)
        clear hbX
        go_wp2_with fail
        refine hK.out _ _ trivial (fun hHeld => ?_)
        clear hK K
        (try simp only [Act.put, List.setIfInBounds_toArray, List.set_cons_zero, List.set_cons_succ])
        refine wpAnyH_ready (rs := [4]) (by kernel_rfl) (by simp) ?_
        refine AllReadyH.cons rfl (fun K hK => ?_) AllReadyH.nil
        go_simp
        go_at_call 61
        refine (takeT_any H4x.out.p 4 [44] (by decide)).mono ?_
        rintro e9 Y ⟨rfl, hpY, hgY⟩
        have H4 := Lib.hid (H4x.out.step hpY hgY (stp_len _ _ _))
        clear hpY hgY H4x
        go_wp2_with fail
        refine hK.out _ _ trivial (fun hHeld => ?_)
        clear hK K
        (try simp only [Act.put, List.setIfInBounds_toArray, List.set_cons_zero, List.set_cons_succ])
        refine wpAnyH_done (by kernel_rfl) ?_ _
        cases hq : isT 4 [44] v2
        · rw [stp_no hq] at H4
          have HF := Lib.hid (hr2.out.trans (if_neg (by show ¬ isT 4 [44] v2 = true; rw [hq]; decide)))
          have HI4 := Lib.hid (HO.out.step _ _ _ _ _ hI.out H4.out.p H4.out.g (Nat.le_refl _))
          clear H3 hr2 hI hq
          go_wp2_with fail
          cases hq : isT 4 [41] v2
          · have HE := Lib.hid (HF.out.trans (takeS_no hq))
            have HPx := Lib.hid (PsW.new (HO.out.ps _ _ _ HI4.out))
            refine wp_region_held_drew (S := fun W9 => True) (by kernel_rfl) trivial (fun hHeld => ?_)
            have H5d := Lib.hid HPx.out.drew
            refine heldTake (i := 0) (d := some 18) (v := ?_) rfl rfl (by kernel_rfl) (by kernel_rfl) (by kernel_rfl) (fun _ _ _ h => h) (by kernel_rfl) ?hyq_7 (by assumption) ?restq_7
            case hyq_7 => (intro W9 hSw; (try dsimp only at hSw); go_simp; try (with_reducible rfl))
            (try simp only [Act.put, List.setIfInBounds_toArray, List.set_cons_zero, List.set_cons_succ])
            refine heldTake (i := 1) (d := some 19) (v := ?_) rfl rfl (by kernel_rfl) (by kernel_rfl) (by kernel_rfl) (fun _ _ _ h => h) (by kernel_rfl) ?hyq_8 (by assumption) ?restq_8
            case hyq_8 => (intro W9 hSw; (try dsimp only at hSw); go_simp; try (with_reducible rfl))
            (try simp only [Act.put, List.setIfInBounds_toArray, List.set_cons_zero, List.set_cons_succ])
            refine heldTake (i := 2) (d := some 20) (v := ?_) rfl rfl (by kernel_rfl) (by kernel_rfl) (by kernel_rfl) (fun _ _ _ h => h) (by kernel_rfl) ?hyq_9 (by assumption) ?restq_9
            case hyq_9 => (intro W9 hSw; (try dsimp only at hSw); go_simp; try (with_reducible rfl))
            (try simp only [Act.put, List.setIfInBounds_toArray, List.set_cons_zero, List.set_cons_succ])
            refine wpAnyH_ready (rs := [3]) (by kernel_rfl) (by simp) ?_
            refine AllReadyH.cons rfl (fun K hK => ?_) AllReadyH.nil
            go_simp
            go_at_call 60
            refine (sign_any [41] _).mono ?_
            rintro e9 X ⟨rfl, hbX⟩
            have H5x := Lib.hid (H5d.out.below hbX)
            clear hbX
            go_wp2_with fail
            refine hK.out _ _ trivial (fun hHeld => ?_)
            clear hK K
            (try simp only [Act.put, List.setIfInBounds_toArray, List.set_cons_zero, List.set_cons_succ])
            refine wpAnyH_ready (rs := [4]) (by kernel_rfl) (by simp) ?_
            refine AllReadyH.cons rfl (fun K hK => ?_) AllReadyH.nil
            (try rw [if_pos (by kernel_rfl)])
            refine El.op_build1 eTo X 22 (.agg #[.int .u8 0, .string ⟨#[]⟩, .int .i64 0, .int .i64 0]) 40 Try.underlying22 tok_info rfl (by decide) (.tmp 21) rfl (tV ⟨4, [41], 0, 0⟩) ⟨4, [41], 0, 0⟩ rfl rfl ?_
            change K (Act.put _ (some 22) (.slice (some ⟨X.heap.size, 0, none⟩) 1 1)) (X.alloc (.cells (eTo.f ⟨4, [41], 0, 0⟩).toArray 79))
            have hbY := below_lnew X (.cells (eTo.f ⟨4, [41], 0, 0⟩).toArray 79)
            have hT9 := El.liesT_new eTo X [⟨4, [41], 0, 0⟩] (eTo.f ⟨4, [41], 0, 0⟩).toArray (fun i v h => by simpa [eTo, tS] using h)
            obtain ⟨Y, hY⟩ : ∃ Y, X.alloc (.cells (eTo.f ⟨4, [41], 0, 0⟩).toArray 79) = Y := ⟨_, rfl⟩
            replace hT9 : eTo.LiesT (X.alloc (.cells (eTo.f ⟨4, [41], 0, 0⟩).toArray 79)) (some ⟨X.heap.size, 0, none⟩) [⟨4, [41], 0, 0⟩] := hT9
            rw [hY] at hbY hT9 ⊢
            have H5y := Lib.hid (H5x.out.below hbY)
            have HT9 := Lib.hid hT9
            clear hY hbY hT9
            refine hK.out _ _ trivial (fun hHeld => ?_)
            clear hK K
            (try simp only [Act.put, List.setIfInBounds_toArray, List.set_cons_zero, List.set_cons_succ])
            refine wpAnyH_ready (rs := [5]) (by kernel_rfl) (by simp) ?_
            refine AllReadyH.cons rfl (fun K hK => ?_) AllReadyH.nil
            go_simp
            go_at_call 58
            refine (need_any H5y.out.p [⟨4, [41], 0, 0⟩] (one_kd 4 (by decide) _) (some ⟨_, 0, none⟩) 1 HT9.out (by simp)).mono ?_
            rintro e9 Z hN
            rw [nd1_no hq] at hN
            obtain ⟨rfl, hpZ, hgZ⟩ := hN
            have hb9 := HO.out.bad _ _ _ (HO.out.step _ _ _ _ _ HI4.out hpZ (grown_trans H5y.out.g hgZ) (Nat.le_refl _))
            go_wp2_with fail
            exact ⟨rfl, LiR.bad' HE.out rfl hb9⟩
          · have HE := Lib.hid (HF.out.trans (takeS_yes hq))
            have HPx := Lib.hid (PsW.new (HO.out.ps _ _ _ HI4.out))
            refine wp_region_held_drew (S := fun W9 => True) (by kernel_rfl) trivial (fun hHeld => ?_)
            have H5d := Lib.hid HPx.out.drew
            refine heldTake (i := 0) (d := some 18) (v := ?_) rfl rfl (by kernel_rfl) (by kernel_rfl) (by kernel_rfl) (fun _ _ _ h => h) (by kernel_rfl) ?hyq_10 (by assumption) ?restq_10
            case hyq_10 => (intro W9 hSw; (try dsimp only at hSw); go_simp; try (with_reducible rfl))
            (try simp only [Act.put, List.setIfInBounds_toArray, List.set_cons_zero, List.set_cons_succ])
            refine heldTake (i := 1) (d := some 19) (v := ?_) rfl rfl (by kernel_rfl) (by kernel_rfl) (by kernel_rfl) (fun _ _ _ h => h) (by kernel_rfl) ?hyq_11 (by assumption) ?restq_11
            case hyq_11 => (intro W9 hSw; (try dsimp only at hSw); go_simp; try (with_reducible rfl))
            (try simp only [Act.put, List.setIfInBounds_toArray, List.set_cons_zero, List.set_cons_succ])
            refine heldTake (i := 2) (d := some 20) (v := ?_) rfl rfl (by kernel_rfl) (by kernel_rfl) (by kernel_rfl) (fun _ _ _ h => h) (by kernel_rfl) ?hyq_12 (by assumption) ?restq_12
            case hyq_12 => (intro W9 hSw; (try dsimp only at hSw); go_simp; try (with_reducible rfl))
            (try simp only [Act.put, List.setIfInBounds_toArray, List.set_cons_zero, List.set_cons_succ])
            refine wpAnyH_ready (rs := [3]) (by kernel_rfl) (by simp) ?_
            refine AllReadyH.cons rfl (fun K hK => ?_) AllReadyH.nil
            go_simp
            go_at_call 60
            refine (sign_any [41] _).mono ?_
            rintro e9 X ⟨rfl, hbX⟩
            have H5x := Lib.hid (H5d.out.below hbX)
            clear hbX
            go_wp2_with fail
            refine hK.out _ _ trivial (fun hHeld => ?_)
            clear hK K
            (try simp only [Act.put, List.setIfInBounds_toArray, List.set_cons_zero, List.set_cons_succ])
            refine wpAnyH_ready (rs := [4]) (by kernel_rfl) (by simp) ?_
            refine AllReadyH.cons rfl (fun K hK => ?_) AllReadyH.nil
            (try rw [if_pos (by kernel_rfl)])
            refine El.op_build1 eTo X 22 (.agg #[.int .u8 0, .string ⟨#[]⟩, .int .i64 0, .int .i64 0]) 40 Try.underlying22 tok_info rfl (by decide) (.tmp 21) rfl (tV ⟨4, [41], 0, 0⟩) ⟨4, [41], 0, 0⟩ rfl rfl ?_
            change K (Act.put _ (some 22) (.slice (some ⟨X.heap.size, 0, none⟩) 1 1)) (X.alloc (.cells (eTo.f ⟨4, [41], 0, 0⟩).toArray 79))
            have hbY := below_lnew X (.cells (eTo.f ⟨4, [41], 0, 0⟩).toArray 79)
            have hT9 := El.liesT_new eTo X [⟨4, [41], 0, 0⟩] (eTo.f ⟨4, [41], 0, 0⟩).toArray (fun i v h => by simpa [eTo, tS] using h)
            obtain ⟨Y, hY⟩ : ∃ Y, X.alloc (.cells (eTo.f ⟨4, [41], 0, 0⟩).toArray 79) = Y := ⟨_, rfl⟩
            replace hT9 : eTo.LiesT (X.alloc (.cells (eTo.f ⟨4, [41], 0, 0⟩).toArray 79)) (some ⟨X.heap.size, 0, none⟩) [⟨4, [41], 0, 0⟩] := hT9
            rw [hY] at hbY hT9 ⊢
            have H5y := Lib.hid (H5x.out.below hbY)
            have HT9 := Lib.hid hT9
            clear hY hbY hT9
            refine hK.out _ _ trivial (fun hHeld => ?_)
            clear hK K
            (try simp only [Act.put, List.setIfInBounds_toArray, List.set_cons_zero, List.set_cons_succ])
            refine wpAnyH_ready (rs := [5]) (by kernel_rfl) (by simp) ?_
            refine AllReadyH.cons rfl (fun K hK => ?_) AllReadyH.nil
            go_simp
            go_at_call 58
            refine (need_any H5y.out.p [⟨4, [41], 0, 0⟩] (one_kd 4 (by decide) _) (some ⟨_, 0, none⟩) 1 HT9.out (by simp)).mono ?_
            rintro e9 Z hN
            rw [nd1_yes hq] at hN
            obtain ⟨rfl, hpZ, hgZ⟩ := hN
            have HI9 := Lib.hid (HO.out.step _ _ _ _ _ HI4.out hpZ (grown_trans H5y.out.g hgZ) (tail_le _))
            clear hpZ hgZ
            go_wp2_with fail
            refine hK.out _ _ trivial (fun hHeld => ?_)
            clear hK K
            (try simp only [Act.put, List.setIfInBounds_toArray, List.set_cons_zero, List.set_cons_succ])
            refine wpAnyH_done (by kernel_rfl) ?_ _
            go_wp2_with fail
            refine bodyPost_end (results_none rfl _ _ _) rfl ?_
            exact LiR.ok' HE.out rfl HI9.out
        · rw [stp_yes hq] at H4
          have HF := Lib.hid (hr2.out.trans (if_pos hq))
          have HI4 := Lib.hid (HO.out.step _ _ _ _ _ hI.out H4.out.p H4.out.g (tail_le _))
          have hvt := tail_len (isS_ne hq)
          obtain ⟨m, rfl⟩ : ∃ m, n = m + 1 := ⟨n - 1, by omega⟩
          have HC := Lib.hid (HO.out.call _ _ _ HI4.out)
          clear H3 H4 hr2 hI hq
          rcases hx : one y2 v2.tail with ⟨y3, v3⟩ | v3 | _
          · rw [hx] at HC
            have hl3 := HO.out.len _ _ _ _ hx
            have HG := Lib.hid (show r = if isS [44] v3 = true then comS one m y3 v3.tail else takeS [41] v3 fun w => .ok y3 w by rw [HF.out, comS, hx]; rfl)
            clear HF hx
            go_wp2_with fail
            refine HC.out.mono ?_
            rintro e w5 ⟨rfl, hi5⟩
            have HI5 := Lib.hid hi5
            have HL5 := Lib.hid ((HO.out.ps _ _ _ hi5).lft)
            clear hi5 HC HI4
            go_wp2_with fail
            go_roundw
            case rel => exact ⟨m, y3, v3, by omega, HG, HI5⟩
            case measure =>
              have h1 := HL3.out
              have h2 := HL5.out
              omega
          · rw [hx] at HC
            have HE := Lib.hid (show r = .bad v3 by rw [HF.out, comS, hx]; rfl)
            go_wp2_with fail
            refine HC.out.mono ?_
            rintro e w5 ⟨rfl, hb5⟩
            go_wp2_with fail
            exact ⟨rfl, LiR.bad' HE.out rfl hb5⟩
          · exact absurd hx (HO.out.nout _ _)
    · rw [hx] at HC
      have HE := Lib.hid (show r = .bad v by rw [HF.out, comS, hx]; rfl)
      go_wp2_with fail
      refine HC.out.mono ?_
      rintro e w2 ⟨rfl, hb2⟩
      go_wp2_with fail
      exact ⟨rfl, LiR.bad' HE.out rfl hb2⟩
    · exact absurd hx (HO.out.nout _ _)
  · rw [stp_yes hq] at H1
    have HE := Lib.hid (HR.out.trans (if_pos hq))
    have HI1 := Lib.hid (HO.out.step _ _ _ _ _ HI.out H1.out.p H1.out.g (tail_le _))
    go_wp2_with fail
    refine bodyPost_end (results_none rfl _ _ _) rfl ?_
    exact LiR.ok' HE.out rfl HI1.out
end
end Go.Proofs.Ytcgohlooelojfaa
