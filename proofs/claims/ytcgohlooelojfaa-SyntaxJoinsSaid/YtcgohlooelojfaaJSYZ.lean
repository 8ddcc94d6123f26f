/-
  Merged for a claim: SYZ.
-/
import Derived.Test.YtcgohlooelojfaaJSYY
import Derived.Deep.CutRange
namespace Go.Proofs.Ytcgohlooelojfaa
open Go Go.RowKit

theorem run_enterS {f : FuncId} {fn : Func} (hf : Try.prog.funcs[f]? = some fn) (hn : (fn.name == "runtime.NumGoroutine") = false) (hb : fn.body.isNone = false) (args : Array Value) (w : World) : (callFunc f args).run Try.prog w = .ok (.enter f args) w := by
  have hn' : ¬ fn.name = "runtime.NumGoroutine" := by simpa using hn
  have hb' : ¬ fn.body = none := fun h => by rw [h] at hb; cases hb
  simp [callFunc, hf, hn', hb', go_sem]
def valO (x : PS) (u : List To) : R PS := valP x.1 x.2 u
def callS (s : SF) (es : List Ex) (u : List To) : R PS :=
  takeK 1 u fun t v => takeS [40] v fun z => lisS valO (⟨5, s.ln, s.nm, s.fl, t.tx, s.ty⟩, es) z
section
variable {w wf W W0 w1 : World} {gp gs : Nat} {A : Option Addr} {c : Nat} {l u : List To} {s : SF} {ks : List XT} {vk vc v : Value} {rows xs : List XT} {r : R PS}
theorem SmZ.box (h : SmZ w wf gp gs A c l s vc rows xs v W u) {b : Nat} {ty : TypeId} {y : Value} (hb : CAt wf b ty [y]) (h1 : ty ≠ 59) (h2 : ty ≠ 53) (h3 : ty ≠ 55) : W.cell? ⟨b, 0, none⟩ = some y :=
  (show CAt W b ty [y] from (h.f b ty ⟨_, _, hb⟩ h1 h2 h3).trans hb).cell (j := 0) (by simp)
def InvV (w W0 : World) (gp gs : Nat) (A : Option Addr) (c : Nat) (l : List To) (x : PS) (u : List To) (W : World) : Prop := ∃ ks vk, xsd ks = x.2 ∧ SmZ w W0 gp gs A c l x.1 vk ks ks vk W u
def BdV (w : World) (gp : Nat) (A : Option Addr) (c : Nat) (l : List To) (u : List To) (W : World) : Prop := Ps W gp A c l u ∧ w.grownBy W (some gp)
set_option maxRecDepth 100000 in
theorem callin_any {b1 b2 : Nat} (hb1 : CAt W0 b1 91 [.pointer (some ⟨gp, 0, none⟩)]) (hb2 : CAt W0 b2 130 [.pointer (some ⟨gs, 0, none⟩)]) (x : PS) (h : InvV w W0 gp gs A c l x u W) :
    Calls Try.prog 97 #[.pointer (some ⟨b1, 0, none⟩), .pointer (some ⟨b2, 0, none⟩)] W (LiR (InvV w W0 gp gs A c l) (BdV w gp A c l) (valO x u)) := by
  obtain ⟨ks, vk, hk, hs⟩ := h
  have c1 := hs.box hb1 (by decide) (by decide) (by decide)
  have c2 := hs.box hb2 (by decide) (by decide) (by decide)
  have HV := Lib.hid (value_any (show SmW w W0 gp gs A c l x.1 ks vk W u from hs))
  rw [hk] at HV
  clear hs hk hb1 hb2
  unfold valO
  obtain ⟨r, hr⟩ : ∃ r, valP x.1 x.2 u = r := ⟨_, rfl⟩
  rw [hr] at HV ⊢
  go_enter Try.func97, Try.ntmps97
  rcases r with ⟨y, z⟩ | z | _
  · go_wp2_with fail
    refine HV.out.mono ?_
    rintro e w2 ⟨rfl, ks2, vk2, hk2, hS⟩
    go_wp2_with fail
    refine bodyPost_end (results_none rfl _ _ _) rfl ?_
    exact ⟨rfl, ks2, vk2, hk2, hS.out⟩
  · go_wp2_with fail
    refine HV.out.mono ?_
    rintro e w2 ⟨rfl, hp, hg⟩
    go_wp2_with fail
    exact ⟨rfl, rfl, hp, hg⟩
  · exact absurd hr (by unfold valP; exact bind_nout (exP_ne u) fun _ _ _ => ok_nout)
theorem call_owes {b1 b2 : Nat} (hb1 : CAt W0 b1 91 [.pointer (some ⟨gp, 0, none⟩)]) (hb2 : CAt W0 b2 130 [.pointer (some ⟨gs, 0, none⟩)]) :
    OneL gp A c l (InvV w W0 gp gs A c l) (BdV w gp A c l) valO 97 (#[] ++ #[.pointer (some ⟨b1, 0, none⟩), .pointer (some ⟨b2, 0, none⟩)]) where
  enter := fun a w => run_enterS Try.func97 (by kernel_rfl) (by kernel_rfl) a w
  call := fun x u W h => callin_any hb1 hb2 x h
  ps := fun _ _ _ ⟨_, _, _, h⟩ => h.p
  step := fun _ _ _ _ _ ⟨ks, vk, hk, h⟩ hp hg hu => ⟨ks, vk, hk, h.step hp hg hu⟩
  bad := fun _ _ _ ⟨_, _, _, h⟩ => ⟨h.p, h.g⟩
  len := fun x u y v h => by
    unfold valO valP at h
    obtain ⟨e, z, h1, h2⟩ := bind_is h
    injection h2 with _ h2
    subst h2
    exact exP_len h1
  nout := fun x u => bind_nout (exP_ne u) fun _ _ _ => ok_nout
set_option maxRecDepth 100000 in
set_option maxHeartbeats 8000000 in
theorem call_any (h : SmW w wf gp gs A c l s ks vk w1 u) : Calls Try.prog 91 #[.pointer (some ⟨gp, 0, none⟩), .pointer (some ⟨gs, 0, none⟩)] w1 (SmR w wf gp gs A c l (callS s (xsd ks) u)) := by
  obtain ⟨r, hr⟩ : ∃ r, callS s (xsd ks) u = r := ⟨_, rfl⟩
  rw [hr]
  have HR := Lib.hid (show r = takeK 1 u fun t v => takeS [40] v fun z => lisS valO (⟨5, s.ln, s.nm, s.fl, t.tx, s.ty⟩, xsd ks) z from hr.symm)
  have hal := below_al2 w1 (.cells #[.pointer (some ⟨gp, 0, none⟩)] 91) (.cells #[.pointer (some ⟨gs, 0, none⟩)] 130)
  have HB1 : Hid (CAt ((w1.alloc (.cells #[.pointer (some ⟨gp, 0, none⟩)] 91)).alloc (.cells #[.pointer (some ⟨gs, 0, none⟩)] 130)) w1.heap.size 91 [.pointer (some ⟨gp, 0, none⟩)]) := ((below_lnew _ _).block w1.heap.size (by simp)).trans (heap_alloc_new w1 _)
  have HB2 : Hid (CAt ((w1.alloc (.cells #[.pointer (some ⟨gp, 0, none⟩)] 91)).alloc (.cells #[.pointer (some ⟨gs, 0, none⟩)] 130)) (w1.heap.size + 1) 130 [.pointer (some ⟨gs, 0, none⟩)]) := new_at _ _ (by simp) _
  have H0 := Lib.hid ((show SmZ w wf gp gs A c l s vk ks ks vk w1 u from h).below hal)
  have HFR := Lib.hid (FrS.trans (show FrS wf w1 from (show SmZ w wf gp gs A c l s vk ks ks vk w1 u from h).f) (.of_below hal))
  clear h hr hal
  go_enter Try.func91, Try.ntmps91
  go_upto_region 1 with fail
  generalize w1.heap.size + 1 = b2 at *
  generalize w1.heap.size = b1 at *
  obtain ⟨W0, hW0⟩ : ∃ W0, (w1.alloc (.cells #[.pointer (some ⟨gp, 0, none⟩)] 91)).alloc (.cells #[.pointer (some ⟨gs, 0, none⟩)] 130) = W0 := ⟨_, rfl⟩
  rw [hW0] at H0 HB1 HB2 HFR ⊢
  clear hW0
  have H1 := Lib.hid H0.out.rebase
  have H2 := Lib.hid (H1.out.setKd 5)
  have x1 := H1.out.box HB1.out (by decide) (by decide) (by decide)
  have x2 := H1.out.box HB2.out (by decide) (by decide) (by decide)
  have q0 := H1.out.s.cell (j := 0) (by simp [SF.cs])
  have qf0 := H1.out.s.frozen 0
  simp only [SF.cs, List.getElem_cons_zero] at q0
  go_wp2_with fail
  obtain ⟨W2, hW2⟩ : ∃ W2, W0.setCell ⟨gs, 0, none⟩ (.int .u8 5) = W2 := ⟨_, rfl⟩
  rw [hW2] at H2 ⊢
  clear hW2 x1 x2 H0 H1
  clear q0 qf0
  have HD := Lib.hid H2.out.drew
  refine wp_region_held_drew (S := fun W9 => W9.cell? ⟨b1, 0, none⟩ = some (.pointer (some ⟨gp, 0, none⟩)) ∧ W9.cell? ⟨b2, 0, none⟩ = some (.pointer (some ⟨gs, 0, none⟩))) (by kernel_rfl) (⟨H2.out.box HB1.out (by decide) (by decide) (by decide), H2.out.box HB2.out (by decide) (by decide) (by decide)⟩) (fun hHeld => ?_)
  generalize W2.drew = Wd at *
  refine heldTake (i := 0) (d := some 7) (v := ?_) rfl rfl (by kernel_rfl) (by kernel_rfl) (by kernel_rfl) (fun _ _ _ h => h) (by kernel_rfl) ?hyq_1 (by assumption) ?restq_1
  case hyq_1 => (intro W9 hSw; (try dsimp only at hSw); go_simp; try (with_reducible rfl))
  (try simp only [Act.put, List.setIfInBounds_toArray, List.set_cons_zero, List.set_cons_succ])
  refine heldTake (i := 1) (d := some 8) (v := ?_) rfl rfl (by kernel_rfl) (by kernel_rfl) (by kernel_rfl) (fun _ _ _ h => h) (by kernel_rfl) ?hyq_2 (by assumption) ?restq_2
  case hyq_2 => (intro W9 hSw; (try dsimp only at hSw); go_simp; try (with_reducible rfl))
  (try simp only [Act.put, List.setIfInBounds_toArray, List.set_cons_zero, List.set_cons_succ])
  refine heldTake (i := 2) (d := some 9) (v := ?_) rfl rfl (by kernel_rfl) (by kernel_rfl) (by kernel_rfl) (fun _ _ _ h => h) (by kernel_rfl) ?hyq_3 (by assumption) ?restq_3
  case hyq_3 => (intro W9 hSw; (try dsimp only at hSw); go_simp; try (with_reducible rfl))
  (try simp only [Act.put, List.setIfInBounds_toArray, List.set_cons_zero, List.set_cons_succ])
  refine heldTake (i := 3) (d := some 10) (v := ?_) rfl rfl (by kernel_rfl) (by kernel_rfl) (by kernel_rfl) (fun _ _ _ h => h) (by kernel_rfl) ?hyq_4 (by assumption) ?restq_4
  case hyq_4 => (intro W9 hSw; (try dsimp only at hSw); go_simp; try (with_reducible rfl))
  (try simp only [Act.put, List.setIfInBounds_toArray, List.set_cons_zero, List.set_cons_succ])
  refine wpAnyH_ready (rs := [4]) (by kernel_rfl) (by simp) ?_
  refine AllReadyH.cons rfl (fun K hK => ?_) AllReadyH.nil
  go_simp
  go_at_call 59
  cases hk : isK 1 u
  · have HF := Lib.hid (HR.out.trans (takeK_no hk))
    refine (name_no HD.out.p hk).mono ?_
    rintro e9 X ⟨rfl, hpX, hgX⟩
    have hg9 := grown_trans HD.out.g hgX
    go_wp2_with fail
    exact ⟨rfl, SmR.bad' HF.out rfl hpX hg9⟩
  · have HF := Lib.hid (HR.out.trans (takeK_yes hk))
    refine (name_yes HD.out.p hk).mono ?_
    rintro e9 X ⟨rfl, hpX, hgX⟩
    have HX := Lib.hid (HD.out.step hpX hgX (tail_le u))
    have H3 := Lib.hid (HX.out.setCl (hd u).tx)
    generalize hd u = t at *
    generalize u.tail = v at *
    clear hpX hgX hk HR HD H2
    go_wp2_with fail
    refine hK.out _ _ ⟨HX.out.box HB1.out (by decide) (by decide) (by decide), HX.out.box HB2.out (by decide) (by decide) (by decide)⟩ (fun hHeld => ?_)
    clear hK K
    (try simp only [Act.put, List.setIfInBounds_toArray, List.set_cons_zero, List.set_cons_succ])
    refine heldTake (i := 5) (d := some 12) (v := ?_) rfl rfl (by kernel_rfl) (by kernel_rfl) (by kernel_rfl) (fun _ _ _ h => h) (by kernel_rfl) ?hyq_5 (by assumption) ?restq_5
    case hyq_5 => (intro W9 hSw; (try dsimp only at hSw); go_simp; try (with_reducible rfl))
    (try simp only [Act.put, List.setIfInBounds_toArray, List.set_cons_zero, List.set_cons_succ])
    refine heldTake (i := 6) (d := some 13) (v := ?_) rfl rfl (by kernel_rfl) (by kernel_rfl) (by kernel_rfl) (fun _ _ _ h => h) (by kernel_rfl) ?hyq_6 (by assumption) ?restq_6
    case hyq_6 => (intro W9 hSw; (try dsimp only at hSw); go_simp; try (with_reducible rfl))
    (try simp only [Act.put, List.setIfInBounds_toArray, List.set_cons_zero, List.set_cons_succ])
    refine wpAnyH_ready (rs := [7]) (by kernel_rfl) (by simp) ?_
    refine AllReadyH.cons rfl (fun K hK => ?_) AllReadyH.nil
    have q4 := HX.out.s.cell (j := 4) (by simp [SF.cs])
    have qf4 := HX.out.s.frozen 4
    simp only [SF.cs, List.getElem_cons_zero, List.getElem_cons_succ] at q4
    go_simp
    refine hK.out _ _ ⟨H3.out.box HB1.out (by decide) (by decide) (by decide), H3.out.box HB2.out (by decide) (by decide) (by decide)⟩ (fun hHeld => ?_)
    clear hK K
    (try simp only [Act.put, List.setIfInBounds_toArray, List.set_cons_zero, List.set_cons_succ])
    refine wpAnyH_done (by kernel_rfl) ?_ _
    obtain ⟨W3, hW3⟩ : ∃ W3, X.setCell ⟨gs, 4, none⟩ (.string (str t.tx)) = W3 := ⟨_, rfl⟩
    rw [hW3] at H3 ⊢
    clear hW3 HX
    clear q4 qf4
    go_wp2_with fail
    cases hq : isT 4 [40] v
    · have HE := Lib.hid (HF.out.trans (takeS_no hq))
      refine wp_region_held_drew (S := fun W9 => W9.cell? ⟨b1, 0, none⟩ = some (.pointer (some ⟨gp, 0, none⟩))) (by kernel_rfl) (H3.out.box HB1.out (by decide) (by decide) (by decide)) (fun hHeld => ?_)
      have H5d := Lib.hid H3.out.drew
      refine heldTake (i := 0) (d := some 14) (v := ?_) rfl rfl (by kernel_rfl) (by kernel_rfl) (by kernel_rfl) (fun _ _ _ h => h) (by kernel_rfl) ?hyq_7 (by assumption) ?restq_7
      case hyq_7 => (intro W9 hSw; (try dsimp only at hSw); go_simp; try (with_reducible rfl))
      (try simp only [Act.put, List.setIfInBounds_toArray, List.set_cons_zero, List.set_cons_succ])
      refine heldTake (i := 1) (d := some 15) (v := ?_) rfl rfl (by kernel_rfl) (by kernel_rfl) (by kernel_rfl) (fun _ _ _ h => h) (by kernel_rfl) ?hyq_8 (by assumption) ?restq_8
      case hyq_8 => (intro W9 hSw; (try dsimp only at hSw); go_simp; try (with_reducible rfl))
      (try simp only [Act.put, List.setIfInBounds_toArray, List.set_cons_zero, List.set_cons_succ])
      refine heldTake (i := 2) (d := some 16) (v := ?_) rfl rfl (by kernel_rfl) (by kernel_rfl) (by kernel_rfl) (fun _ _ _ h => h) (by kernel_rfl) ?hyq_9 (by assumption) ?restq_9
      case hyq_9 => (intro W9 hSw; (try dsimp only at hSw); go_simp; try (with_reducible rfl))
      (try simp only [Act.put, List.setIfInBounds_toArray, List.set_cons_zero, List.set_cons_succ])
      refine wpAnyH_ready (rs := [3]) (by kernel_rfl) (by simp) ?_
      refine AllReadyH.cons rfl (fun K hK => ?_) AllReadyH.nil
      go_simp
      go_at_call 60
      refine (sign_any [40] _).mono ?_
      rintro e9 X ⟨rfl, hbX⟩
      have H5x := Lib.hid (H5d.out.below hbX)
      clear hbX
      go_wp2_with fail
      refine hK.out _ _ (H5x.out.box HB1.out (by decide) (by decide) (by decide)) (fun hHeld => ?_)
      clear hK K
      (try simp only [Act.put, List.setIfInBounds_toArray, List.set_cons_zero, List.set_cons_succ])
      refine wpAnyH_ready (rs := [4]) (by kernel_rfl) (by simp) ?_
      refine AllReadyH.cons rfl (fun K hK => ?_) AllReadyH.nil
      (try rw [if_pos (by kernel_rfl)])
      refine El.op_build1 eTo X 22 (.agg #[.int .u8 0, .string ⟨#[]⟩, .int .i64 0, .int .i64 0]) 40 Try.underlying22 tok_info rfl (by decide) (.tmp 17) rfl (tV ⟨4, [40], 0, 0⟩) ⟨4, [40], 0, 0⟩ rfl rfl ?_
      change K (Act.put _ (some 18) (.slice (some ⟨X.heap.size, 0, none⟩) 1 1)) (X.alloc (.cells (eTo.f ⟨4, [40], 0, 0⟩).toArray 79))
      have hbY := below_lnew X (.cells (eTo.f ⟨4, [40], 0, 0⟩).toArray 79)
      have hT9 := El.liesT_new eTo X [⟨4, [40], 0, 0⟩] (eTo.f ⟨4, [40], 0, 0⟩).toArray (fun i v h => by simpa [eTo, tS] using h)
      obtain ⟨Y, hY⟩ : ∃ Y, X.alloc (.cells (eTo.f ⟨4, [40], 0, 0⟩).toArray 79) = Y := ⟨_, rfl⟩
      replace hT9 : eTo.LiesT (X.alloc (.cells (eTo.f ⟨4, [40], 0, 0⟩).toArray 79)) (some ⟨X.heap.size, 0, none⟩) [⟨4, [40], 0, 0⟩] := hT9
      rw [hY] at hbY hT9 ⊢
      have H5y := Lib.hid (H5x.out.below hbY)
      have HT9 := Lib.hid hT9
      clear hY hbY hT9
      refine hK.out _ _ (H5y.out.box HB1.out (by decide) (by decide) (by decide)) (fun hHeld => ?_)
      clear hK K
      (try simp only [Act.put, List.setIfInBounds_toArray, List.set_cons_zero, List.set_cons_succ])
      refine wpAnyH_ready (rs := [5]) (by kernel_rfl) (by simp) ?_
      refine AllReadyH.cons rfl (fun K hK => ?_) AllReadyH.nil
      go_simp
      go_at_call 58
      refine (need_any H5y.out.p [⟨4, [40], 0, 0⟩] (one_kd 4 (by decide) _) (some ⟨_, 0, none⟩) 1 HT9.out (by simp)).mono ?_
      rintro e9 Z hN
      rw [nd1_no hq] at hN
      obtain ⟨rfl, hpZ, hgZ⟩ := hN
      have hg9 := grown_trans H5y.out.g hgZ
      go_wp2_with fail
      exact ⟨rfl, SmR.bad' HE.out rfl hpZ hg9⟩
    · have HE := Lib.hid (HF.out.trans (takeS_yes hq))
      refine wp_region_held_drew (S := fun W9 => W9.cell? ⟨b1, 0, none⟩ = some (.pointer (some ⟨gp, 0, none⟩))) (by kernel_rfl) (H3.out.box HB1.out (by decide) (by decide) (by decide)) (fun hHeld => ?_)
      have H5d := Lib.hid H3.out.drew
      refine heldTake (i := 0) (d := some 14) (v := ?_) rfl rfl (by kernel_rfl) (by kernel_rfl) (by kernel_rfl) (fun _ _ _ h => h) (by kernel_rfl) ?hyq_10 (by assumption) ?restq_10
      case hyq_10 => (intro W9 hSw; (try dsimp only at hSw); go_simp; try (with_reducible rfl))
      (try simp only [Act.put, List.setIfInBounds_toArray, List.set_cons_zero, List.set_cons_succ])
      refine heldTake (i := 1) (d := some 15) (v := ?_) rfl rfl (by kernel_rfl) (by kernel_rfl) (by kernel_rfl) (fun _ _ _ h => h) (by kernel_rfl) ?hyq_11 (by assumption) ?restq_11
      case hyq_11 => (intro W9 hSw; (try dsimp only at hSw); go_simp; try (with_reducible rfl))
      (try simp only [Act.put, List.setIfInBounds_toArray, List.set_cons_zero, List.set_cons_succ])
      refine heldTake (i := 2) (d := some 16) (v := ?_) rfl rfl (by kernel_rfl) (by kernel_rfl) (by kernel_rfl) (fun _ _ _ h => h) (by kernel_rfl) ?hyq_12 (by assumption) ?restq_12
      case hyq_12 => (intro W9 hSw; (try dsimp only at hSw); go_simp; try (with_reducible rfl))
      (try simp only [Act.put, List.setIfInBounds_toArray, List.set_cons_zero, List.set_cons_succ])
      refine wpAnyH_ready (rs := [3]) (by kernel_rfl) (by simp) ?_
      refine AllReadyH.cons rfl (fun K hK => ?_) AllReadyH.nil
      go_simp
      go_at_call 60
      refine (sign_any [40] _).mono ?_
      rintro e9 X ⟨rfl, hbX⟩
      have H5x := Lib.hid (H5d.out.below hbX)
      clear hbX
      go_wp2_with fail
      refine hK.out _ _ (H5x.out.box HB1.out (by decide) (by decide) (by decide)) (fun hHeld => ?_)
      clear hK K
      (try simp only [Act.put, List.setIfInBounds_toArray, List.set_cons_zero, List.set_cons_succ])
      refine wpAnyH_ready (rs := [4]) (by kernel_rfl) (by simp) ?_
      refine AllReadyH.cons rfl (fun K hK => ?_) AllReadyH.nil
      (try rw [if_pos (by kernel_rfl)])
      refine El.op_build1 eTo X 22 (.agg #[.int .u8 0, .string ⟨#[]⟩, .int .i64 0, .int .i64 0]) 40 Try.underlying22 tok_info rfl (by decide) (.tmp 17) rfl (tV ⟨4, [40], 0, 0⟩) ⟨4, [40], 0, 0⟩ rfl rfl ?_
      change K (Act.put _ (some 18) (.slice (some ⟨X.heap.size, 0, none⟩) 1 1)) (X.alloc (.cells (eTo.f ⟨4, [40], 0, 0⟩).toArray 79))
      have hbY := below_lnew X (.cells (eTo.f ⟨4, [40], 0, 0⟩).toArray 79)
      have hT9 := El.liesT_new eTo X [⟨4, [40], 0, 0⟩] (eTo.f ⟨4, [40], 0, 0⟩).toArray (fun i v h => by simpa [eTo, tS] using h)
      obtain ⟨Y, hY⟩ : ∃ Y, X.alloc (.cells (eTo.f ⟨4, [40], 0, 0⟩).toArray 79) = Y := ⟨_, rfl⟩
      replace hT9 : eTo.LiesT (X.alloc (.cells (eTo.f ⟨4, [40], 0, 0⟩).toArray 79)) (some ⟨X.heap.size, 0, none⟩) [⟨4, [40], 0, 0⟩] := hT9
      rw [hY] at hbY hT9 ⊢
      have H5y := Lib.hid (H5x.out.below hbY)
      have HT9 := Lib.hid hT9
      clear hY hbY hT9
      refine hK.out _ _ (H5y.out.box HB1.out (by decide) (by decide) (by decide)) (fun hHeld => ?_)
      clear hK K
      (try simp only [Act.put, List.setIfInBounds_toArray, List.set_cons_zero, List.set_cons_succ])
      refine wpAnyH_ready (rs := [5]) (by kernel_rfl) (by simp) ?_
      refine AllReadyH.cons rfl (fun K hK => ?_) AllReadyH.nil
      go_simp
      go_at_call 58
      refine (need_any H5y.out.p [⟨4, [40], 0, 0⟩] (one_kd 4 (by decide) _) (some ⟨_, 0, none⟩) 1 HT9.out (by simp)).mono ?_
      rintro e9 Z hN
      rw [nd1_yes hq] at hN
      obtain ⟨rfl, hpZ, hgZ⟩ := hN
      have H5 := Lib.hid (H5y.out.step hpZ hgZ (tail_le _))
      clear hpZ hgZ H5d H5x H5y HT9
      go_wp2_with fail
      refine hK.out _ _ (H5.out.box HB1.out (by decide) (by decide) (by decide)) (fun hHeld => ?_)
      clear hK K
      (try simp only [Act.put, List.setIfInBounds_toArray, List.set_cons_zero, List.set_cons_succ])
      refine wpAnyH_done (by kernel_rfl) ?_ _
      have hi5 : InvV w W0 gp gs A c l (⟨5, s.ln, s.nm, s.fl, t.tx, s.ty⟩, xsd ks) v.tail Z := ⟨ks, vk, rfl, H5.out⟩
      have HL := Lib.hid (listed_any 97 #[] #[.pointer (some ⟨b1, 0, none⟩), .pointer (some ⟨b2, 0, none⟩)] (call_owes HB1.out HB2.out) hi5)
      have x1 := H5.out.box HB1.out (by decide) (by decide) (by decide)
      clear hi5 H3 HF
      go_wp2_with fail
      rcases hr9 : lisS valO (⟨5, s.ln, s.nm, s.fl, t.tx, s.ty⟩, xsd ks) v.tail with ⟨y, z⟩ | z | _
      · rw [hr9] at HE HL
        refine HL.out.mono ?_
        rintro e w6 ⟨rfl, ks6, vk6, hk6, hS6⟩
        have HS6 := Lib.hid (hS6.front HFR.out)
        clear hS6
        go_wp2_with fail
        refine bodyPost_end (results_none rfl _ _ _) rfl ?_
        exact SmR.ok' HE.out rfl hk6 HS6.out
      · rw [hr9] at HE HL
        refine HL.out.mono ?_
        rintro e w6 ⟨rfl, hp6, hg6⟩
        go_wp2_with fail
        exact ⟨rfl, SmR.bad' HE.out rfl hp6 hg6⟩
      · rw [hr9] at HL
        refine HL.out.mono ?_
        rintro e w6 h6
        exact h6.elim
end
end Go.Proofs.Ytcgohlooelojfaa
