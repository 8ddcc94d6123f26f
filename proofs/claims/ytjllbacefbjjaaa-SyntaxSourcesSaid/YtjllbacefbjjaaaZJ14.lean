/-
  Merged for a claim: SYZ, S0A.
-/
import Derived.Test.YtjllbacefbjjaaaZJ13
import Derived.Deep.CutRange
namespace Go.Proofs.Ytjllbacefbjjaaa
open Go Go.RowKit

theorem run_enterS {f : FuncId} {fn : Func} (hf : Try.prog.funcs[f]? = some fn) (hn : (fn.name == "runtime.NumGoroutine") = false) (hb : fn.body.isNone = false) (args : Array Value) (w : World) : (callFunc f args).run Try.prog w = .ok (.enter f args) w := by
 have hn' : ¬ fn.name = "runtime.NumGoroutine" := by simpa using hn
 have hb' : ¬ fn.body = none := fun h => by rw [h] at hb; cases hb
 simp [callFunc, hf, hn', hb', go_sem]
def valO (x : PS) (u : List To) : R PS := valP x.1 x.2 u
def callS (s : SF) (es : List Ex) (u : List To) : R PS :=
 takeK 1 u fun t v => takeS [40] v fun z => lisS valO (⟨5, s.ln, s.nm, s.fl, t.tx, s.ty⟩, es) z
section
variable {w wf W W0 w1 : World} {gp gs : Nat} {A : Option Addr} {c : Nat} {l u : List To} {s : SF} {ks : List XT} {vk vc v : Value} {rows xs : List XT} {r : R PS}
theorem SmZ.box (h : SmZ w wf gp gs A c l s vc rows xs v W u) {b : Nat} {ty : TypeId} {y : Value} (hb : CAt wf b ty [y]) (h1 : ty ≠ 57) (h2 : ty ≠ 51) (h3 : ty ≠ 53) : W.cell? ⟨b, 0, none⟩ = some y :=
 (show CAt W b ty [y] from (h.f b ty ⟨_, _, hb⟩ h1 h2 h3).trans hb).cell (j := 0) (by simp)
def InvV (w W0 : World) (gp gs : Nat) (A : Option Addr) (c : Nat) (l : List To) (x : PS) (u : List To) (W : World) : Prop := ∃ ks vk, xsd ks = x.2 ∧ SmZ w W0 gp gs A c l x.1 vk ks ks vk W u
def BdV (w : World) (gp : Nat) (A : Option Addr) (c : Nat) (l : List To) (u : List To) (W : World) : Prop := Ps W gp A c l u ∧ w.grownBy W (some gp)
set_option maxRecDepth 100000 in
theorem callin_any {b1 b2 : Nat} (hb1 : CAt W0 b1 89 [.pointer (some ⟨gp, 0, none⟩)]) (hb2 : CAt W0 b2 128 [.pointer (some ⟨gs, 0, none⟩)]) (x : PS) (h : InvV w W0 gp gs A c l x u W) :
 Calls Try.prog 95 #[.pointer (some ⟨b1, 0, none⟩), .pointer (some ⟨b2, 0, none⟩)] W (LiR (InvV w W0 gp gs A c l) (BdV w gp A c l) (valO x u)) := by
 obtain ⟨ks, vk, hk, hs⟩ := h
 have c1 := hs.box hb1 (by decide) (by decide) (by decide)
 have c2 := hs.box hb2 (by decide) (by decide) (by decide)
 have HV := Lib.hid (value_any (show SmW w W0 gp gs A c l x.1 ks vk W u from hs))
 rw [hk] at HV
 clear hs hk hb1 hb2
 unfold valO
 obtain ⟨r, hr⟩ : ∃ r, valP x.1 x.2 u = r := ⟨_, rfl⟩
 rw [hr] at HV ⊢
 go_enter Try.func95, Try.ntmps95
 rcases r with ⟨y, z⟩ | z | _
 · go_wp2_with fail
   refine HV.out.mono ?_
   rintro e w2 ⟨rfl, ks2, vk2, hk2, hS⟩
   go_wp2_with fail
   refine bodyPost_end (results_none rfl _ _ _) rfl ?_
   exact ⟨rfl, ks2, vk2, hk2, hS.out⟩
 · go_wp2_with fail
   refine HV.out.mono ?_
   rintro e w2 ⟨rfl, hp, hg⟩
   go_wp2_with fail
   exact ⟨rfl, rfl, hp, hg⟩
 · exact absurd hr (by unfold valP; exact bind_nout (exP_ne u) fun _ _ _ => ok_nout)
theorem call_owes {b1 b2 : Nat} (hb1 : CAt W0 b1 89 [.pointer (some ⟨gp, 0, none⟩)]) (hb2 : CAt W0 b2 128 [.pointer (some ⟨gs, 0, none⟩)]) :
 OneL gp A c l (InvV w W0 gp gs A c l) (BdV w gp A c l) valO 95 (#[] ++ #[.pointer (some ⟨b1, 0, none⟩), .pointer (some ⟨b2, 0, none⟩)]) where
 enter := fun a w => run_enterS Try.func95 (by kernel_rfl) (by kernel_rfl) a w
 call := fun x u W h => callin_any hb1 hb2 x h
 ps := fun _ _ _ ⟨_, _, _, h⟩ => h.p
 step := fun _ _ _ _ _ ⟨ks, vk, hk, h⟩ hp hg hu => ⟨ks, vk, hk, h.step hp hg hu⟩
 bad := fun _ _ _ ⟨_, _, _, h⟩ => ⟨h.p, h.g⟩
 len := fun x u y v h => by
  unfold valO valP at h
  obtain ⟨e, z, h1, h2⟩ := bind_is h
  injection h2 with _ h2
  subst h2
  exact exP_len h1
 nout := fun x u => bind_nout (exP_ne u) fun _ _ _ => ok_nout
set_option maxRecDepth 100000 in
set_option maxHeartbeats 8000000 in
theorem call_any (h : SmW w wf gp gs A c l s ks vk w1 u) : Calls Try.prog 89 #[.pointer (some ⟨gp, 0, none⟩), .pointer (some ⟨gs, 0, none⟩)] w1 (SmR w wf gp gs A c l (callS s (xsd ks) u)) := by
 obtain ⟨r, hr⟩ : ∃ r, callS s (xsd ks) u = r := ⟨_, rfl⟩
 rw [hr]
 have HR := Lib.hid (show r = takeK 1 u fun t v => takeS [40] v fun z => lisS valO (⟨5, s.ln, s.nm, s.fl, t.tx, s.ty⟩, xsd ks) z from hr.symm)
 have hal := below_al2 w1 (.cells #[.pointer (some ⟨gp, 0, none⟩)] 89) (.cells #[.pointer (some ⟨gs, 0, none⟩)] 128)
 have HB1 : Hid (CAt ((w1.alloc (.cells #[.pointer (some ⟨gp, 0, none⟩)] 89)).alloc (.cells #[.pointer (some ⟨gs, 0, none⟩)] 128)) w1.heap.size 89 [.pointer (some ⟨gp, 0, none⟩)]) := ((below_lnew _ _).block w1.heap.size (by simp)).trans (heap_alloc_new w1 _)
 have HB2 : Hid (CAt ((w1.alloc (.cells #[.pointer (some ⟨gp, 0, none⟩)] 89)).alloc (.cells #[.pointer (some ⟨gs, 0, none⟩)] 128)) (w1.heap.size + 1) 128 [.pointer (some ⟨gs, 0, none⟩)]) := new_at _ _ (by simp) _
 have H0 := Lib.hid ((show SmZ w wf gp gs A c l s vk ks ks vk w1 u from h).below hal)
 have HFR := Lib.hid (FrS.trans (show FrS wf w1 from (show SmZ w wf gp gs A c l s vk ks ks vk w1 u from h).f) (.of_below hal))
 clear h hr hal
 go_enter Try.func89, Try.ntmps89
 go_upto_region 1 with fail
 generalize w1.heap.size + 1 = b2 at *
 generalize w1.heap.size = b1 at *
 obtain ⟨W0, hW0⟩ : ∃ W0, (w1.alloc (.cells #[.pointer (some ⟨gp, 0, none⟩)] 89)).alloc (.cells #[.pointer (some ⟨gs, 0, none⟩)] 128) = W0 := ⟨_, rfl⟩
 rw [hW0] at H0 HB1 HB2 HFR ⊢
 clear hW0
 have H1 := Lib.hid H0.out.rebase
 have H2 := Lib.hid (H1.out.setKd 5)
 have x1 := H1.out.box HB1.out (by decide) (by decide) (by decide)
 have x2 := H1.out.box HB2.out (by decide) (by decide) (by decide)
 have q0 := H1.out.s.cell (j := 0) (by simp [SF.cs])
 have qf0 := H1.out.s.frozen 0
 simp only [SF.cs, List.getElem_cons_zero] at q0
 go_wp2_with fail
 obtain ⟨W2, hW2⟩ : ∃ W2, W0.setCell ⟨gs, 0, none⟩ (.int .u8 5) = W2 := ⟨_, rfl⟩
 rw [hW2] at H2 ⊢
 clear hW2 x1 x2 H0 H1
 clear q0 qf0
 have HD := Lib.hid H2.out.drew
 refine wp_region_held_drew (S := fun W9 => W9.cell? ⟨b1, 0, none⟩ = some (.pointer (some ⟨gp, 0, none⟩)) ∧ W9.cell? ⟨b2, 0, none⟩ = some (.pointer (some ⟨gs, 0, none⟩))) (by kernel_rfl) (⟨H2.out.box HB1.out (by decide) (by decide) (by decide), H2.out.box HB2.out (by decide) (by decide) (by decide)⟩) (fun hHeld => ?_)
 generalize W2.drew = Wd at *
 refine heldTake (i := 0) (d := some 7) (v := ?_) rfl rfl (by kernel_rfl) (by kernel_rfl) (by kernel_rfl) (fun _ _ _ h => h) (by kernel_rfl) ?hyq_1 (by assumption) ?restq_1
 case hyq_1 => (intro W9 hSw; (try dsimp only at hSw); go_simp; try (with_reducible rfl))
 (try simp only [Act.put, nA, nB, nC])
 refine heldTake (i := 1) (d := some 8) (v := ?_) rfl rfl (by kernel_rfl) (by kernel_rfl) (by kernel_rfl) (fun _ _ _ h => h) (by kernel_rfl) ?hyq_2 (by assumption) ?restq_2
 case hyq_2 => (intro W9 hSw; (try dsimp only at hSw); go_simp; try (with_reducible rfl))
 (try simp only [Act.put, nA, nB, nC])
 refine heldTake (i := 2) (d := some 9) (v := ?_) rfl rfl (by kernel_rfl) (by kernel_rfl) (by kernel_rfl) (fun _ _ _ h => h) (by kernel_rfl) ?hyq_3 (by assumption) ?restq_3
 case hyq_3 => (intro W9 hSw; (try dsimp only at hSw); go_simp; try (with_reducible rfl))
 (try simp only [Act.put, nA, nB, nC])
 refine heldTake (i := 3) (d := some 10) (v := ?_) rfl rfl (by kernel_rfl) (by kernel_rfl) (by kernel_rfl) (fun _ _ _ h => h) (by kernel_rfl) ?hyq_4 (by assumption) ?restq_4
 case hyq_4 => (intro W9 hSw; (try dsimp only at hSw); go_simp; try (with_reducible rfl))
 (try simp only [Act.put, nA, nB, nC])
 refine wpAnyH_ready (rs := [4]) (by kernel_rfl) (by simp) ?_
 refine AllReadyH.cons rfl (fun K hK => ?_) AllReadyH.nil
 go_simp
 go_at_call 57
 cases hk : isK 1 u
 · have HF := Lib.hid (HR.out.trans (takeK_no hk))
   refine (name_no HD.out.p hk).mono ?_
   rintro e9 X ⟨rfl, hpX, hgX⟩
   have hg9 := grown_trans HD.out.g hgX
   go_wp2_with fail
   exact ⟨rfl, SmR.bad' HF.out rfl hpX hg9⟩
 · have HF := Lib.hid (HR.out.trans (takeK_yes hk))
   refine (name_yes HD.out.p hk).mono ?_
   rintro e9 X ⟨rfl, hpX, hgX⟩
   have HX := Lib.hid (HD.out.step hpX hgX (tail_le u))
   have H3 := Lib.hid (HX.out.setCl (hd u).tx)
   generalize hd u = t at *
   generalize u.tail = v at *
   clear hpX hgX hk HR HD H2
   go_wp2_with fail
   refine hK.out _ _ ⟨HX.out.box HB1.out (by decide) (by decide) (by decide), HX.out.box HB2.out (by decide) (by decide) (by decide)⟩ (fun hHeld => ?_)
   clear hK K
   (try simp only [Act.put, nA, nB, nC])
   refine heldTake (i := 5) (d := some 12) (v := ?_) rfl rfl (by kernel_rfl) (by kernel_rfl) (by kernel_rfl) (fun _ _ _ h => h) (by kernel_rfl) ?hyq_5 (by assumption) ?restq_5
   case hyq_5 => (intro W9 hSw; (try dsimp only at hSw); go_simp; try (with_reducible rfl))
   (try simp only [Act.put, nA, nB, nC])
   refine heldTake (i := 6) (d := some 13) (v := ?_) rfl rfl (by kernel_rfl) (by kernel_rfl) (by kernel_rfl) (fun _ _ _ h => h) (by kernel_rfl) ?hyq_6 (by assumption) ?restq_6
   case hyq_6 => (intro W9 hSw; (try dsimp only at hSw); go_simp; try (with_reducible rfl))
   (try simp only [Act.put, nA, nB, nC])
   refine wpAnyH_ready (rs := [7]) (by kernel_rfl) (by simp) ?_
   refine AllReadyH.cons rfl (fun K hK => ?_) AllReadyH.nil
   have q4 := HX.out.s.cell (j := 4) (by simp [SF.cs])
   have qf4 := HX.out.s.frozen 4
   simp only [SF.cs, List.getElem_cons_zero, List.getElem_cons_succ] at q4
   go_simp
   refine hK.out _ _ ⟨H3.out.box HB1.out (by decide) (by decide) (by decide), H3.out.box HB2.out (by decide) (by decide) (by decide)⟩ (fun hHeld => ?_)
   clear hK K
   (try simp only [Act.put, nA, nB, nC])
   refine wpAnyH_done (by kernel_rfl) ?_ _
   obtain ⟨W3, hW3⟩ : ∃ W3, X.setCell ⟨gs, 4, none⟩ (.string (str t.tx)) = W3 := ⟨_, rfl⟩
   rw [hW3] at H3 ⊢
   clear hW3 HX
   clear q4 qf4
   go_wp2_with fail
   cases hq : isT 4 [40] v
   · have HE := Lib.hid (HF.out.trans (takeS_no hq))
     refine wp_region_held_drew (S := fun W9 => W9.cell? ⟨b1, 0, none⟩ = some (.pointer (some ⟨gp, 0, none⟩))) (by kernel_rfl) (H3.out.box HB1.out (by decide) (by decide) (by decide)) (fun hHeld => ?_)
     have H5d := Lib.hid H3.out.drew
     refine heldTake (i := 0) (d := some 14) (v := ?_) rfl rfl (by kernel_rfl) (by kernel_rfl) (by kernel_rfl) (fun _ _ _ h => h) (by kernel_rfl) ?hyq_7 (by assumption) ?restq_7
     case hyq_7 => (intro W9 hSw; (try dsimp only at hSw); go_simp; try (with_reducible rfl))
     (try simp only [Act.put, nA, nB, nC])
     refine heldTake (i := 1) (d := some 15) (v := ?_) rfl rfl (by kernel_rfl) (by kernel_rfl) (by kernel_rfl) (fun _ _ _ h => h) (by kernel_rfl) ?hyq_8 (by assumption) ?restq_8
     case hyq_8 => (intro W9 hSw; (try dsimp only at hSw); go_simp; try (with_reducible rfl))
     (try simp only [Act.put, nA, nB, nC])
     refine heldTake (i := 2) (d := some 16) (v := ?_) rfl rfl (by kernel_rfl) (by kernel_rfl) (by kernel_rfl) (fun _ _ _ h => h) (by kernel_rfl) ?hyq_9 (by assumption) ?restq_9
     case hyq_9 => (intro W9 hSw; (try dsimp only at hSw); go_simp; try (with_reducible rfl))
     (try simp only [Act.put, nA, nB, nC])
     refine wpAnyH_ready (rs := [3]) (by kernel_rfl) (by simp) ?_
     refine AllReadyH.cons rfl (fun K hK => ?_) AllReadyH.nil
     go_simp
     go_at_call 58
     refine (sign_any [40] _).mono ?_
     rintro e9 X ⟨rfl, hbX⟩
     have H5x := Lib.hid (H5d.out.below hbX)
     clear hbX
     go_wp2_with fail
     refine hK.out _ _ (H5x.out.box HB1.out (by decide) (by decide) (by decide)) (fun hHeld => ?_)
     clear hK K
     (try simp only [Act.put, nA, nB, nC])
     refine wpAnyH_ready (rs := [4]) (by kernel_rfl) (by simp) ?_
     refine AllReadyH.cons rfl (fun K hK => ?_) AllReadyH.nil
     (try rw [if_pos (by kernel_rfl)])
     refine El.op_build1 eTo X 22 (.agg #[.int .u8 0, .string ⟨#[]⟩, .int .i64 0, .int .i64 0]) 40 Try.underlying22 tok_info rfl (by decide) (.tmp 17) rfl (tV ⟨4, [40], 0, 0⟩) ⟨4, [40], 0, 0⟩ rfl rfl ?_
     change K (Act.put _ (some 18) (.slice (some ⟨X.heap.size, 0, none⟩) 1 1)) (X.alloc (.cells (eTo.f ⟨4, [40], 0, 0⟩).toArray 77))
     have hbY := below_lnew X (.cells (eTo.f ⟨4, [40], 0, 0⟩).toArray 77)
     have hT9 := El.liesT_new eTo X [⟨4, [40], 0, 0⟩] (eTo.f ⟨4, [40], 0, 0⟩).toArray (fun i v h => by simpa [eTo, tS] using h)
     obtain ⟨Y, hY⟩ : ∃ Y, X.alloc (.cells (eTo.f ⟨4, [40], 0, 0⟩).toArray 77) = Y := ⟨_, rfl⟩
     replace hT9 : eTo.LiesT (X.alloc (.cells (eTo.f ⟨4, [40], 0, 0⟩).toArray 77)) (some ⟨X.heap.size, 0, none⟩) [⟨4, [40], 0, 0⟩] := hT9
     rw [hY] at hbY hT9 ⊢
     have H5y := Lib.hid (H5x.out.below hbY)
     have HT9 := Lib.hid hT9
     clear hY hbY hT9
     refine hK.out _ _ (H5y.out.box HB1.out (by decide) (by decide) (by decide)) (fun hHeld => ?_)
     clear hK K
     (try simp only [Act.put, nA, nB, nC])
     refine wpAnyH_ready (rs := [5]) (by kernel_rfl) (by simp) ?_
     refine AllReadyH.cons rfl (fun K hK => ?_) AllReadyH.nil
     go_simp
     go_at_call 56
     refine (need_any H5y.out.p [⟨4, [40], 0, 0⟩] (one_kd 4 (by decide) _) (some ⟨_, 0, none⟩) 1 HT9.out (by simp)).mono ?_
     rintro e9 Z hN
     rw [nd1_no hq] at hN
     obtain ⟨rfl, hpZ, hgZ⟩ := hN
     have hg9 := grown_trans H5y.out.g hgZ
     go_wp2_with fail
     exact ⟨rfl, SmR.bad' HE.out rfl hpZ hg9⟩
   · have HE := Lib.hid (HF.out.trans (takeS_yes hq))
     refine wp_region_held_drew (S := fun W9 => W9.cell? ⟨b1, 0, none⟩ = some (.pointer (some ⟨gp, 0, none⟩))) (by kernel_rfl) (H3.out.box HB1.out (by decide) (by decide) (by decide)) (fun hHeld => ?_)
     have H5d := Lib.hid H3.out.drew
     refine heldTake (i := 0) (d := some 14) (v := ?_) rfl rfl (by kernel_rfl) (by kernel_rfl) (by kernel_rfl) (fun _ _ _ h => h) (by kernel_rfl) ?hyq_10 (by assumption) ?restq_10
     case hyq_10 => (intro W9 hSw; (try dsimp only at hSw); go_simp; try (with_reducible rfl))
     (try simp only [Act.put, nA, nB, nC])
     refine heldTake (i := 1) (d := some 15) (v := ?_) rfl rfl (by kernel_rfl) (by kernel_rfl) (by kernel_rfl) (fun _ _ _ h => h) (by kernel_rfl) ?hyq_11 (by assumption) ?restq_11
     case hyq_11 => (intro W9 hSw; (try dsimp only at hSw); go_simp; try (with_reducible rfl))
     (try simp only [Act.put, nA, nB, nC])
     refine heldTake (i := 2) (d := some 16) (v := ?_) rfl rfl (by kernel_rfl) (by kernel_rfl) (by kernel_rfl) (fun _ _ _ h => h) (by kernel_rfl) ?hyq_12 (by assumption) ?restq_12
     case hyq_12 => (intro W9 hSw; (try dsimp only at hSw); go_simp; try (with_reducible rfl))
     (try simp only [Act.put, nA, nB, nC])
     refine wpAnyH_ready (rs := [3]) (by kernel_rfl) (by simp) ?_
     refine AllReadyH.cons rfl (fun K hK => ?_) AllReadyH.nil
     go_simp
     go_at_call 58
     refine (sign_any [40] _).mono ?_
     rintro e9 X ⟨rfl, hbX⟩
     have H5x := Lib.hid (H5d.out.below hbX)
     clear hbX
     go_wp2_with fail
     refine hK.out _ _ (H5x.out.box HB1.out (by decide) (by decide) (by decide)) (fun hHeld => ?_)
     clear hK K
     (try simp only [Act.put, nA, nB, nC])
     refine wpAnyH_ready (rs := [4]) (by kernel_rfl) (by simp) ?_
     refine AllReadyH.cons rfl (fun K hK => ?_) AllReadyH.nil
     (try rw [if_pos (by kernel_rfl)])
     refine El.op_build1 eTo X 22 (.agg #[.int .u8 0, .string ⟨#[]⟩, .int .i64 0, .int .i64 0]) 40 Try.underlying22 tok_info rfl (by decide) (.tmp 17) rfl (tV ⟨4, [40], 0, 0⟩) ⟨4, [40], 0, 0⟩ rfl rfl ?_
     change K (Act.put _ (some 18) (.slice (some ⟨X.heap.size, 0, none⟩) 1 1)) (X.alloc (.cells (eTo.f ⟨4, [40], 0, 0⟩).toArray 77))
     have hbY := below_lnew X (.cells (eTo.f ⟨4, [40], 0, 0⟩).toArray 77)
     have hT9 := El.liesT_new eTo X [⟨4, [40], 0, 0⟩] (eTo.f ⟨4, [40], 0, 0⟩).toArray (fun i v h => by simpa [eTo, tS] using h)
     obtain ⟨Y, hY⟩ : ∃ Y, X.alloc (.cells (eTo.f ⟨4, [40], 0, 0⟩).toArray 77) = Y := ⟨_, rfl⟩
     replace hT9 : eTo.LiesT (X.alloc (.cells (eTo.f ⟨4, [40], 0, 0⟩).toArray 77)) (some ⟨X.heap.size, 0, none⟩) [⟨4, [40], 0, 0⟩] := hT9
     rw [hY] at hbY hT9 ⊢
     have H5y := Lib.hid (H5x.out.below hbY)
     have HT9 := Lib.hid hT9
     clear hY hbY hT9
     refine hK.out _ _ (H5y.out.box HB1.out (by decide) (by decide) (by decide)) (fun hHeld => ?_)
     clear hK K
     (try simp only [Act.put, nA, nB, nC])
     refine wpAnyH_ready (rs := [5]) (by kernel_rfl) (by simp) ?_
     refine AllReadyH.cons rfl (fun K hK => ?_) AllReadyH.nil
     go_simp
     go_at_call 56
     refine (need_any H5y.out.p [⟨4, [40], 0, 0⟩] (one_kd 4 (by decide) _) (some ⟨_, 0, none⟩) 1 HT9.out (by simp)).mono ?_
     rintro e9 Z hN
     rw [nd1_yes hq] at hN
     obtain ⟨rfl, hpZ, hgZ⟩ := hN
     have H5 := Lib.hid (H5y.out.step hpZ hgZ (tail_le _))
     clear hpZ hgZ H5d H5x H5y HT9
     go_wp2_with fail
     refine hK.out _ _ (H5.out.box HB1.out (by decide) (by decide) (by decide)) (fun hHeld => ?_)
     clear hK K
     (try simp only [Act.put, nA, nB, nC])
     refine wpAnyH_done (by kernel_rfl) ?_ _
     have hi5 : InvV w W0 gp gs A c l (⟨5, s.ln, s.nm, s.fl, t.tx, s.ty⟩, xsd ks) v.tail Z := ⟨ks, vk, rfl, H5.out⟩
     have HL := Lib.hid (listed_any 95 #[] #[.pointer (some ⟨b1, 0, none⟩), .pointer (some ⟨b2, 0, none⟩)] (call_owes HB1.out HB2.out) hi5)
     have x1 := H5.out.box HB1.out (by decide) (by decide) (by decide)
     clear hi5 H3 HF
     go_wp2_with fail
     rcases hr9 : lisS valO (⟨5, s.ln, s.nm, s.fl, t.tx, s.ty⟩, xsd ks) v.tail with ⟨y, z⟩ | z | _
     · rw [hr9] at HE HL
       refine HL.out.mono ?_
       rintro e w6 ⟨rfl, ks6, vk6, hk6, hS6⟩
       have HS6 := Lib.hid (hS6.front HFR.out)
       clear hS6
       go_wp2_with fail
       refine bodyPost_end (results_none rfl _ _ _) rfl ?_
       exact SmR.ok' HE.out rfl hk6 HS6.out
     · rw [hr9] at HE HL
       refine HL.out.mono ?_
       rintro e w6 ⟨rfl, hp6, hg6⟩
       go_wp2_with fail
       exact ⟨rfl, SmR.bad' HE.out rfl hp6 hg6⟩
     · rw [hr9] at HL
       refine HL.out.mono ?_
       rintro e w6 h6
       exact h6.elim
end
end Go.Proofs.Ytjllbacefbjjaaa

namespace Go.Proofs.Ytjllbacefbjjaaa
open Go Go.RowKit

theorem hasC_any {w : World} {gp : Nat} {A : Option Addr} {c : Nat} {l u : List To} (h : Ps w gp A c l u) :
 Calls Try.prog 88 #[.pointer (some ⟨gp, 0, none⟩), tV ⟨4, [40], 0, 0⟩] w (fun e w' => e = .returned (.bool (isC u)) ∧ Below w.heap.size w w') := hasName_any h ⟨4, [40], 0, 0⟩ (by decide)
theorem two_kd4 (s t : List UInt8) : ∀ x ∈ [(⟨4, s, 0, 0⟩ : To), ⟨4, t, 0, 0⟩], x.kd ≠ 0 := by
 intro x hx
 rcases List.mem_cons.1 hx with rfl | hx
 · exact (by decide : (4 : Int) ≠ 0)
 · rw [List.mem_singleton.1 hx]
   exact (by decide : (4 : Int) ≠ 0)
theorem nd2 (a b : List UInt8) (u : List To) {α : Type} (f : List To → R α) : takeS a u (fun v => takeS b v f) = (ndP [⟨4, a, 0, 0⟩, ⟨4, b, 0, 0⟩] u).bind fun _ w => f w := by
 unfold takeS isS
 rw [ndP]
 by_cases h : isT 4 a u = true
 · rw [if_pos h, if_pos h, ndP]
   dsimp only
   by_cases h2 : isT 4 b u.tail = true
   · rw [if_pos h2, if_pos h2]
     rfl
   · rw [if_neg h2, if_neg h2]
     rfl
 · rw [if_neg h, if_neg h]
   rfl
theorem nd2_len {a b : List UInt8} {u v : List To} {x : Unit} (h : ndP [⟨4, a, 0, 0⟩, ⟨4, b, 0, 0⟩] u = .ok x v) : v.length ≤ u.length := by
 rw [ndP] at h
 split at h
 · rw [ndP] at h
   split at h
   · injection h with _ h
     subst h
     have := tail_le u
     have := tail_le u.tail
     omega
   · cases h
 · cases h
def setS (s : SF) (es : List Ex) (u : List To) : R PS :=
 if isW wInput u = true then takeS [40] u.tail fun v => takeS [41] v fun w => .ok (⟨9, s.ln, s.nm, s.fl, s.cl, s.ty⟩, es) w
 else if isC u = true then callS s es u
 else valP ⟨2, s.ln, s.nm, s.fl, s.cl, s.ty⟩ es u
section
variable {w wf w1 : World} {gp gs : Nat} {A : Option Addr} {c : Nat} {l u : List To} {s : SF} {ks : List XT} {vk : Value}
set_option maxRecDepth 100000 in
set_option maxHeartbeats 8000000 in
theorem set_any (h : SmW w wf gp gs A c l s ks vk w1 u) : Calls Try.prog 90 #[.pointer (some ⟨gp, 0, none⟩), .pointer (some ⟨gs, 0, none⟩)] w1 (SmR w wf gp gs A c l (setS s (xsd ks) u)) := by
 have H0 := Lib.hid (show SmZ w wf gp gs A c l s vk ks ks vk w1 u from h)
 obtain ⟨r, hr⟩ : ∃ r, setS s (xsd ks) u = r := ⟨_, rfl⟩
 rw [hr]
 have HR := Lib.hid (show r = if isW wInput u = true then takeS [40] u.tail fun v => takeS [41] v fun w => .ok (⟨9, s.ln, s.nm, s.fl, s.cl, s.ty⟩, xsd ks) w else if isC u = true then callS s (xsd ks) u else valP ⟨2, s.ln, s.nm, s.fl, s.cl, s.ty⟩ (xsd ks) u from hr.symm)
 clear h hr
 go_enter Try.func90, Try.ntmps90
 go_wp2_with fail
 refine wp_region_held_drew (S := fun W9 => True) (by kernel_rfl) (trivial) (fun hHeld => ?_)
 refine heldTake (i := 0) (d := some 11) (v := ?_) rfl rfl (by kernel_rfl) (by kernel_rfl) (by kernel_rfl) (fun _ _ _ h => h) (by kernel_rfl) ?hyq_1 (by assumption) ?restq_1
 case hyq_1 => (intro W9 hSw; (try dsimp only at hSw); go_simp; try (with_reducible rfl))
 (try simp only [Act.put, nA, nB, nC])
 refine heldTake (i := 1) (d := some 12) (v := ?_) rfl rfl (by kernel_rfl) (by kernel_rfl) (by kernel_rfl) (fun _ _ _ h => h) (by kernel_rfl) ?hyq_2 (by assumption) ?restq_2
 case hyq_2 => (intro W9 hSw; (try dsimp only at hSw); go_simp; try (with_reducible rfl))
 (try simp only [Act.put, nA, nB, nC])
 refine heldTake (i := 2) (d := some 13) (v := ?_) rfl rfl (by kernel_rfl) (by kernel_rfl) (by kernel_rfl) (fun _ _ _ h => h) (by kernel_rfl) ?hyq_3 (by assumption) ?restq_3
 case hyq_3 => (intro W9 hSw; (try dsimp only at hSw); go_simp; try (with_reducible rfl))
 (try simp only [Act.put, nA, nB, nC])
 refine wpAnyH_ready (rs := [3]) (by kernel_rfl) (by simp) ?_
 refine AllReadyH.cons rfl (fun K hK => ?_) AllReadyH.nil
 go_simp
 go_at_call 35
 refine (word_any [105, 110, 112, 117, 116] _).mono ?_
 rintro e9 X ⟨rfl, hbX⟩
 have H1x := Lib.hid (H0.out.drew.below hbX)
 clear hbX
 go_wp2_with fail
 refine hK.out _ _ trivial (fun hHeld => ?_)
 clear hK K
 (try simp only [Act.put, nA, nB, nC])
 refine wpAnyH_ready (rs := [4]) (by kernel_rfl) (by simp) ?_
 refine AllReadyH.cons rfl (fun K hK => ?_) AllReadyH.nil
 go_simp
 go_at_call 59
 refine (takeT_any H1x.out.p 3 [105, 110, 112, 117, 116] (by decide)).mono ?_
 rintro e9 Y ⟨rfl, hpY, hgY⟩
 have H1 := Lib.hid (H1x.out.step hpY hgY (stp_len _ _ _))
 clear hpY hgY H1x
 go_wp2_with fail
 refine hK.out _ _ trivial (fun hHeld => ?_)
 clear hK K
 (try simp only [Act.put, nA, nB, nC])
 refine heldTake (i := 5) (d := some 10) (v := ?_) rfl rfl (by kernel_rfl) (by kernel_rfl) (by kernel_rfl) (fun _ _ _ h => h) (by kernel_rfl) ?hyq_4 (by assumption) ?restq_4
 case hyq_4 => (intro W9 hSw; (try dsimp only at hSw); go_simp; try (with_reducible rfl))
 (try simp only [Act.put, nA, nB, nC])
 refine wpAnyH_done (by kernel_rfl) ?_ _
 cases hq : isT 3 [105, 110, 112, 117, 116] u
 · rw [stp_no hq] at H1
   have HF := Lib.hid (HR.out.trans (if_neg (by show ¬ isT 3 [105, 110, 112, 117, 116] u = true; rw [hq]; decide)))
   clear HR hq H0
   go_wp2_with fail
   refine wp_region_held_drew (S := fun W9 => True) (by kernel_rfl) (trivial) (fun hHeld => ?_)
   refine heldTake (i := 0) (d := some 27) (v := ?_) rfl rfl (by kernel_rfl) (by kernel_rfl) (by kernel_rfl) (fun _ _ _ h => h) (by kernel_rfl) ?hyq_5 (by assumption) ?restq_5
   case hyq_5 => (intro W9 hSw; (try dsimp only at hSw); go_simp; try (with_reducible rfl))
   (try simp only [Act.put, nA, nB, nC])
   refine heldTake (i := 1) (d := some 28) (v := ?_) rfl rfl (by kernel_rfl) (by kernel_rfl) (by kernel_rfl) (fun _ _ _ h => h) (by kernel_rfl) ?hyq_6 (by assumption) ?restq_6
   case hyq_6 => (intro W9 hSw; (try dsimp only at hSw); go_simp; try (with_reducible rfl))
   (try simp only [Act.put, nA, nB, nC])
   refine heldTake (i := 2) (d := some 29) (v := ?_) rfl rfl (by kernel_rfl) (by kernel_rfl) (by kernel_rfl) (fun _ _ _ h => h) (by kernel_rfl) ?hyq_7 (by assumption) ?restq_7
   case hyq_7 => (intro W9 hSw; (try dsimp only at hSw); go_simp; try (with_reducible rfl))
   (try simp only [Act.put, nA, nB, nC])
   refine wpAnyH_ready (rs := [3]) (by kernel_rfl) (by simp) ?_
   refine AllReadyH.cons rfl (fun K hK => ?_) AllReadyH.nil
   go_simp
   go_at_call 58
   refine (sign_any [40] _).mono ?_
   rintro e9 X ⟨rfl, hbX⟩
   have H2x := Lib.hid (H1.out.drew.below hbX)
   clear hbX
   go_wp2_with fail
   refine hK.out _ _ trivial (fun hHeld => ?_)
   clear hK K
   (try simp only [Act.put, nA, nB, nC])
   refine wpAnyH_ready (rs := [4]) (by kernel_rfl) (by simp) ?_
   refine AllReadyH.cons rfl (fun K hK => ?_) AllReadyH.nil
   go_simp
   go_at_call 88
   refine (hasC_any H2x.out.p).mono ?_
   rintro e9 Y ⟨rfl, hbY⟩
   have H2 := Lib.hid (H2x.out.below hbY)
   clear hbY H2x
   go_wp2_with fail
   refine hK.out _ _ trivial (fun hHeld => ?_)
   clear hK K
   (try simp only [Act.put, nA, nB, nC])
   refine heldTake (i := 5) (d := some 26) (v := ?_) rfl rfl (by kernel_rfl) (by kernel_rfl) (by kernel_rfl) (fun _ _ _ h => h) (by kernel_rfl) ?hyq_8 (by assumption) ?restq_8
   case hyq_8 => (intro W9 hSw; (try dsimp only at hSw); go_simp; try (with_reducible rfl))
   (try simp only [Act.put, nA, nB, nC])
   refine wpAnyH_done (by kernel_rfl) ?_ _
   cases hc : isC u
   · have HE := Lib.hid (HF.out.trans (if_neg (by rw [hc]; decide)))
     have H3 := Lib.hid (H2.out.setKd 2)
     have HV := Lib.hid (value_any H3.out)
     have q0 := H2.out.s.cell (j := 0) (by simp [SF.cs])
     have qf0 := H2.out.s.frozen 0
     simp only [SF.cs, List.getElem_cons_zero] at q0
     clear HF hc H1
     go_wp2_with fail
     rcases hx9 : valP ⟨2, s.ln, s.nm, s.fl, s.cl, s.ty⟩ (xsd ks) u with ⟨y9, z9⟩ | z9 | _
     · rw [hx9] at HE HV
       refine HV.out.mono ?_
       rintro e w9 ⟨rfl, ks9, vk9, hk9, hS9⟩
       have HS9 := Lib.hid hS9.out
       clear hS9
       go_wp2_with fail
       refine bodyPost_end (results_none rfl _ _ _) rfl ?_
       exact SmR.ok' HE.out rfl hk9 HS9.out
     · rw [hx9] at HE HV
       refine HV.out.mono ?_
       rintro e w9 ⟨rfl, hp9, hg9⟩
       go_wp2_with fail
       exact ⟨rfl, SmR.bad' HE.out rfl hp9 hg9⟩
     · rw [hx9] at HV
       refine HV.out.mono ?_
       rintro e w9 h9
       exact h9.elim
   · have HE := Lib.hid (HF.out.trans (if_pos hc))
     have HV := Lib.hid (call_any H2.out)
     clear HF hc H1
     go_wp2_with fail
     rcases hx9 : callS s (xsd ks) u with ⟨y9, z9⟩ | z9 | _
     · rw [hx9] at HE HV
       refine HV.out.mono ?_
       rintro e w9 ⟨rfl, ks9, vk9, hk9, hS9⟩
       have HS9 := Lib.hid hS9.out
       clear hS9
       go_wp2_with fail
       refine bodyPost_end (results_none rfl _ _ _) rfl ?_
       exact SmR.ok' HE.out rfl hk9 HS9.out
     · rw [hx9] at HE HV
       refine HV.out.mono ?_
       rintro e w9 ⟨rfl, hp9, hg9⟩
       go_wp2_with fail
       exact ⟨rfl, SmR.bad' HE.out rfl hp9 hg9⟩
     · rw [hx9] at HV
       refine HV.out.mono ?_
       rintro e w9 h9
       exact h9.elim
 · rw [stp_yes hq] at H1
   have HF := Lib.hid ((HR.out.trans (if_pos hq)).trans (nd2 _ _ _ _))
   have H2 := Lib.hid (H1.out.setKd 9)
   have q0 := H1.out.s.cell (j := 0) (by simp [SF.cs])
   have qf0 := H1.out.s.frozen 0
   simp only [SF.cs, List.getElem_cons_zero] at q0
   clear HR hq H0
   go_wp2_with fail
   obtain ⟨W2, hW2⟩ : ∃ W2, Y.setCell ⟨gs, 0, none⟩ (.int .u8 9) = W2 := ⟨_, rfl⟩
   rw [hW2] at H2 ⊢
   clear hW2 H1
   clear q0 qf0
   refine wp_region_held_drew (S := fun W9 => True) (by kernel_rfl) trivial (fun hHeld => ?_)
   have K4 := Lib.hid H2.out.drew
   refine heldTake (i := 0) (d := some 19) (v := ?_) rfl rfl (by kernel_rfl) (by kernel_rfl) (by kernel_rfl) (fun _ _ _ h => h) (by kernel_rfl) ?hyq_9 (by assumption) ?restq_9
   case hyq_9 => (intro W9 hSw; (try dsimp only at hSw); go_simp; try (with_reducible rfl))
   (try simp only [Act.put, nA, nB, nC])
   refine heldTake (i := 1) (d := some 20) (v := ?_) rfl rfl (by kernel_rfl) (by kernel_rfl) (by kernel_rfl) (fun _ _ _ h => h) (by kernel_rfl) ?hyq_10 (by assumption) ?restq_10
   case hyq_10 => (intro W9 hSw; (try dsimp only at hSw); go_simp; try (with_reducible rfl))
   (try simp only [Act.put, nA, nB, nC])
   refine heldTake (i := 2) (d := some 21) (v := ?_) rfl rfl (by kernel_rfl) (by kernel_rfl) (by kernel_rfl) (fun _ _ _ h => h) (by kernel_rfl) ?hyq_11 (by assumption) ?restq_11
   case hyq_11 => (intro W9 hSw; (try dsimp only at hSw); go_simp; try (with_reducible rfl))
   (try simp only [Act.put, nA, nB, nC])
   refine wpAnyH_ready (rs := [3]) (by kernel_rfl) (by simp) ?_
   refine AllReadyH.cons rfl (fun K hK => ?_) AllReadyH.nil
   go_simp
   go_at_call 58
   refine (sign_any [40] _).mono ?_
   rintro e9 X ⟨rfl, hbX⟩
   have K5 := Lib.hid (K4.out.below hbX)
   clear hbX
   go_wp2_with fail
   refine hK.out _ _ trivial (fun hHeld => ?_)
   clear hK K
   (try simp only [Act.put, nA, nB, nC])
   refine wpAnyH_ready (rs := [4]) (by kernel_rfl) (by simp) ?_
   refine AllReadyH.cons rfl (fun K hK => ?_) AllReadyH.nil
   go_simp
   go_at_call 58
   refine (sign_any [41] _).mono ?_
   rintro e9 X ⟨rfl, hbX⟩
   have K6 := Lib.hid (K5.out.below hbX)
   clear hbX
   go_wp2_with fail
   refine hK.out _ _ trivial (fun hHeld => ?_)
   clear hK K
   (try simp only [Act.put, nA, nB, nC])
   refine wpAnyH_ready (rs := [5]) (by kernel_rfl) (by simp) ?_
   refine AllReadyH.cons rfl (fun K hK => ?_) AllReadyH.nil
   unfold tV tS
   go_simp
   have hb9 := fun W9 : World => below_lnew W9 (.cells #[.int .u8 4, .string (str [40]), .int .i64 0, .int .i64 0, .int .u8 4, .string (str [41]), .int .i64 0, .int .i64 0] 77)
   have hT9 := fun W9 : World => El.liesT_new eTo W9 [⟨4, [40], 0, 0⟩, ⟨4, [41], 0, 0⟩] #[.int .u8 4, .string (str [40]), .int .i64 0, .int .i64 0, .int .u8 4, .string (str [41]), .int .i64 0, .int .i64 0] (fun i v h => by simpa [eTo, tS] using h)
   have K7 := Lib.hid (K6.out.below (hb9 _))
   refine hK.out _ _ trivial (fun hHeld => ?_)
   clear hK K
   (try simp only [Act.put, nA, nB, nC])
   refine wpAnyH_ready (rs := [6]) (by kernel_rfl) (by simp) ?_
   refine AllReadyH.cons rfl (fun K hK => ?_) AllReadyH.nil
   go_simp
   go_at_call 56
   refine (need_any K7.out.p [⟨4, [40], 0, 0⟩, ⟨4, [41], 0, 0⟩] (two_kd4 _ _) (some ⟨_, 0, none⟩) 2 (hT9 _) (by simp)).mono ?_
   rintro e9 Y8 hN8
   rcases hnd : ndP [⟨4, [40], 0, 0⟩, ⟨4, [41], 0, 0⟩] _ with ⟨_, z8⟩ | z8 | _
   · rw [hnd] at hN8
     have hlz := nd2_len hnd
     have HE8 := Lib.hid (HF.out.trans (congrArg (fun q => R.bind q _) hnd))
     obtain ⟨rfl, hpY8, hgY8⟩ := hN8
     have H3 := Lib.hid (K7.out.step hpY8 hgY8 hlz)
     clear hpY8 hgY8 hnd hlz K7 K6 K5
     go_wp2_with fail
     refine hK.out _ _ trivial (fun hHeld => ?_)
     clear hK K
     (try simp only [Act.put, nA, nB, nC])
     refine wpAnyH_done (by kernel_rfl) ?_ _
     go_wp2_with fail
     refine bodyPost_end (results_none rfl _ _ _) rfl ?_
     exact SmR.ok' HE8.out rfl rfl H3.out
   · rw [hnd] at hN8
     have HE8 : Hid  (_ = R.bad z8) := Lib.hid (HF.out.trans (congrArg (fun q => R.bind q _) hnd))
     obtain ⟨rfl, hpY8, hgY8⟩ := hN8
     have hg9 := grown_trans K7.out.g hgY8
     go_wp2_with fail
     exact ⟨rfl, SmR.bad' HE8.out rfl hpY8 hg9⟩
   · rw [hnd] at hN8
     exact hN8.elim
end
end Go.Proofs.Ytjllbacefbjjaaa
