/-
  Merged for a claim: S1D.
-/
import Derived.Test.YtjllbacefbjjaaaZS1C
import Derived.Test.YtjllbacefbjjaaaZS0D
namespace Go.Proofs.Ytjllbacefbjjaaa
open Go Go.RowKit

def dcT (nm : List UInt8) (ln : Int) (rs : Ty) (b v : Value) : List Value := [.string (str nm), .int .i64 ln, v, .int .u8 rs.kd, .int .i64 rs.n, .string (str rs.nm), b]
def DcR (w : World) (gp : Nat) (A : Option Addr) (c : Nat) (l : List To) (r : R Dc) (e : Ending) (w' : World) : Prop := match r with
 | .ok d z => ∃ m : DcM, e = .returned (.agg m.cs.toArray) ∧ m.d = d ∧ m.Ok w' (fun g => w.heap.size ≤ g) ∧ Ps w' gp A c l z ∧ w.grownBy w' (some gp)
 | .bad z => e = .panicked misC ∧ Ps w' gp A c l z ∧ w.grownBy w' (some gp)
 | .out => False
section
variable {w W W0 : World} {gp gs b1 : Nat} {A : Option Addr} {c : Nat} {l u : List To} {nm : List UInt8} {ln : Int}
theorem DcR.bad' {r : R Dc} {e : Ending} {z : List To} (hr : r = .bad z) (he : e = .panicked misC) (hp : Ps W gp A c l z) (hg : w.grownBy W (some gp)) : DcR w gp A c l r e W := by
 subst hr
 exact ⟨he, hp, hg⟩
theorem boxP.keep {W Z : World} (hf : FrT [57, 48, ePm.e] W Z) (h : boxP b1 gp W) : boxP b1 gp Z := (hf b1 _ ⟨_, _, h⟩ (by decide)).trans h
theorem dc_size : (Try.prog.info? 48).map (·.size) = some 7 := by kernel_rfl
theorem fn_new (hP : Ps w gp A c l u) : RwW ePm 48 (dcT [] 0 ty0 (.slice none 0 0)) (boxP w.heap.size gp) w gp (w.heap.size + 1) A c l (.slice none 0 0) (.slice none 0 0) [] ((w.alloc (.cells #[.pointer (some ⟨gp, 0, none⟩)] 89)).alloc (.cells #[.string ⟨#[]⟩, .int .i64 0, .slice none 0 0, .int .u8 0, .int .i64 0, .string ⟨#[]⟩, .slice none 0 0] 48)) u := by
 have hb := below_al2 w (.cells #[.pointer (some ⟨gp, 0, none⟩)] 89) (.cells #[.string ⟨#[]⟩, .int .i64 0, .slice none 0 0, .int .u8 0, .int .i64 0, .string ⟨#[]⟩, .slice none 0 0] 48)
 exact ⟨hP.next hb, new_at _ _ (by simp) _, El.Own.nil _ _, ((below_lnew _ _).block w.heap.size (by simp)).trans (heap_alloc_new w _), grown_below hb _, ⟨hP.lt, by omega, by have := hP.ulen; simpa using this⟩, fun _ _ hf h => boxP.keep hf h, by decide, by decide, by decide⟩
set_option maxHeartbeats 4000000 in
theorem dc_end {fn : Func} (hf : fn.results = #[.cell 2 48]) {tmps : Array Value} {rs : Ty} {A8 A9 : Option Addr} {c8 c9 : Nat} {ps : List Pm} {xs : List XS} {r : R Dc} (hp : tmps.getD 2 undef = .pointer (some ⟨gs, 0, none⟩))
 (h : RwW ePm 48 (dcT nm ln rs (.slice none 0 0)) (boxP b1 gp) w gp gs A c l (.slice A8 ps.length c8) (.slice A8 ps.length c8) ps W u) (h8 : RowP ePm W (fun g => w.heap.size ≤ g) A8 c8 ps) (h9 : RowP eSt W (fun g => w.heap.size ≤ g) A9 c9 xs) (ho : xssOk W (fun g => w.heap.size ≤ g) xs) {bd : List St} (hd : xssd xs = bd) (hr : r = .ok ⟨nm, ln, ps, rs, bd⟩ u) :
 bodyPost Try.prog fn (DcR w gp A c l r) .ret { tmps := tmps, defers := [] } ((((((((W.setCell ⟨gs, 6, none⟩ (.slice A9 xs.length c9)).setCell ⟨gs, 0, none⟩ (.string (str nm))).setCell ⟨gs, 1, none⟩ (.int .i64 ln)).setCell ⟨gs, 2, none⟩ (.slice A8 ps.length c8)).setCell ⟨gs, 3, none⟩ (.int .u8 rs.kd)).setCell ⟨gs, 4, none⟩ (.int .i64 rs.n)).setCell ⟨gs, 5, none⟩ (.string (str rs.nm))).setCell ⟨gs, 6, none⟩ (.slice A9 xs.length c9)) := by
 subst hr hd
 have k0 := RwW.cell (cs' := dcT nm ln rs (.slice A9 xs.length c9)) h 6 (.slice A9 xs.length c9) (.slice A8 ps.length c8) rfl
 have k1 := RwW.cell (cs' := dcT nm ln rs (.slice A9 xs.length c9)) k0 0 (.string (str nm)) (.slice A8 ps.length c8) rfl
 have k2 := RwW.cell (cs' := dcT nm ln rs (.slice A9 xs.length c9)) k1 1 (.int .i64 ln) (.slice A8 ps.length c8) rfl
 have k3 := RwW.cell (cs' := dcT nm ln rs (.slice A9 xs.length c9)) k2 2 (.slice A8 ps.length c8) (.slice A8 ps.length c8) rfl
 have k4 := RwW.cell (cs' := dcT nm ln rs (.slice A9 xs.length c9)) k3 3 (.int .u8 rs.kd) (.slice A8 ps.length c8) rfl
 have k5 := RwW.cell (cs' := dcT nm ln rs (.slice A9 xs.length c9)) k4 4 (.int .i64 rs.n) (.slice A8 ps.length c8) rfl
 have k6 := RwW.cell (cs' := dcT nm ln rs (.slice A9 xs.length c9)) k5 5 (.string (str rs.nm)) (.slice A8 ps.length c8) rfl
 have k7 := RwW.cell (cs' := dcT nm ln rs (.slice A9 xs.length c9)) k6 6 (.slice A9 xs.length c9) (.slice A8 ps.length c8) rfl
 have hb := (((((((ButT.set (p := ⟨gs, 6, none⟩) ⟨_, _, h.s⟩ (.slice A9 xs.length c9)).trans (ButT.set (p := ⟨gs, 0, none⟩) ⟨_, _, k0.s⟩ (.string (str nm)))).trans (ButT.set (p := ⟨gs, 1, none⟩) ⟨_, _, k1.s⟩ (.int .i64 ln))).trans (ButT.set (p := ⟨gs, 2, none⟩) ⟨_, _, k2.s⟩ (.slice A8 ps.length c8))).trans (ButT.set (p := ⟨gs, 3, none⟩) ⟨_, _, k3.s⟩ (.int .u8 rs.kd))).trans (ButT.set (p := ⟨gs, 4, none⟩) ⟨_, _, k4.s⟩ (.int .i64 rs.n))).trans (ButT.set (p := ⟨gs, 5, none⟩) ⟨_, _, k5.s⟩ (.string (str rs.nm)))).trans (ButT.set (p := ⟨gs, 6, none⟩) ⟨_, _, k6.s⟩ (.slice A9 xs.length c9))
 clear k0 k1 k2 k3 k4 k5 k6
 generalize ((((((((W.setCell ⟨gs, 6, none⟩ (.slice A9 xs.length c9)).setCell ⟨gs, 0, none⟩ (.string (str nm))).setCell ⟨gs, 1, none⟩ (.int .i64 ln)).setCell ⟨gs, 2, none⟩ (.slice A8 ps.length c8)).setCell ⟨gs, 3, none⟩ (.int .u8 rs.kd)).setCell ⟨gs, 4, none⟩ (.int .i64 rs.n)).setCell ⟨gs, 5, none⟩ (.string (str rs.nm))).setCell ⟨gs, 6, none⟩ (.slice A9 xs.length c9)) = Z at *
 exact bodyPost_ret (results_cell_row hf tmps _ gs _ _ _ _ hp k7.s Try.underlying48 rfl dc_size) rfl ⟨⟨nm, ln, A8, c8, ps, rs, A9, c9, xs⟩, rfl, rfl, ⟨h8.keep (fun g _ ht => hb g _ ht (by decide)) (fun _ q => q), h9.keep (fun g _ ht => hb g _ ht (by decide)) (fun _ q => q), xssOk.keep (fun g _ ht => hb g _ ht (by decide)) (fun g _ ht => hb g _ ht (by decide)) (fun _ q => q) _ ho⟩, k7.p, k7.g⟩
set_option maxRecDepth 100000 in
set_option maxHeartbeats 16000000 in
theorem function_any (hP : Ps w gp A c l u) : Calls Try.prog 37 #[.pointer (some ⟨gp, 0, none⟩)] w (DcR w gp A c l (dcP u)) := by
 obtain ⟨r, hr⟩ : ∃ r, dcP u = r := ⟨_, rfl⟩
 rw [hr]
 have HR := Lib.hid (show r = takeW wFunc u fun v => takeK 1 v fun t w => takeS [40] w fun z => (lisP pmP z).bind fun ps y => (rsP y).bind fun rs q => (blP q).bind fun b p => .ok ⟨t.tx, (hd u).ln, ps, rs, b⟩ p from hr.symm)
 have H0 := Lib.hid (fn_new hP)
 have hf := tok_f3
 clear hr hP
 generalize hln : (hd u).ln = ln at *
 have HLK := Lib.hid (look_any H0.out.p 0 (by omega))
 rw [List.drop_zero] at HLK
 generalize hd u = t0 at *
 obtain ⟨k0, x0, n0, l0⟩ := t0
 dsimp only at hln
 subst hln
 unfold tV tS at HLK
 go_enter Try.func37, Try.ntmps37
 go_upto_region 1 with fail
 generalize w.heap.size + 1 = gs at *
 generalize w.heap.size = b1 at *
 obtain ⟨W0, hW0⟩ : ∃ W0, (w.alloc (.cells #[.pointer (some ⟨gp, 0, none⟩)] 89)).alloc (.cells #[.string ⟨#[]⟩, .int .i64 0, .slice none 0 0, .int .u8 0, .int .i64 0, .string ⟨#[]⟩, .slice none 0 0] 48) = W0 := ⟨_, rfl⟩
 rw [hW0] at H0 HLK ⊢
 clear hW0
 have x1 := H0.out.box
 go_wp2_with fail
 refine HLK.out.mono ?_
 rintro e w2 ⟨rfl, hb2⟩
 have H1 := Lib.hid (H0.out.below hb2)
 clear hb2 HLK H0 x1
 have q1 := H1.out.s.cell (j := 1) (by simp [dcT])
 have qf1 := H1.out.s.frozen 1
 simp only [dcT, List.getElem_cons_zero, List.getElem_cons_succ] at q1
 have H2 := Lib.hid (RwW.cell (cs' := dcT [] l0 ty0 (.slice none 0 0)) H1.out 1 (.int .i64 l0) (.slice none 0 0) rfl)
 go_upto_region 2 with fail
 obtain ⟨W2, hW2⟩ : ∃ P9, w2.setCell ⟨gs, 1, none⟩ (.int .i64 l0) = P9 := ⟨_, rfl⟩
 rw [hW2] at H2 ⊢
 clear hW2 H1
 clear q1 qf1
 cases hq : isT 3 [102, 117, 110, 99] u
 · have HE9 := Lib.hid (HR.out.trans (takeW_no hq))
   refine wp_region_held_drew (S := fun W9 => W9.cell? ⟨b1, 0, none⟩ = some (.pointer (some ⟨gp, 0, none⟩))) (by kernel_rfl) (RwW.box (H2.out.drew)) (fun hHeld => ?_)
   have Knd := Lib.hid H2.out.drew
   refine heldTake (i := 0) (d := some 9) (v := ?_) rfl rfl (by kernel_rfl) (by kernel_rfl) (by kernel_rfl) (fun _ _ _ h => h) (by kernel_rfl) ?hyq_1 (by assumption) ?restq_1
   case hyq_1 => (intro W9 hSw; (try dsimp only at hSw); go_simp; try (with_reducible rfl))
   (try simp only [Act.put, nA, nB, nC])
   refine heldTake (i := 1) (d := some 10) (v := ?_) rfl rfl (by kernel_rfl) (by kernel_rfl) (by kernel_rfl) (fun _ _ _ h => h) (by kernel_rfl) ?hyq_2 (by assumption) ?restq_2
   case hyq_2 => (intro W9 hSw; (try dsimp only at hSw); go_simp; try (with_reducible rfl))
   (try simp only [Act.put, nA, nB, nC])
   refine heldTake (i := 2) (d := some 11) (v := ?_) rfl rfl (by kernel_rfl) (by kernel_rfl) (by kernel_rfl) (fun _ _ _ h => h) (by kernel_rfl) ?hyq_3 (by assumption) ?restq_3
   case hyq_3 => (intro W9 hSw; (try dsimp only at hSw); go_simp; try (with_reducible rfl))
   (try simp only [Act.put, nA, nB, nC])
   refine wpAnyH_ready (rs := [3]) (by kernel_rfl) (by simp) ?_
   refine AllReadyH.cons rfl (fun K hK => ?_) AllReadyH.nil
   go_simp
   go_at_call 35
   refine (word_any [102, 117, 110, 99] _).mono ?_
   rintro e9 X ⟨rfl, hbX⟩
   have Knx := Lib.hid (Knd.out.below hbX)
   clear hbX
   go_wp2_with fail
   refine hK.out _ _ (RwW.box Knx.out) (fun hHeld => ?_)
   clear hK K
   (try simp only [Act.put, nA, nB, nC])
   refine wpAnyH_ready (rs := [4]) (by kernel_rfl) (by simp) ?_
   refine AllReadyH.cons rfl (fun K hK => ?_) AllReadyH.nil
   (try rw [if_pos (by kernel_rfl)])
   refine El.op_build1 eTo X 22 (.agg #[.int .u8 0, .string ⟨#[]⟩, .int .i64 0, .int .i64 0]) 40 Try.underlying22 tok_info rfl (by decide) (.tmp 12) rfl (tV ⟨3, [102, 117, 110, 99], 0, 0⟩) ⟨3, [102, 117, 110, 99], 0, 0⟩ rfl rfl ?_
   change K (Act.put _ (some 13) (.slice (some ⟨X.heap.size, 0, none⟩) 1 1)) (X.alloc (.cells (eTo.f ⟨3, [102, 117, 110, 99], 0, 0⟩).toArray 77))
   have hbY := below_lnew X (.cells (eTo.f ⟨3, [102, 117, 110, 99], 0, 0⟩).toArray 77)
   have hT9 := El.liesT_new eTo X [⟨3, [102, 117, 110, 99], 0, 0⟩] (eTo.f ⟨3, [102, 117, 110, 99], 0, 0⟩).toArray (fun i v h => by simpa [eTo, tS] using h)
   obtain ⟨Y, hY⟩ : ∃ Y, X.alloc (.cells (eTo.f ⟨3, [102, 117, 110, 99], 0, 0⟩).toArray 77) = Y := ⟨_, rfl⟩
   replace hT9 : eTo.LiesT (X.alloc (.cells (eTo.f ⟨3, [102, 117, 110, 99], 0, 0⟩).toArray 77)) (some ⟨X.heap.size, 0, none⟩) [⟨3, [102, 117, 110, 99], 0, 0⟩] := hT9
   rw [hY] at hbY hT9 ⊢
   have Kny := Lib.hid (Knx.out.below hbY)
   have HT9 := Lib.hid hT9
   clear hY hbY hT9
   refine hK.out _ _ (RwW.box Kny.out) (fun hHeld => ?_)
   clear hK K
   (try simp only [Act.put, nA, nB, nC])
   refine wpAnyH_ready (rs := [5]) (by kernel_rfl) (by simp) ?_
   refine AllReadyH.cons rfl (fun K hK => ?_) AllReadyH.nil
   go_simp
   go_at_call 56
   refine (need_any Kny.out.p [⟨3, [102, 117, 110, 99], 0, 0⟩] (one_kd 3 (by decide) _) (some ⟨_, 0, none⟩) 1 HT9.out (by simp)).mono ?_
   rintro e9 Z hN
   rw [ndk_no hq] at hN
   obtain ⟨rfl, hpZ, hgZ⟩ := hN
   have hg9 := grown_trans Kny.out.g hgZ
   go_wp2_with fail
   exact ⟨rfl, DcR.bad' HE9.out rfl hpZ hg9⟩
 · have HF := Lib.hid (HR.out.trans (takeW_yes hq))
   refine wp_region_held_drew (S := fun W9 => W9.cell? ⟨b1, 0, none⟩ = some (.pointer (some ⟨gp, 0, none⟩))) (by kernel_rfl) (RwW.box (H2.out.drew)) (fun hHeld => ?_)
   have H3d := Lib.hid H2.out.drew
   refine heldTake (i := 0) (d := some 9) (v := ?_) rfl rfl (by kernel_rfl) (by kernel_rfl) (by kernel_rfl) (fun _ _ _ h => h) (by kernel_rfl) ?hyq_4 (by assumption) ?restq_4
   case hyq_4 => (intro W9 hSw; (try dsimp only at hSw); go_simp; try (with_reducible rfl))
   (try simp only [Act.put, nA, nB, nC])
   refine heldTake (i := 1) (d := some 10) (v := ?_) rfl rfl (by kernel_rfl) (by kernel_rfl) (by kernel_rfl) (fun _ _ _ h => h) (by kernel_rfl) ?hyq_5 (by assumption) ?restq_5
   case hyq_5 => (intro W9 hSw; (try dsimp only at hSw); go_simp; try (with_reducible rfl))
   (try simp only [Act.put, nA, nB, nC])
   refine heldTake (i := 2) (d := some 11) (v := ?_) rfl rfl (by kernel_rfl) (by kernel_rfl) (by kernel_rfl) (fun _ _ _ h => h) (by kernel_rfl) ?hyq_6 (by assumption) ?restq_6
   case hyq_6 => (intro W9 hSw; (try dsimp only at hSw); go_simp; try (with_reducible rfl))
   (try simp only [Act.put, nA, nB, nC])
   refine wpAnyH_ready (rs := [3]) (by kernel_rfl) (by simp) ?_
   refine AllReadyH.cons rfl (fun K hK => ?_) AllReadyH.nil
   go_simp
   go_at_call 35
   refine (word_any [102, 117, 110, 99] _).mono ?_
   rintro e9 X ⟨rfl, hbX⟩
   have H3x := Lib.hid (H3d.out.below hbX)
   clear hbX
   go_wp2_with fail
   refine hK.out _ _ (RwW.box H3x.out) (fun hHeld => ?_)
   clear hK K
   (try simp only [Act.put, nA, nB, nC])
   refine wpAnyH_ready (rs := [4]) (by kernel_rfl) (by simp) ?_
   refine AllReadyH.cons rfl (fun K hK => ?_) AllReadyH.nil
   (try rw [if_pos (by kernel_rfl)])
   refine El.op_build1 eTo X 22 (.agg #[.int .u8 0, .string ⟨#[]⟩, .int .i64 0, .int .i64 0]) 40 Try.underlying22 tok_info rfl (by decide) (.tmp 12) rfl (tV ⟨3, [102, 117, 110, 99], 0, 0⟩) ⟨3, [102, 117, 110, 99], 0, 0⟩ rfl rfl ?_
   change K (Act.put _ (some 13) (.slice (some ⟨X.heap.size, 0, none⟩) 1 1)) (X.alloc (.cells (eTo.f ⟨3, [102, 117, 110, 99], 0, 0⟩).toArray 77))
   have hbY := below_lnew X (.cells (eTo.f ⟨3, [102, 117, 110, 99], 0, 0⟩).toArray 77)
   have hT9 := El.liesT_new eTo X [⟨3, [102, 117, 110, 99], 0, 0⟩] (eTo.f ⟨3, [102, 117, 110, 99], 0, 0⟩).toArray (fun i v h => by simpa [eTo, tS] using h)
   obtain ⟨Y, hY⟩ : ∃ Y, X.alloc (.cells (eTo.f ⟨3, [102, 117, 110, 99], 0, 0⟩).toArray 77) = Y := ⟨_, rfl⟩
   replace hT9 : eTo.LiesT (X.alloc (.cells (eTo.f ⟨3, [102, 117, 110, 99], 0, 0⟩).toArray 77)) (some ⟨X.heap.size, 0, none⟩) [⟨3, [102, 117, 110, 99], 0, 0⟩] := hT9
   rw [hY] at hbY hT9 ⊢
   have H3y := Lib.hid (H3x.out.below hbY)
   have HT9 := Lib.hid hT9
   clear hY hbY hT9
   refine hK.out _ _ (RwW.box H3y.out) (fun hHeld => ?_)
   clear hK K
   (try simp only [Act.put, nA, nB, nC])
   refine wpAnyH_ready (rs := [5]) (by kernel_rfl) (by simp) ?_
   refine AllReadyH.cons rfl (fun K hK => ?_) AllReadyH.nil
   go_simp
   go_at_call 56
   refine (need_any H3y.out.p [⟨3, [102, 117, 110, 99], 0, 0⟩] (one_kd 3 (by decide) _) (some ⟨_, 0, none⟩) 1 HT9.out (by simp)).mono ?_
   rintro e9 Z hN
   rw [ndk_yes hq] at hN
   obtain ⟨rfl, hpZ, hgZ⟩ := hN
   have H3 := Lib.hid (H3y.out.step hpZ hgZ (tail_le _))
   clear hpZ hgZ H3d H3x H3y HT9
   go_wp2_with fail
   refine hK.out _ _ (RwW.box H3.out) (fun hHeld => ?_)
   clear hK K
   (try simp only [Act.put, nA, nB, nC])
   refine wpAnyH_done (by kernel_rfl) ?_ _
   clear HR H2 hq
   generalize u.tail = u1 at *
   have x1 := H3.out.box
   go_wp2_with fail
   cases hk : isK 1 u1
   · have HE9 := Lib.hid (HF.out.trans (takeK_no hk))
     refine (name_no H3.out.p hk).mono ?_
     rintro e w2 ⟨rfl, hp2, hg2⟩
     have hg9 := grown_trans H3.out.g hg2
     go_wp2_with fail
     exact ⟨rfl, DcR.bad' HE9.out rfl hp2 hg9⟩
   · have HF2 := Lib.hid (HF.out.trans (takeK_yes hk))
     refine (name_yes H3.out.p hk).mono ?_
     rintro e w4 ⟨rfl, hp2, hg2⟩
     have H4 := Lib.hid (H3.out.step hp2 hg2 (tail_le _))
     clear hp2 hg2 H3 x1 HF
     have q0 := H4.out.s.cell (j := 0) (by simp [dcT])
     have qf0 := H4.out.s.frozen 0
     simp only [dcT, List.getElem_cons_zero] at q0
     generalize (hd u1).tx = nm at *
     generalize u1.tail = u2 at *
     have H5 := Lib.hid (RwW.cell (cs' := dcT nm l0 ty0 (.slice none 0 0)) H4.out 0 (.string (str nm)) (.slice none 0 0) rfl)
     go_upto_region 4 with fail
     obtain ⟨W4, hW4⟩ : ∃ P9, w4.setCell ⟨gs, 0, none⟩ (.string (str nm)) = P9 := ⟨_, rfl⟩
     rw [hW4] at H5 ⊢
     clear hW4 H4 hk
     clear q0 qf0
     cases hq : isT 4 [40] u2
     · have HE9 := Lib.hid (HF2.out.trans (takeS_no hq))
       refine wp_region_held_drew (S := fun W9 => W9.cell? ⟨b1, 0, none⟩ = some (.pointer (some ⟨gp, 0, none⟩))) (by kernel_rfl) (RwW.box (H5.out.drew)) (fun hHeld => ?_)
       have Knd := Lib.hid H5.out.drew
       refine heldTake (i := 0) (d := some 20) (v := ?_) rfl rfl (by kernel_rfl) (by kernel_rfl) (by kernel_rfl) (fun _ _ _ h => h) (by kernel_rfl) ?hyq_7 (by assumption) ?restq_7
       case hyq_7 => (intro W9 hSw; (try dsimp only at hSw); go_simp; try (with_reducible rfl))
       (try simp only [Act.put, nA, nB, nC])
       refine heldTake (i := 1) (d := some 21) (v := ?_) rfl rfl (by kernel_rfl) (by kernel_rfl) (by kernel_rfl) (fun _ _ _ h => h) (by kernel_rfl) ?hyq_8 (by assumption) ?restq_8
       case hyq_8 => (intro W9 hSw; (try dsimp only at hSw); go_simp; try (with_reducible rfl))
       (try simp only [Act.put, nA, nB, nC])
       refine heldTake (i := 2) (d := some 22) (v := ?_) rfl rfl (by kernel_rfl) (by kernel_rfl) (by kernel_rfl) (fun _ _ _ h => h) (by kernel_rfl) ?hyq_9 (by assumption) ?restq_9
       case hyq_9 => (intro W9 hSw; (try dsimp only at hSw); go_simp; try (with_reducible rfl))
       (try simp only [Act.put, nA, nB, nC])
       refine wpAnyH_ready (rs := [3]) (by kernel_rfl) (by simp) ?_
       refine AllReadyH.cons rfl (fun K hK => ?_) AllReadyH.nil
       go_simp
       go_at_call 58
       refine (sign_any [40] _).mono ?_
       rintro e9 X ⟨rfl, hbX⟩
       have Knx := Lib.hid (Knd.out.below hbX)
       clear hbX
       go_wp2_with fail
       refine hK.out _ _ (RwW.box Knx.out) (fun hHeld => ?_)
       clear hK K
       (try simp only [Act.put, nA, nB, nC])
       refine wpAnyH_ready (rs := [4]) (by kernel_rfl) (by simp) ?_
       refine AllReadyH.cons rfl (fun K hK => ?_) AllReadyH.nil
       (try rw [if_pos (by kernel_rfl)])
       refine El.op_build1 eTo X 22 (.agg #[.int .u8 0, .string ⟨#[]⟩, .int .i64 0, .int .i64 0]) 40 Try.underlying22 tok_info rfl (by decide) (.tmp 23) rfl (tV ⟨4, [40], 0, 0⟩) ⟨4, [40], 0, 0⟩ rfl rfl ?_
       change K (Act.put _ (some 24) (.slice (some ⟨X.heap.size, 0, none⟩) 1 1)) (X.alloc (.cells (eTo.f ⟨4, [40], 0, 0⟩).toArray 77))
       have hbY := below_lnew X (.cells (eTo.f ⟨4, [40], 0, 0⟩).toArray 77)
       have hT9 := El.liesT_new eTo X [⟨4, [40], 0, 0⟩] (eTo.f ⟨4, [40], 0, 0⟩).toArray (fun i v h => by simpa [eTo, tS] using h)
       obtain ⟨Y, hY⟩ : ∃ Y, X.alloc (.cells (eTo.f ⟨4, [40], 0, 0⟩).toArray 77) = Y := ⟨_, rfl⟩
       replace hT9 : eTo.LiesT (X.alloc (.cells (eTo.f ⟨4, [40], 0, 0⟩).toArray 77)) (some ⟨X.heap.size, 0, none⟩) [⟨4, [40], 0, 0⟩] := hT9
       rw [hY] at hbY hT9 ⊢
       have Kny := Lib.hid (Knx.out.below hbY)
       have HT9 := Lib.hid hT9
       clear hY hbY hT9
       refine hK.out _ _ (RwW.box Kny.out) (fun hHeld => ?_)
       clear hK K
       (try simp only [Act.put, nA, nB, nC])
       refine wpAnyH_ready (rs := [5]) (by kernel_rfl) (by simp) ?_
       refine AllReadyH.cons rfl (fun K hK => ?_) AllReadyH.nil
       go_simp
       go_at_call 56
       refine (need_any Kny.out.p [⟨4, [40], 0, 0⟩] (one_kd 4 (by decide) _) (some ⟨_, 0, none⟩) 1 HT9.out (by simp)).mono ?_
       rintro e9 Z hN
       rw [ndk_no hq] at hN
       obtain ⟨rfl, hpZ, hgZ⟩ := hN
       have hg9 := grown_trans Kny.out.g hgZ
       go_wp2_with fail
       exact ⟨rfl, DcR.bad' HE9.out rfl hpZ hg9⟩
     · have HF := Lib.hid (HF2.out.trans (takeS_yes hq))
       refine wp_region_held_drew (S := fun W9 => W9.cell? ⟨b1, 0, none⟩ = some (.pointer (some ⟨gp, 0, none⟩))) (by kernel_rfl) (RwW.box (H5.out.drew)) (fun hHeld => ?_)
       have H6d := Lib.hid H5.out.drew
       refine heldTake (i := 0) (d := some 20) (v := ?_) rfl rfl (by kernel_rfl) (by kernel_rfl) (by kernel_rfl) (fun _ _ _ h => h) (by kernel_rfl) ?hyq_10 (by assumption) ?restq_10
       case hyq_10 => (intro W9 hSw; (try dsimp only at hSw); go_simp; try (with_reducible rfl))
       (try simp only [Act.put, nA, nB, nC])
       refine heldTake (i := 1) (d := some 21) (v := ?_) rfl rfl (by kernel_rfl) (by kernel_rfl) (by kernel_rfl) (fun _ _ _ h => h) (by kernel_rfl) ?hyq_11 (by assumption) ?restq_11
       case hyq_11 => (intro W9 hSw; (try dsimp only at hSw); go_simp; try (with_reducible rfl))
       (try simp only [Act.put, nA, nB, nC])
       refine heldTake (i := 2) (d := some 22) (v := ?_) rfl rfl (by kernel_rfl) (by kernel_rfl) (by kernel_rfl) (fun _ _ _ h => h) (by kernel_rfl) ?hyq_12 (by assumption) ?restq_12
       case hyq_12 => (intro W9 hSw; (try dsimp only at hSw); go_simp; try (with_reducible rfl))
       (try simp only [Act.put, nA, nB, nC])
       refine wpAnyH_ready (rs := [3]) (by kernel_rfl) (by simp) ?_
       refine AllReadyH.cons rfl (fun K hK => ?_) AllReadyH.nil
       go_simp
       go_at_call 58
       refine (sign_any [40] _).mono ?_
       rintro e9 X ⟨rfl, hbX⟩
       have H6x := Lib.hid (H6d.out.below hbX)
       clear hbX
       go_wp2_with fail
       refine hK.out _ _ (RwW.box H6x.out) (fun hHeld => ?_)
       clear hK K
       (try simp only [Act.put, nA, nB, nC])
       refine wpAnyH_ready (rs := [4]) (by kernel_rfl) (by simp) ?_
       refine AllReadyH.cons rfl (fun K hK => ?_) AllReadyH.nil
       (try rw [if_pos (by kernel_rfl)])
       refine El.op_build1 eTo X 22 (.agg #[.int .u8 0, .string ⟨#[]⟩, .int .i64 0, .int .i64 0]) 40 Try.underlying22 tok_info rfl (by decide) (.tmp 23) rfl (tV ⟨4, [40], 0, 0⟩) ⟨4, [40], 0, 0⟩ rfl rfl ?_
       change K (Act.put _ (some 24) (.slice (some ⟨X.heap.size, 0, none⟩) 1 1)) (X.alloc (.cells (eTo.f ⟨4, [40], 0, 0⟩).toArray 77))
       have hbY := below_lnew X (.cells (eTo.f ⟨4, [40], 0, 0⟩).toArray 77)
       have hT9 := El.liesT_new eTo X [⟨4, [40], 0, 0⟩] (eTo.f ⟨4, [40], 0, 0⟩).toArray (fun i v h => by simpa [eTo, tS] using h)
       obtain ⟨Y, hY⟩ : ∃ Y, X.alloc (.cells (eTo.f ⟨4, [40], 0, 0⟩).toArray 77) = Y := ⟨_, rfl⟩
       replace hT9 : eTo.LiesT (X.alloc (.cells (eTo.f ⟨4, [40], 0, 0⟩).toArray 77)) (some ⟨X.heap.size, 0, none⟩) [⟨4, [40], 0, 0⟩] := hT9
       rw [hY] at hbY hT9 ⊢
       have H6y := Lib.hid (H6x.out.below hbY)
       have HT9 := Lib.hid hT9
       clear hY hbY hT9
       refine hK.out _ _ (RwW.box H6y.out) (fun hHeld => ?_)
       clear hK K
       (try simp only [Act.put, nA, nB, nC])
       refine wpAnyH_ready (rs := [5]) (by kernel_rfl) (by simp) ?_
       refine AllReadyH.cons rfl (fun K hK => ?_) AllReadyH.nil
       go_simp
       go_at_call 56
       refine (need_any H6y.out.p [⟨4, [40], 0, 0⟩] (one_kd 4 (by decide) _) (some ⟨_, 0, none⟩) 1 HT9.out (by simp)).mono ?_
       rintro e9 Z hN
       rw [ndk_yes hq] at hN
       obtain ⟨rfl, hpZ, hgZ⟩ := hN
       have H6 := Lib.hid (H6y.out.step hpZ hgZ (tail_le _))
       clear hpZ hgZ H6d H6x H6y HT9
       go_wp2_with fail
       refine hK.out _ _ (RwW.box H6.out) (fun hHeld => ?_)
       clear hK K
       (try simp only [Act.put, nA, nB, nC])
       refine wpAnyH_done (by kernel_rfl) ?_ _
       clear HF2 H5 hq
       generalize u2.tail = u3 at *
       have x1 := H6.out.box
       have hi6 : InvP w gp gs b1 A c l nm l0 [] u3 Z := ⟨_, H6.out⟩
       have HL := Lib.hid (listed_any 61 #[] #[.pointer (some ⟨b1, 0, none⟩), .pointer (some ⟨gs, 0, none⟩)] fun_owes hi6)
       rw [lisS_pm] at HL
       clear hi6 H6
       go_wp2_with fail
       rcases hr9 : lisP pmP u3 with ⟨ps, z⟩ | z | _
       · have HF3 := Lib.hid (show r = (rsP z).bind fun rs q => (blP q).bind fun b p => .ok ⟨nm, l0, ps, rs, b⟩ p from HF.out.trans (congrArg (fun q => R.bind q _) hr9))
         rw [hr9] at HL
         refine HL.out.mono ?_
         rintro e w6 ⟨rfl, v6, h6⟩
         have H7 := Lib.hid (show RwW ePm 48 (dcT nm l0 ty0 (.slice none 0 0)) (boxP b1 gp) w gp gs A c l v6 v6 ps w6 z from h6)
         clear h6 HL HF hr9 x1
         go_upto_region 6 with fail
         cases hq : isT 4 [123] z
         · have HF4 := Lib.hid (HF3.out.trans (congrArg (fun q => R.bind q _) (show rsP z = tyP z from if_neg (by show ¬ isT 4 [123] z = true; rw [hq]; decide))))
           have H8d := Lib.hid H7.out.drew
           refine wp_region_held_drew (S := fun W9 => W9.cell? ⟨b1, 0, none⟩ = some (.pointer (some ⟨gp, 0, none⟩))) (by kernel_rfl) ((RwW.box H8d.out)) (fun hHeld => ?_)
           refine heldTake (i := 0) (d := some 29) (v := ?_) rfl rfl (by kernel_rfl) (by kernel_rfl) (by kernel_rfl) (fun _ _ _ h => h) (by kernel_rfl) ?hyq_13 (by assumption) ?restq_13
           case hyq_13 => (intro W9 hSw; (try dsimp only at hSw); go_simp; try (with_reducible rfl))
           (try simp only [Act.put, nA, nB, nC])
           refine heldTake (i := 1) (d := some 30) (v := ?_) rfl rfl (by kernel_rfl) (by kernel_rfl) (by kernel_rfl) (fun _ _ _ h => h) (by kernel_rfl) ?hyq_14 (by assumption) ?restq_14
           case hyq_14 => (intro W9 hSw; (try dsimp only at hSw); go_simp; try (with_reducible rfl))
           (try simp only [Act.put, nA, nB, nC])
           refine heldTake (i := 2) (d := some 31) (v := ?_) rfl rfl (by kernel_rfl) (by kernel_rfl) (by kernel_rfl) (fun _ _ _ h => h) (by kernel_rfl) ?hyq_15 (by assumption) ?restq_15
           case hyq_15 => (intro W9 hSw; (try dsimp only at hSw); go_simp; try (with_reducible rfl))
           (try simp only [Act.put, nA, nB, nC])
           refine wpAnyH_ready (rs := [3]) (by kernel_rfl) (by simp) ?_
           refine AllReadyH.cons rfl (fun K hK => ?_) AllReadyH.nil
           go_simp
           go_at_call 58
           refine (sign_any [123] _).mono ?_
           rintro e9 X ⟨rfl, hbX⟩
           have H8x := Lib.hid (H8d.out.below hbX)
           clear hbX
           go_wp2_with fail
           refine hK.out _ _ (RwW.box H8x.out) (fun hHeld => ?_)
           clear hK K
           (try simp only [Act.put, nA, nB, nC])
           refine wpAnyH_ready (rs := [4]) (by kernel_rfl) (by simp) ?_
           refine AllReadyH.cons rfl (fun K hK => ?_) AllReadyH.nil
           go_simp
           go_at_call 34
           refine (has_any H8x.out.p ⟨4, [123], 0, 0⟩ (by decide)).mono ?_
           rintro e9 Y ⟨rfl, hbY⟩
           have H8 := Lib.hid (H8x.out.below hbY)
           rw [hq]
           clear hbY H8x
           go_wp2_with fail
           refine hK.out _ _ (RwW.box H8.out) (fun hHeld => ?_)
           clear hK K
           (try simp only [Act.put, nA, nB, nC])
           refine heldTake (i := 5) (d := some 34) (v := ?_) rfl rfl (by kernel_rfl) (by kernel_rfl) (by kernel_rfl) (fun _ _ _ h => h) (by kernel_rfl) ?hyq_16 (by assumption) ?restq_16
           case hyq_16 => (intro W9 hSw; (try dsimp only at hSw); go_simp; try (with_reducible rfl))
           (try simp only [Act.put, nA, nB, nC])
           refine wpAnyH_done (by kernel_rfl) ?_ _
           clear H7 HF3 hq
           have x1 := H8.out.box
           go_wp2_with fail
           have HC := Lib.hid (kind_any H8.out.p)
           rcases hx : tyP z with ⟨⟨tk, tn, tm⟩, z7⟩ | z7 | _
           · have HF := Lib.hid (show r = (blP z7).bind fun b p => .ok ⟨nm, l0, ps, ⟨tk, tn, tm⟩, b⟩ p from HF4.out.trans (congrArg (fun q => R.bind q _) hx))
             rw [hx] at HC
             refine HC.out.mono ?_
             rintro e w7 ⟨rfl, hp7, hg7⟩
             have h7 := tyP_len hx
             have H9 := Lib.hid (H8.out.step hp7 hg7 (by omega))
             clear hp7 hg7 HC x1 H8 HF4 hx h7
             have q3 := H9.out.s.cell (j := 3) (by simp [dcT])
             have qf3 := H9.out.s.frozen 3
             have q4 := H9.out.s.cell (j := 4) (by simp [dcT])
             have qf4 := H9.out.s.frozen 4
             have q5 := H9.out.s.cell (j := 5) (by simp [dcT])
             have qf5 := H9.out.s.frozen 5
             simp only [dcT, List.getElem_cons_zero, List.getElem_cons_succ] at q3 q4 q5
             have H10 := Lib.hid (RwW.cell (cs' := dcT nm l0 ⟨tk, tn, tm⟩ (.slice none 0 0)) (RwW.cell (cs' := dcT nm l0 ⟨tk, tn, []⟩ (.slice none 0 0)) (RwW.cell (cs' := dcT nm l0 ⟨tk, 0, []⟩ (.slice none 0 0)) H9.out 3 (.int .u8 tk) v6 rfl) 4 (.int .i64 tn) v6 rfl) 5 (.string (str tm)) v6 rfl)
             unfold tyV tyS
             dsimp only
             go_upto_region 8 with fail
             obtain ⟨W7, hW7⟩ : ∃ P9, ((w7.setCell ⟨gs, 3, none⟩ (.int .u8 tk)).setCell ⟨gs, 4, none⟩ (.int .i64 tn)).setCell ⟨gs, 5, none⟩ (.string (str tm)) = P9 := ⟨_, rfl⟩
             rw [hW7] at H10 ⊢
             clear hW7 H9
             clear q3 qf3 q4 qf4 q5 qf5
             have x1 := H10.out.box
             have HC := Lib.hid (block_any (fun W u h => statement_any h) H10.out.p)
             rcases hb9 : blP z7 with ⟨bd9, z9⟩ | z9 | _
             · have HE := Lib.hid (HF.out.trans (congrArg (fun q => R.bind q _) hb9))
               have hbl := blP_len hb9
               rw [hb9] at HC
               go_wp2_with fail
               refine HC.out.mono ?_
               rintro e w9 ⟨xs9, A9, c9, rfl, hd9, hr9, ho9, hp9, hg9⟩
               have H9 := Lib.hid (H10.out.step hp9 hg9 (by omega))
               have HR9 := Lib.hid (hr9.keep (fun _ _ _ => rfl) (fun g q => Nat.le_trans H10.out.g.size q))
               have HO9 := Lib.hid (xssOk.keep (Q := fun g => w.heap.size ≤ g) (fun _ _ _ => rfl) (fun _ _ _ => rfl) (fun g q => Nat.le_trans H10.out.g.size q) _ ho9)
               obtain ⟨A8, c8, hv8, hrp⟩ := H9.out.r.rowP
               have h8 := H9.out
               rw [hv8] at h8
               have HH := Lib.hid h8
               have HRP := Lib.hid hrp
               have HD9 := Lib.hid hd9
               clear h8 hrp hv8 hd9 hr9 ho9 hp9 hg9 H9 HC H10 hb9 x1 hbl
               have q0 := HH.out.s.cell (j := 0) (by simp [dcT])
               have qf0 := HH.out.s.frozen 0
               have q1 := HH.out.s.cell (j := 1) (by simp [dcT])
               have qf1 := HH.out.s.frozen 1
               have q2 := HH.out.s.cell (j := 2) (by simp [dcT])
               have qf2 := HH.out.s.frozen 2
               have q3 := HH.out.s.cell (j := 3) (by simp [dcT])
               have qf3 := HH.out.s.frozen 3
               have q4 := HH.out.s.cell (j := 4) (by simp [dcT])
               have qf4 := HH.out.s.frozen 4
               have q5 := HH.out.s.cell (j := 5) (by simp [dcT])
               have qf5 := HH.out.s.frozen 5
               have q6 := HH.out.s.cell (j := 6) (by simp [dcT])
               have qf6 := HH.out.s.frozen 6
               simp only [dcT, List.getElem_cons_zero, List.getElem_cons_succ] at q0 q1 q2 q3 q4 q5 q6
               have hgs := HH.out.n
               go_wp2_with fail
               exact dc_end (W := w9) (rs := ⟨tk,tn,tm⟩) (gs := gs) (nm := nm) (ln := l0) (A8 := A8) (A9 := A9) (c8 := c8) (c9 := c9) (ps := ps) (xs := xs9) (bd := bd9) rfl rfl HH.out HRP.out HR9.out HO9.out HD9.out HE.out
             · have HE9 := Lib.hid (HF.out.trans (congrArg (fun q => R.bind q _) hb9))
               rw [hb9] at HC
               go_wp2_with fail
               refine HC.out.mono ?_
               rintro e w9 ⟨rfl, hp9, hg9⟩
               have hg8 := grown_trans H10.out.g hg9
               go_wp2_with fail
               exact ⟨rfl, DcR.bad' HE9.out rfl hp9 hg8⟩
             · exact absurd hb9 (blP_ne _)
           · have HE9 := Lib.hid (HF4.out.trans (congrArg (fun q => R.bind q _) hx))
             rw [hx] at HC
             refine HC.out.mono ?_
             rintro e w7 ⟨rfl, hp7, hg7⟩
             have hg9 := grown_trans H8.out.g hg7
             go_wp2_with fail
             exact ⟨rfl, DcR.bad' HE9.out rfl hp7 hg9⟩
           · exact absurd hx (tyP_out _)
         · obtain ⟨z7, hz7⟩ : ∃ q, q = z := ⟨_, rfl⟩
           have HF := Lib.hid (show r = (blP z7).bind fun b p => .ok ⟨nm, l0, ps, ty0, b⟩ p from HF3.out.trans (congrArg (fun q => R.bind q _) (show rsP z = .ok ty0 z7 by rw [hz7]; exact if_pos (show isS [123] z = true from hq))))
           have H8d := Lib.hid H7.out.drew
           refine wp_region_held_drew (S := fun W9 => W9.cell? ⟨b1, 0, none⟩ = some (.pointer (some ⟨gp, 0, none⟩))) (by kernel_rfl) ((RwW.box H8d.out)) (fun hHeld => ?_)
           refine heldTake (i := 0) (d := some 29) (v := ?_) rfl rfl (by kernel_rfl) (by kernel_rfl) (by kernel_rfl) (fun _ _ _ h => h) (by kernel_rfl) ?hyq_17 (by assumption) ?restq_17
           case hyq_17 => (intro W9 hSw; (try dsimp only at hSw); go_simp; try (with_reducible rfl))
           (try simp only [Act.put, nA, nB, nC])
           refine heldTake (i := 1) (d := some 30) (v := ?_) rfl rfl (by kernel_rfl) (by kernel_rfl) (by kernel_rfl) (fun _ _ _ h => h) (by kernel_rfl) ?hyq_18 (by assumption) ?restq_18
           case hyq_18 => (intro W9 hSw; (try dsimp only at hSw); go_simp; try (with_reducible rfl))
           (try simp only [Act.put, nA, nB, nC])
           refine heldTake (i := 2) (d := some 31) (v := ?_) rfl rfl (by kernel_rfl) (by kernel_rfl) (by kernel_rfl) (fun _ _ _ h => h) (by kernel_rfl) ?hyq_19 (by assumption) ?restq_19
           case hyq_19 => (intro W9 hSw; (try dsimp only at hSw); go_simp; try (with_reducible rfl))
           (try simp only [Act.put, nA, nB, nC])
           refine wpAnyH_ready (rs := [3]) (by kernel_rfl) (by simp) ?_
           refine AllReadyH.cons rfl (fun K hK => ?_) AllReadyH.nil
           go_simp
           go_at_call 58
           refine (sign_any [123] _).mono ?_
           rintro e9 X ⟨rfl, hbX⟩
           have H8x := Lib.hid (H8d.out.below hbX)
           clear hbX
           go_wp2_with fail
           refine hK.out _ _ (RwW.box H8x.out) (fun hHeld => ?_)
           clear hK K
           (try simp only [Act.put, nA, nB, nC])
           refine wpAnyH_ready (rs := [4]) (by kernel_rfl) (by simp) ?_
           refine AllReadyH.cons rfl (fun K hK => ?_) AllReadyH.nil
           go_simp
           go_at_call 34
           refine (has_any H8x.out.p ⟨4, [123], 0, 0⟩ (by decide)).mono ?_
           rintro e9 Y ⟨rfl, hbY⟩
           have H8 := Lib.hid (H8x.out.below hbY)
           rw [hq]
           clear hbY H8x
           go_wp2_with fail
           refine hK.out _ _ (RwW.box H8.out) (fun hHeld => ?_)
           clear hK K
           (try simp only [Act.put, nA, nB, nC])
           refine heldTake (i := 5) (d := some 34) (v := ?_) rfl rfl (by kernel_rfl) (by kernel_rfl) (by kernel_rfl) (fun _ _ _ h => h) (by kernel_rfl) ?hyq_20 (by assumption) ?restq_20
           case hyq_20 => (intro W9 hSw; (try dsimp only at hSw); go_simp; try (with_reducible rfl))
           (try simp only [Act.put, nA, nB, nC])
           refine wpAnyH_done (by kernel_rfl) ?_ _
           clear H7 HF3 hq
           rw [← hz7] at H8
           go_wp2_with fail
           have x1 := H8.out.box
           have HC := Lib.hid (block_any (fun W u h => statement_any h) H8.out.p)
           rcases hb9 : blP z7 with ⟨bd9, z9⟩ | z9 | _
           · have HE := Lib.hid (HF.out.trans (congrArg (fun q => R.bind q _) hb9))
             have hbl := blP_len hb9
             rw [hb9] at HC
             go_wp2_with fail
             refine HC.out.mono ?_
             rintro e w9 ⟨xs9, A9, c9, rfl, hd9, hr9, ho9, hp9, hg9⟩
             have H9 := Lib.hid (H8.out.step hp9 hg9 (by omega))
             have HR9 := Lib.hid (hr9.keep (fun _ _ _ => rfl) (fun g q => Nat.le_trans H8.out.g.size q))
             have HO9 := Lib.hid (xssOk.keep (Q := fun g => w.heap.size ≤ g) (fun _ _ _ => rfl) (fun _ _ _ => rfl) (fun g q => Nat.le_trans H8.out.g.size q) _ ho9)
             obtain ⟨A8, c8, hv8, hrp⟩ := H9.out.r.rowP
             have h8 := H9.out
             rw [hv8] at h8
             have HH := Lib.hid h8
             have HRP := Lib.hid hrp
             have HD9 := Lib.hid hd9
             clear h8 hrp hv8 hd9 hr9 ho9 hp9 hg9 H9 HC H8 hb9 x1 hbl
             have q0 := HH.out.s.cell (j := 0) (by simp [dcT])
             have qf0 := HH.out.s.frozen 0
             have q1 := HH.out.s.cell (j := 1) (by simp [dcT])
             have qf1 := HH.out.s.frozen 1
             have q2 := HH.out.s.cell (j := 2) (by simp [dcT])
             have qf2 := HH.out.s.frozen 2
             have q3 := HH.out.s.cell (j := 3) (by simp [dcT])
             have qf3 := HH.out.s.frozen 3
             have q4 := HH.out.s.cell (j := 4) (by simp [dcT])
             have qf4 := HH.out.s.frozen 4
             have q5 := HH.out.s.cell (j := 5) (by simp [dcT])
             have qf5 := HH.out.s.frozen 5
             have q6 := HH.out.s.cell (j := 6) (by simp [dcT])
             have qf6 := HH.out.s.frozen 6
             simp only [dcT, List.getElem_cons_zero, List.getElem_cons_succ] at q0 q1 q2 q3 q4 q5 q6
             have hgs := HH.out.n
             go_wp2_with fail
             exact dc_end (W := w9) (rs := ty0) (gs := gs) (nm := nm) (ln := l0) (A8 := A8) (A9 := A9) (c8 := c8) (c9 := c9) (ps := ps) (xs := xs9) (bd := bd9) rfl rfl HH.out HRP.out HR9.out HO9.out HD9.out HE.out
           · have HE9 := Lib.hid (HF.out.trans (congrArg (fun q => R.bind q _) hb9))
             rw [hb9] at HC
             go_wp2_with fail
             refine HC.out.mono ?_
             rintro e w9 ⟨rfl, hp9, hg9⟩
             have hg8 := grown_trans H8.out.g hg9
             go_wp2_with fail
             exact ⟨rfl, DcR.bad' HE9.out rfl hp9 hg8⟩
           · exact absurd hb9 (blP_ne _)
       · have HE9 := Lib.hid (HF.out.trans (congrArg (fun q => R.bind q _) hr9))
         rw [hr9] at HL
         refine HL.out.mono ?_
         rintro e w6 ⟨rfl, hp6, hg6⟩
         go_wp2_with fail
         exact ⟨rfl, DcR.bad' HE9.out rfl hp6 hg6⟩
       · exact absurd hr9 (lisP_out pmP_out (fun _ _ _ h => pmP_len h) _)
end
end Go.Proofs.Ytjllbacefbjjaaa
