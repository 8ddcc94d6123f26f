/-
  Merged for a claim: S1C.
-/
import Derived.Test.YtjllbacefbjjaaaZS1B
namespace Go.Proofs.Ytjllbacefbjjaaa
open Go Go.RowKit

def dcS (nm : List UInt8) (ln : Int) (v : Value) : List Value := [.string (str nm), .int .i64 ln, v, .int .u8 0, .int .i64 0, .string ⟨#[]⟩, .slice none 0 0]
def pmO (x : List Pm) (u : List To) : R (List Pm) := (pmP u).bind fun p v => .ok (x ++ [p]) v
theorem comS_pm : ∀ (n : Nat) (x : List Pm) (u : List To), comS pmO n x u = (comP pmP n u).bind fun l v => .ok (x ++ l) v
 | 0, _, _ => rfl
 | n + 1, x, u => by
  rw [comS, comP, R.bind_assoc, show pmO x u = (pmP u).bind fun p v => .ok (x ++ [p]) v from rfl, R.bind_assoc]
  refine bind_cong fun p v _ => ?_
  rw [R.bind_ok]
  by_cases h : isS [44] v = true
  · rw [if_pos h, if_pos h, comS_pm n, R.bind_assoc]
    refine bind_cong fun l z _ => ?_
    rw [R.bind_ok, List.append_assoc]
    rfl
  · rw [if_neg h, if_neg h, takeS_bind]
    rfl
theorem lisS_pm (x : List Pm) (u : List To) : lisS pmO x u = (lisP pmP u).bind fun l v => .ok (x ++ l) v := by
 unfold lisS lisP
 by_cases h : isS [41] u = true
 · rw [if_pos h, if_pos h, R.bind_ok, List.append_nil]
 · rw [if_neg h, if_neg h, comS_pm]
section
variable {w W W0 : World} {gp gs b1 : Nat} {A : Option Addr} {c : Nat} {l u : List To} {nm : List UInt8} {ln : Int}
def boxP (b1 gp : Nat) (W : World) : Prop := CAt W b1 89 [.pointer (some ⟨gp, 0, none⟩)]
theorem RwW.box {α : Type} {K : El α} {T : TypeId} {cs : Value → List Value} {vc v : Value} {xs : List α} (h : RwW K T cs (boxP b1 gp) w gp gs A c l vc v xs W u) : W.cell? ⟨b1, 0, none⟩ = some (.pointer (some ⟨gp, 0, none⟩)) :=
 (show CAt W b1 89 _ from h.x).cell (j := 0) (by simp)
def InvP (w : World) (gp gs b1 : Nat) (A : Option Addr) (c : Nat) (l : List To) (nm : List UInt8) (ln : Int) (x : List Pm) (u : List To) (W : World) : Prop := ∃ v, RwW ePm 48 (dcS nm ln) (boxP b1 gp) w gp gs A c l v v x W u
theorem pmO_out (x : List Pm) (u : List To) : pmO x u ≠ .out := bind_nout (pmP_out u) fun _ _ _ => ok_nout
set_option maxRecDepth 100000 in
set_option maxHeartbeats 16000000 in
theorem funin_any (xs : List Pm) (h : InvP w gp gs b1 A c l nm ln xs u W) :
 Calls Try.prog 61 #[.pointer (some ⟨b1, 0, none⟩), .pointer (some ⟨gs, 0, none⟩)] W (LiR (InvP w gp gs b1 A c l nm ln) (BdV w gp A c l) (pmO xs u)) := by
 obtain ⟨r, hr⟩ : ∃ r, pmO xs u = r := ⟨_, rfl⟩
 rw [hr]
 have HR := Lib.hid (show r = (takeK 1 u fun t v => (tyP v).bind fun ty w => .ok (⟨t.tx, ty⟩ : Pm) w).bind fun p v => .ok (xs ++ [p]) v from hr.symm)
 obtain ⟨v5, h0⟩ := h
 have H0 := Lib.hid h0
 have x1 := h0.box
 clear hr h0
 go_enter Try.func61, Try.ntmps61
 go_wp2_with fail
 cases hk : isK 1 u
 · have HE9 := Lib.hid (show r = .bad u by rw [HR.out, takeK_no hk]; rfl)
   refine (name_no H0.out.p hk).mono ?_
   rintro e w2 ⟨rfl, hp2, hg2⟩
   have hg9 := grown_trans H0.out.g hg2
   go_wp2_with fail
   exact ⟨rfl, LiR.bad' HE9.out rfl ⟨hp2, hg9⟩⟩
 · have HF := Lib.hid (show r = (tyP u.tail).bind fun ty w => .ok (xs ++ [⟨(hd u).tx, ty⟩]) w by rw [HR.out, takeK_yes hk, R.bind_assoc]; rfl)
   have hut := tail_len (isK_ne hk)
   refine (name_yes H0.out.p hk).mono ?_
   rintro e w2 ⟨rfl, hp2, hg2⟩
   have H5 := Lib.hid (H0.out.step hp2 hg2 (tail_le _))
   have hn0 := H0.out.n.2.2
   have hl0 := H0.out.p.n
   have hxl : xs.length ≤ 1000000 := by omega
   generalize (hd u).tx = nm9 at *
   generalize u.tail = u1 at *
   clear hp2 hg2 HR H0 x1 hk
   go_upto_region 1 with fail
   obtain ⟨W5, rfl⟩ : ∃ z, z = w2 := ⟨_, rfl⟩
   rcases hx : tyP u1 with ⟨⟨tk, tn, tm⟩, z9⟩ | z9 | _
   · have HE9 := Lib.hid (show r = .ok (xs ++ [⟨nm9, ⟨tk, tn, tm⟩⟩]) z9 by rw [HF.out, hx]; rfl)
     have htl := tyP_len hx
     have hl5 : xs.length + 1 + z9.length ≤ l.length := by omega
     clear HF
     refine wp_region_held_drew (S := fun W9 => W9.cell? ⟨b1, 0, none⟩ = some (.pointer (some ⟨gp, 0, none⟩))) (by kernel_rfl) (RwW.box (H5.out.drew)) (fun hHeld => ?_)
     have HK1 := Lib.hid H5.out.drew
     generalize W5.drew = Wd at *
     refine heldTake (i := 0) (d := some 7) (v := ?_) rfl rfl (by kernel_rfl) (by kernel_rfl) (by kernel_rfl) (fun _ _ _ h => h) (by kernel_rfl) ?hyq_1 (by assumption) ?restq_1
     case hyq_1 => (intro W9 hSw; (try dsimp only at hSw); go_simp; try (with_reducible rfl))
     (try simp only [Act.put, nA, nB, nC])
     refine heldTake (i := 2) (d := some 9) (v := ?_) rfl rfl (by kernel_rfl) (by kernel_rfl) (by kernel_rfl) (fun _ _ _ h => h) (by kernel_rfl) ?hyq_2 (by assumption) ?restq_2
     case hyq_2 => (intro W9 hSw; (try dsimp only at hSw); go_simp; try (with_reducible rfl))
     (try simp only [Act.put, nA, nB, nC])
     refine heldTake (i := 3) (d := some 10) (v := ?_) rfl rfl (by kernel_rfl) (by kernel_rfl) (by kernel_rfl) (fun _ _ _ h => h) (by kernel_rfl) ?hyq_3 (by assumption) ?restq_3
     case hyq_3 => (intro W9 hSw; (try dsimp only at hSw); go_simp; try (with_reducible rfl))
     (try simp only [Act.put, nA, nB, nC])
     refine wpAnyH_ready (rs := [1, 4]) (by kernel_rfl) (by simp) ?_
     refine AllReadyH.cons rfl (fun K hK => ?_) (AllReadyH.cons rfl (fun K hK => ?_) AllReadyH.nil)
     · have ck2 := HK1.out.s.cell (j := 2) (by simp [dcS])
       simp only [dcS, List.getElem_cons_zero, List.getElem_cons_succ] at ck2
       go_simp
       refine hK.out _ _ (RwW.box HK1.out) (fun hHeld => ?_)
       clear hK K
       (try simp only [Act.put, nA, nB, nC])
       clear ck2
       refine wpAnyH_ready (rs := [4]) (by kernel_rfl) (by simp) ?_
       refine AllReadyH.cons rfl (fun K hK => ?_) AllReadyH.nil
       go_simp
       go_at_call 62
       have HC9 := Lib.hid (kind_any HK1.out.p)
       rw [hx] at HC9
       refine HC9.out.mono ?_
       clear HC9
       rintro e9 X4 ⟨rfl, hpX, hgX⟩
       have HK3 := Lib.hid (HK1.out.step hpX hgX (by omega))
       clear hpX hgX
       unfold tyV tyS
       dsimp only
       go_wp2_with fail
       refine hK.out _ _ (RwW.box HK3.out) (fun hHeld => ?_)
       clear hK K
       (try simp only [Act.put, nA, nB, nC])
       refine heldTake (i := 5) (d := some 12) (v := ?_) rfl rfl (by kernel_rfl) (by kernel_rfl) (by kernel_rfl) (fun _ _ _ h => h) (by kernel_rfl) ?hyq_4 (by assumption) ?restq_4
       case hyq_4 => (intro W9 hSw; (try dsimp only at hSw); go_simp; try (with_reducible rfl))
       (try simp only [Act.put, nA, nB, nC])
       refine wpAnyH_ready (rs := [6]) (by kernel_rfl) (by simp) ?_
       refine AllReadyH.cons rfl (fun K hK => ?_) AllReadyH.nil
       (try rw [if_pos (by kernel_rfl)])
       refine El.op_build1 ePm X4 43 (.agg #[.string ⟨#[]⟩, .int .u8 0, .int .i64 0, .string ⟨#[]⟩]) 48 Try.underlying43 pm_info rfl (by decide) (.tmp 12) rfl (.agg #[.string (str nm9), .int .u8 tk, .int .i64 tn, .string (str tm)]) (Pm.mk nm9 (Ty.mk tk tn tm)) rfl rfl ?_
       change K (Act.put _ (some 13) (.slice (some ⟨X4.heap.size, 0, none⟩) 1 1)) (X4.alloc (.cells #[.string (str nm9), .int .u8 tk, .int .i64 tn, .string (str tm)] 75))
       have hbY := below_lnew X4 (.cells #[.string (str nm9), .int .u8 tk, .int .i64 tn, .string (str tm)] 75)
       have HB7 := Lib.hid (heap_alloc_new X4 (.cells #[.string (str nm9), .int .u8 tk, .int .i64 tn, .string (str tm)] 75))
       obtain ⟨Y6, hY⟩ : ∃ Y, X4.alloc (.cells #[.string (str nm9), .int .u8 tk, .int .i64 tn, .string (str tm)] 75) = Y := ⟨_, rfl⟩
       rw [hY] at hbY HB7 ⊢
       have HK5 := Lib.hid (HK3.out.below hbY)
       clear hY hbY
       refine hK.out _ _ (RwW.box HK5.out) (fun hHeld => ?_)
       clear hK K
       (try simp only [Act.put, nA, nB, nC])
       refine wpAnyH_ready (rs := [7]) (by kernel_rfl) (by simp) ?_
       refine AllReadyH.cons rfl (fun K hK => ?_) AllReadyH.nil
       (try rw [if_pos (by kernel_rfl)])
       refine El.op_app1x ePm Y6 43 (.agg #[.string ⟨#[]⟩, .int .u8 0, .int .i64 0, .string ⟨#[]⟩]) 48 Try.underlying43 pm_info rfl (by decide) (by decide) (.tmp 8) (.tmp 13) rfl w.heap.size v5 xs rfl HK5.out.r X4.heap.size 1 (Pm.mk nm9 (Ty.mk tk tn tm)) rfl 75 HB7.out hxl HK5.out.g.size ?_
       intro v9 Z8 ho9 hg9 hk9
       obtain ⟨g9, c9, rfl⟩ := El.Own.at0 ho9 (by simp)
       have hl9 : (xs ++ [(Pm.mk nm9 (Ty.mk tk tn tm))]).length = xs.length + 1 := by simp
       have HK9 := Lib.hid (RwW.app (X' := _) HK5.out hg9 ho9 hl5 (HK5.out.kx _ _ (HK5.out.frApp hg9) HK5.out.x) (HK5.out.kx))
       change K (Act.put _ (some 14) (.slice (some ⟨g9, 0, none⟩) (xs ++ [(Pm.mk nm9 (Ty.mk tk tn tm))]).length c9)) Z8
       rw [hl9]
       rw [hl9] at HK9
       clear ho9 hg9 hk9
       refine hK.out _ _ (RwW.box HK9.out) (fun hHeld => ?_)
       clear hK K
       (try simp only [Act.put, nA, nB, nC])
       refine heldTake (i := 8) (d := some 15) (v := ?_) rfl rfl (by kernel_rfl) (by kernel_rfl) (by kernel_rfl) (fun _ _ _ h => h) (by kernel_rfl) ?hyq_5 (by assumption) ?restq_5
       case hyq_5 => (intro W9 hSw; (try dsimp only at hSw); go_simp; try (with_reducible rfl))
       (try simp only [Act.put, nA, nB, nC])
       refine wpAnyH_ready (rs := [9]) (by kernel_rfl) (by simp) ?_
       refine AllReadyH.cons rfl (fun K hK => ?_) AllReadyH.nil
       have ck12 := HK9.out.s.cell (j := 2) (by simp [dcS])
       have ck12f := HK9.out.s.frozen 2
       simp only [dcS, List.getElem_cons_zero, List.getElem_cons_succ] at ck12
       have HK10 := Lib.hid (RwW.cell (cs' := dcS nm ln) HK9.out 2 (.slice (some ⟨g9, 0, none⟩) (xs.length + 1) c9) (.slice (some ⟨g9, 0, none⟩) (xs.length + 1) c9) rfl)
       go_simp
       obtain ⟨P11, hP9⟩ : ∃ P9, Z8.setCell ⟨gs, 2, none⟩ (.slice (some ⟨g9, 0, none⟩) (xs.length + 1) c9) = P9 := ⟨_, rfl⟩
       rw [hP9] at HK10 ⊢
       clear hP9 ck12 ck12f
       refine hK.out _ _ (RwW.box HK10.out) (fun hHeld => ?_)
       clear hK K
       (try simp only [Act.put, nA, nB, nC])
       refine wpAnyH_done (by kernel_rfl) ?_ _
       go_wp2_with fail
       refine bodyPost_end (results_none rfl _ _ _) rfl ?_
       exact LiR.ok' HE9.out rfl ⟨_, HK10.out⟩
     · go_simp
       go_at_call 62
       have HC9 := Lib.hid (kind_any HK1.out.p)
       rw [hx] at HC9
       refine HC9.out.mono ?_
       clear HC9
       rintro e9 X14 ⟨rfl, hpX, hgX⟩
       have HK13 := Lib.hid (HK1.out.step hpX hgX (by omega))
       clear hpX hgX
       unfold tyV tyS
       dsimp only
       go_wp2_with fail
       refine hK.out _ _ (RwW.box HK13.out) (fun hHeld => ?_)
       clear hK K
       (try simp only [Act.put, nA, nB, nC])
       refine heldTake (i := 5) (d := some 12) (v := ?_) rfl rfl (by kernel_rfl) (by kernel_rfl) (by kernel_rfl) (fun _ _ _ h => h) (by kernel_rfl) ?hyq_6 (by assumption) ?restq_6
       case hyq_6 => (intro W9 hSw; (try dsimp only at hSw); go_simp; try (with_reducible rfl))
       (try simp only [Act.put, nA, nB, nC])
       refine wpAnyH_ready (rs := [1, 6]) (by kernel_rfl) (by simp) ?_
       refine AllReadyH.cons rfl (fun K hK => ?_) (AllReadyH.cons rfl (fun K hK => ?_) AllReadyH.nil)
       · have ck15 := HK13.out.s.cell (j := 2) (by simp [dcS])
         simp only [dcS, List.getElem_cons_zero, List.getElem_cons_succ] at ck15
         go_simp
         refine hK.out _ _ (RwW.box HK13.out) (fun hHeld => ?_)
         clear hK K
         (try simp only [Act.put, nA, nB, nC])
         clear ck15
         refine wpAnyH_ready (rs := [6]) (by kernel_rfl) (by simp) ?_
         refine AllReadyH.cons rfl (fun K hK => ?_) AllReadyH.nil
         (try rw [if_pos (by kernel_rfl)])
         refine El.op_build1 ePm X14 43 (.agg #[.string ⟨#[]⟩, .int .u8 0, .int .i64 0, .string ⟨#[]⟩]) 48 Try.underlying43 pm_info rfl (by decide) (.tmp 12) rfl (.agg #[.string (str nm9), .int .u8 tk, .int .i64 tn, .string (str tm)]) (Pm.mk nm9 (Ty.mk tk tn tm)) rfl rfl ?_
         change K (Act.put _ (some 13) (.slice (some ⟨X14.heap.size, 0, none⟩) 1 1)) (X14.alloc (.cells #[.string (str nm9), .int .u8 tk, .int .i64 tn, .string (str tm)] 75))
         have hbY := below_lnew X14 (.cells #[.string (str nm9), .int .u8 tk, .int .i64 tn, .string (str tm)] 75)
         have HB18 := Lib.hid (heap_alloc_new X14 (.cells #[.string (str nm9), .int .u8 tk, .int .i64 tn, .string (str tm)] 75))
         obtain ⟨Y17, hY⟩ : ∃ Y, X14.alloc (.cells #[.string (str nm9), .int .u8 tk, .int .i64 tn, .string (str tm)] 75) = Y := ⟨_, rfl⟩
         rw [hY] at hbY HB18 ⊢
         have HK16 := Lib.hid (HK13.out.below hbY)
         clear hY hbY
         refine hK.out _ _ (RwW.box HK16.out) (fun hHeld => ?_)
         clear hK K
         (try simp only [Act.put, nA, nB, nC])
         refine wpAnyH_ready (rs := [7]) (by kernel_rfl) (by simp) ?_
         refine AllReadyH.cons rfl (fun K hK => ?_) AllReadyH.nil
         (try rw [if_pos (by kernel_rfl)])
         refine El.op_app1x ePm Y17 43 (.agg #[.string ⟨#[]⟩, .int .u8 0, .int .i64 0, .string ⟨#[]⟩]) 48 Try.underlying43 pm_info rfl (by decide) (by decide) (.tmp 8) (.tmp 13) rfl w.heap.size v5 xs rfl HK16.out.r X14.heap.size 1 (Pm.mk nm9 (Ty.mk tk tn tm)) rfl 75 HB18.out hxl HK16.out.g.size ?_
         intro v9 Z19 ho9 hg9 hk9
         obtain ⟨g9, c9, rfl⟩ := El.Own.at0 ho9 (by simp)
         have hl9 : (xs ++ [(Pm.mk nm9 (Ty.mk tk tn tm))]).length = xs.length + 1 := by simp
         have HK20 := Lib.hid (RwW.app (X' := _) HK16.out hg9 ho9 hl5 (HK16.out.kx _ _ (HK16.out.frApp hg9) HK16.out.x) (HK16.out.kx))
         change K (Act.put _ (some 14) (.slice (some ⟨g9, 0, none⟩) (xs ++ [(Pm.mk nm9 (Ty.mk tk tn tm))]).length c9)) Z19
         rw [hl9]
         rw [hl9] at HK20
         clear ho9 hg9 hk9
         refine hK.out _ _ (RwW.box HK20.out) (fun hHeld => ?_)
         clear hK K
         (try simp only [Act.put, nA, nB, nC])
         refine heldTake (i := 8) (d := some 15) (v := ?_) rfl rfl (by kernel_rfl) (by kernel_rfl) (by kernel_rfl) (fun _ _ _ h => h) (by kernel_rfl) ?hyq_7 (by assumption) ?restq_7
         case hyq_7 => (intro W9 hSw; (try dsimp only at hSw); go_simp; try (with_reducible rfl))
         (try simp only [Act.put, nA, nB, nC])
         refine wpAnyH_ready (rs := [9]) (by kernel_rfl) (by simp) ?_
         refine AllReadyH.cons rfl (fun K hK => ?_) AllReadyH.nil
         have ck23 := HK20.out.s.cell (j := 2) (by simp [dcS])
         have ck23f := HK20.out.s.frozen 2
         simp only [dcS, List.getElem_cons_zero, List.getElem_cons_succ] at ck23
         have HK21 := Lib.hid (RwW.cell (cs' := dcS nm ln) HK20.out 2 (.slice (some ⟨g9, 0, none⟩) (xs.length + 1) c9) (.slice (some ⟨g9, 0, none⟩) (xs.length + 1) c9) rfl)
         go_simp
         obtain ⟨P22, hP9⟩ : ∃ P9, Z19.setCell ⟨gs, 2, none⟩ (.slice (some ⟨g9, 0, none⟩) (xs.length + 1) c9) = P9 := ⟨_, rfl⟩
         rw [hP9] at HK21 ⊢
         clear hP9 ck23 ck23f
         refine hK.out _ _ (RwW.box HK21.out) (fun hHeld => ?_)
         clear hK K
         (try simp only [Act.put, nA, nB, nC])
         refine wpAnyH_done (by kernel_rfl) ?_ _
         go_wp2_with fail
         refine bodyPost_end (results_none rfl _ _ _) rfl ?_
         exact LiR.ok' HE9.out rfl ⟨_, HK21.out⟩
       · (try rw [if_pos (by kernel_rfl)])
         refine El.op_build1 ePm X14 43 (.agg #[.string ⟨#[]⟩, .int .u8 0, .int .i64 0, .string ⟨#[]⟩]) 48 Try.underlying43 pm_info rfl (by decide) (.tmp 12) rfl (.agg #[.string (str nm9), .int .u8 tk, .int .i64 tn, .string (str tm)]) (Pm.mk nm9 (Ty.mk tk tn tm)) rfl rfl ?_
         change K (Act.put _ (some 13) (.slice (some ⟨X14.heap.size, 0, none⟩) 1 1)) (X14.alloc (.cells #[.string (str nm9), .int .u8 tk, .int .i64 tn, .string (str tm)] 75))
         have hbY := below_lnew X14 (.cells #[.string (str nm9), .int .u8 tk, .int .i64 tn, .string (str tm)] 75)
         have HB26 := Lib.hid (heap_alloc_new X14 (.cells #[.string (str nm9), .int .u8 tk, .int .i64 tn, .string (str tm)] 75))
         obtain ⟨Y25, hY⟩ : ∃ Y, X14.alloc (.cells #[.string (str nm9), .int .u8 tk, .int .i64 tn, .string (str tm)] 75) = Y := ⟨_, rfl⟩
         rw [hY] at hbY HB26 ⊢
         have HK24 := Lib.hid (HK13.out.below hbY)
         clear hY hbY
         refine hK.out _ _ (RwW.box HK24.out) (fun hHeld => ?_)
         clear hK K
         (try simp only [Act.put, nA, nB, nC])
         refine wpAnyH_ready (rs := [1]) (by kernel_rfl) (by simp) ?_
         refine AllReadyH.cons rfl (fun K hK => ?_) AllReadyH.nil
         have ck27 := HK24.out.s.cell (j := 2) (by simp [dcS])
         simp only [dcS, List.getElem_cons_zero, List.getElem_cons_succ] at ck27
         go_simp
         refine hK.out _ _ (RwW.box HK24.out) (fun hHeld => ?_)
         clear hK K
         (try simp only [Act.put, nA, nB, nC])
         clear ck27
         refine wpAnyH_ready (rs := [7]) (by kernel_rfl) (by simp) ?_
         refine AllReadyH.cons rfl (fun K hK => ?_) AllReadyH.nil
         (try rw [if_pos (by kernel_rfl)])
         refine El.op_app1x ePm Y25 43 (.agg #[.string ⟨#[]⟩, .int .u8 0, .int .i64 0, .string ⟨#[]⟩]) 48 Try.underlying43 pm_info rfl (by decide) (by decide) (.tmp 8) (.tmp 13) rfl w.heap.size v5 xs rfl HK24.out.r X14.heap.size 1 (Pm.mk nm9 (Ty.mk tk tn tm)) rfl 75 HB26.out hxl HK24.out.g.size ?_
         intro v9 Z28 ho9 hg9 hk9
         obtain ⟨g9, c9, rfl⟩ := El.Own.at0 ho9 (by simp)
         have hl9 : (xs ++ [(Pm.mk nm9 (Ty.mk tk tn tm))]).length = xs.length + 1 := by simp
         have HK29 := Lib.hid (RwW.app (X' := _) HK24.out hg9 ho9 hl5 (HK24.out.kx _ _ (HK24.out.frApp hg9) HK24.out.x) (HK24.out.kx))
         change K (Act.put _ (some 14) (.slice (some ⟨g9, 0, none⟩) (xs ++ [(Pm.mk nm9 (Ty.mk tk tn tm))]).length c9)) Z28
         rw [hl9]
         rw [hl9] at HK29
         clear ho9 hg9 hk9
         refine hK.out _ _ (RwW.box HK29.out) (fun hHeld => ?_)
         clear hK K
         (try simp only [Act.put, nA, nB, nC])
         refine heldTake (i := 8) (d := some 15) (v := ?_) rfl rfl (by kernel_rfl) (by kernel_rfl) (by kernel_rfl) (fun _ _ _ h => h) (by kernel_rfl) ?hyq_8 (by assumption) ?restq_8
         case hyq_8 => (intro W9 hSw; (try dsimp only at hSw); go_simp; try (with_reducible rfl))
         (try simp only [Act.put, nA, nB, nC])
         refine wpAnyH_ready (rs := [9]) (by kernel_rfl) (by simp) ?_
         refine AllReadyH.cons rfl (fun K hK => ?_) AllReadyH.nil
         have ck32 := HK29.out.s.cell (j := 2) (by simp [dcS])
         have ck32f := HK29.out.s.frozen 2
         simp only [dcS, List.getElem_cons_zero, List.getElem_cons_succ] at ck32
         have HK30 := Lib.hid (RwW.cell (cs' := dcS nm ln) HK29.out 2 (.slice (some ⟨g9, 0, none⟩) (xs.length + 1) c9) (.slice (some ⟨g9, 0, none⟩) (xs.length + 1) c9) rfl)
         go_simp
         obtain ⟨P31, hP9⟩ : ∃ P9, Z28.setCell ⟨gs, 2, none⟩ (.slice (some ⟨g9, 0, none⟩) (xs.length + 1) c9) = P9 := ⟨_, rfl⟩
         rw [hP9] at HK30 ⊢
         clear hP9 ck32 ck32f
         refine hK.out _ _ (RwW.box HK30.out) (fun hHeld => ?_)
         clear hK K
         (try simp only [Act.put, nA, nB, nC])
         refine wpAnyH_done (by kernel_rfl) ?_ _
         go_wp2_with fail
         refine bodyPost_end (results_none rfl _ _ _) rfl ?_
         exact LiR.ok' HE9.out rfl ⟨_, HK30.out⟩
   · have HE9 := Lib.hid (show r = .bad z9 by rw [HF.out, hx]; rfl)
     refine wp_region_held_drew (S := fun W9 => W9.cell? ⟨b1, 0, none⟩ = some (.pointer (some ⟨gp, 0, none⟩))) (by kernel_rfl) (RwW.box (H5.out.drew)) (fun hHeld => ?_)
     have HK33 := Lib.hid H5.out.drew
     generalize W5.drew = Wd at *
     refine heldTake (i := 0) (d := some 7) (v := ?_) rfl rfl (by kernel_rfl) (by kernel_rfl) (by kernel_rfl) (fun _ _ _ h => h) (by kernel_rfl) ?hyq_9 (by assumption) ?restq_9
     case hyq_9 => (intro W9 hSw; (try dsimp only at hSw); go_simp; try (with_reducible rfl))
     (try simp only [Act.put, nA, nB, nC])
     refine heldTake (i := 2) (d := some 9) (v := ?_) rfl rfl (by kernel_rfl) (by kernel_rfl) (by kernel_rfl) (fun _ _ _ h => h) (by kernel_rfl) ?hyq_10 (by assumption) ?restq_10
     case hyq_10 => (intro W9 hSw; (try dsimp only at hSw); go_simp; try (with_reducible rfl))
     (try simp only [Act.put, nA, nB, nC])
     refine heldTake (i := 3) (d := some 10) (v := ?_) rfl rfl (by kernel_rfl) (by kernel_rfl) (by kernel_rfl) (fun _ _ _ h => h) (by kernel_rfl) ?hyq_11 (by assumption) ?restq_11
     case hyq_11 => (intro W9 hSw; (try dsimp only at hSw); go_simp; try (with_reducible rfl))
     (try simp only [Act.put, nA, nB, nC])
     refine wpAnyH_ready (rs := [1, 4]) (by kernel_rfl) (by simp) ?_
     refine AllReadyH.cons rfl (fun K hK => ?_) (AllReadyH.cons rfl (fun K hK => ?_) AllReadyH.nil)
     · have ck34 := HK33.out.s.cell (j := 2) (by simp [dcS])
       simp only [dcS, List.getElem_cons_zero, List.getElem_cons_succ] at ck34
       go_simp
       refine hK.out _ _ (RwW.box HK33.out) (fun hHeld => ?_)
       clear hK K
       (try simp only [Act.put, nA, nB, nC])
       clear ck34
       refine wpAnyH_ready (rs := [4]) (by kernel_rfl) (by simp) ?_
       refine AllReadyH.cons rfl (fun K hK => ?_) AllReadyH.nil
       go_simp
       go_at_call 62
       have HC9 := Lib.hid (kind_any HK33.out.p)
       rw [hx] at HC9
       refine HC9.out.mono ?_
       clear HC9
       rintro e9 X36 ⟨rfl, hpX, hgX⟩
       have hg9 := grown_trans HK33.out.g hgX
       go_wp2_with fail
       exact ⟨rfl, LiR.bad' HE9.out rfl ⟨hpX, hg9⟩⟩
     · go_simp
       go_at_call 62
       have HC9 := Lib.hid (kind_any HK33.out.p)
       rw [hx] at HC9
       refine HC9.out.mono ?_
       clear HC9
       rintro e9 X38 ⟨rfl, hpX, hgX⟩
       have hg9 := grown_trans HK33.out.g hgX
       go_wp2_with fail
       exact ⟨rfl, LiR.bad' HE9.out rfl ⟨hpX, hg9⟩⟩
   · exact absurd hx (tyP_out _)
theorem fun_owes :
 OneL gp A c l (InvP w gp gs b1 A c l nm ln) (BdV w gp A c l) pmO 61 (#[] ++ #[.pointer (some ⟨b1, 0, none⟩), .pointer (some ⟨gs, 0, none⟩)]) where
 enter := fun a w => run_enterS Try.func61 (by kernel_rfl) (by kernel_rfl) a w
 call := fun x u W h => funin_any x h
 ps := fun _ _ _ ⟨_, h⟩ => h.p
 step := fun _ _ _ _ _ ⟨v, h⟩ hp hg hu => ⟨v, h.step hp hg hu⟩
 bad := fun _ _ _ ⟨_, h⟩ => ⟨h.p, h.g⟩
 len := fun x u y v h => by
  obtain ⟨e, z, h1, h2⟩ := bind_is h
  injection h2 with _ h2
  subst h2
  exact pmP_len h1
 nout := pmO_out
end
end Go.Proofs.Ytjllbacefbjjaaa
