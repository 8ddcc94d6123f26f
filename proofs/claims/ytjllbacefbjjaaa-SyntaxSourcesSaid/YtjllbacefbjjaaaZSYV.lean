/-
  Merged for a claim: SYV.
-/
import Derived.Test.YtjllbacefbjjaaaZJ12
namespace Go.Proofs.Ytjllbacefbjjaaa
open Go Go.RowKit

def SmR (w wf : World) (gp gs : Nat) (A : Option Addr) (c : Nat) (l : List To) (r : R (SF × List Ex)) (e : Ending) (w' : World) : Prop := match r with
 | .ok x v => e = .returned (.tuple #[]) ∧ ∃ ks vk, xsd ks = x.2 ∧ Hid (SmW w wf gp gs A c l x.1 ks vk w' v)
 | .bad v => e = .panicked misC ∧ Ps w' gp A c l v ∧ w.grownBy w' (some gp)
 | .out => False
def valP (s : SF) (es : List Ex) (u : List To) : R (SF × List Ex) := (exP u).bind fun x v => .ok (s, es ++ [x]) v
section
variable {w wf w1 : World} {gp gs : Nat} {A : Option Addr} {c : Nat} {l u : List To} {s : SF} {ks : List XT} {vk : Value}
set_option maxRecDepth 100000 in
set_option maxHeartbeats 8000000 in
theorem value_any (h : SmW w wf gp gs A c l s ks vk w1 u) : Calls Try.prog 84 #[.pointer (some ⟨gp, 0, none⟩), .pointer (some ⟨gs, 0, none⟩)] w1 (SmR w wf gp gs A c l (valP s (xsd ks) u)) := by
 obtain ⟨Av, cv, rfl, _, _, _⟩ := El.Own.form (show eX.Own w1 (gs + 1) vk ks from h.r)
 have H0 := Lib.hid (show SmZ w wf gp gs A c l s (.slice Av ks.length cv) ks ks (.slice Av ks.length cv) w1 u from h)
 have hkl := h.n.2.2
 have hln := h.p.n
 have hkn : ks.length ≤ 1000000 := by omega
 clear h
 rcases hrx : exP u with ⟨x, v1⟩ | v1 | _
 · rw [show valP s (xsd ks) u = .ok (s, xsd ks ++ [x]) v1 by unfold valP; rw [hrx]; rfl]
   have hxl := exP_len hrx
   have hkx : ks.length + 1 + v1.length ≤ l.length := by omega
   have hlt9 : (ks.length : Int) < (ks.length : Int) + 1 := by omega
   go_enter Try.func84, Try.ntmps84
   go_wp2_with fail
   refine wp_region_held_drew (S := fun W9 => True) (by kernel_rfl) trivial (fun hHeld => ?_)
   have HK0 := Lib.hid H0.out.drew
   generalize w1.drew = Wd at *
   clear H0
   refine heldTake (i := 0) (d := some 4) (v := ?_) rfl rfl (by kernel_rfl) (by kernel_rfl) (by kernel_rfl) (fun _ _ _ h => h) (by kernel_rfl) ?hyq_1 (by assumption) ?restq_1
   case hyq_1 => (intro W9 hSw; (try dsimp only at hSw); go_simp; try (with_reducible rfl))
   (try simp only [Act.put, nA, nB, nC])
   refine heldTake (i := 1) (d := some 5) (v := ?_) rfl rfl (by kernel_rfl) (by kernel_rfl) (by kernel_rfl) (fun _ _ _ h => h) (by kernel_rfl) ?hyq_2 (by assumption) ?restq_2
   case hyq_2 => (intro W9 hSw; (try dsimp only at hSw); go_simp; try (with_reducible rfl))
   (try simp only [Act.put, nA, nB, nC])
   refine heldTake (i := 2) (d := some 6) (v := ?_) rfl rfl (by kernel_rfl) (by kernel_rfl) (by kernel_rfl) (fun _ _ _ h => h) (by kernel_rfl) ?hyq_3 (by assumption) ?restq_3
   case hyq_3 => (intro W9 hSw; (try dsimp only at hSw); go_simp; try (with_reducible rfl))
   (try simp only [Act.put, nA, nB, nC])
   refine heldTake (i := 4) (d := some 8) (v := ?_) rfl rfl (by kernel_rfl) (by kernel_rfl) (by kernel_rfl) (fun _ _ _ h => h) (by kernel_rfl) ?hyq_4 (by assumption) ?restq_4
   case hyq_4 => (intro W9 hSw; (try dsimp only at hSw); go_simp; try (with_reducible rfl))
   (try simp only [Act.put, nA, nB, nC])
   refine wpAnyH_ready (rs := [3, 5, 7]) (by kernel_rfl) (by simp) ?_
   refine AllReadyH.cons rfl (fun K hK => ?_) (AllReadyH.cons rfl (fun K hK => ?_) (AllReadyH.cons rfl (fun K hK => ?_) AllReadyH.nil))
   · have ce1 := HK0.out.s.cell (j := 8) (by simp [SF.cs])
     simp only [SF.cs, List.getElem_cons_zero, List.getElem_cons_succ] at ce1
     go_simp
     refine hK.out _ _ trivial (fun hHeld => ?_)
     clear hK K
     (try simp only [Act.put, nA, nB, nC])
     clear ce1
     refine heldTake (i := 6) (d := some 10) (v := ?_) rfl rfl (by kernel_rfl) (by kernel_rfl) (by kernel_rfl) (fun _ _ _ h => h) (by kernel_rfl) ?hyq_5 (by assumption) ?restq_5
     case hyq_5 => (intro W9 hSw; (try dsimp only at hSw); go_simp; try (with_reducible rfl))
     (try simp only [Act.put, nA, nB, nC])
     refine wpAnyH_ready (rs := [5, 7]) (by kernel_rfl) (by simp) ?_
     refine AllReadyH.cons rfl (fun K hK => ?_) (AllReadyH.cons rfl (fun K hK => ?_) AllReadyH.nil)
     · go_simp
       go_at_call 87
       have HC4 := Lib.hid (expression_any HK0.out.p)
       rw [hrx] at HC4
       refine HC4.out.mono ?_
       rintro e9 X3 ⟨t9, rfl, htd, hto, hpX, hgX⟩
       have HXD := Lib.hid htd
       have hzs := HK0.out.s.lt
       have HXO := Lib.hid (hto.up (Q := fun g => gs < g ∧ (.slice Av ks.length cv : Value).ownBlock ≠ some g) fun g q => ⟨by omega, fun e => by have := (HK0.out.r.lt g e).2.1; omega⟩)
       have HK2 := Lib.hid (HK0.out.step hpX hgX (by omega))
       clear htd hto hpX hgX hzs HC4
       obtain ⟨k2, n2, m2, f2, o2, A2, c2, ks2⟩ := t9
       unfold xV XT.cs
       go_wp2_with fail
       refine hK.out _ _ trivial (fun hHeld => ?_)
       clear hK K
       (try simp only [Act.put, nA, nB, nC])
       refine wpAnyH_ready (rs := [7]) (by kernel_rfl) (by simp) ?_
       refine AllReadyH.cons rfl (fun K hK => ?_) AllReadyH.nil
       (try rw [if_pos (by kernel_rfl)])
       refine El.op_build1 eX X3 49 (.agg #[.int .u8 0, .int .i64 0, .string ⟨#[]⟩, .string ⟨#[]⟩, .string ⟨#[]⟩, .slice none 0 0]) 88 Try.underlying49 exp_info rfl (by decide) (.const (.agg #[.int .u8 0, .int .i64 0, .string ⟨#[]⟩, .string ⟨#[]⟩, .string ⟨#[]⟩, .slice none 0 0])) rfl (.agg #[.int .u8 0, .int .i64 0, .string ⟨#[]⟩, .string ⟨#[]⟩, .string ⟨#[]⟩, .slice none 0 0]) (xLeaf 0 0 [] [] []) rfl rfl ?_
       change K (Act.put _ (some 11) (.slice (some ⟨X3.heap.size, 0, none⟩) 1 1)) (X3.alloc (.cells #[.int .u8 0, .int .i64 0, .string ⟨#[]⟩, .string ⟨#[]⟩, .string ⟨#[]⟩, .slice none 0 0] 53))
       have hbY := below_lnew X3 (.cells #[.int .u8 0, .int .i64 0, .string ⟨#[]⟩, .string ⟨#[]⟩, .string ⟨#[]⟩, .slice none 0 0] 53)
       have hcY := heap_alloc_new X3 (.cells #[.int .u8 0, .int .i64 0, .string ⟨#[]⟩, .string ⟨#[]⟩, .string ⟨#[]⟩, .slice none 0 0] 53)
       obtain ⟨Y6, hY⟩ : ∃ Y, X3.alloc (.cells #[.int .u8 0, .int .i64 0, .string ⟨#[]⟩, .string ⟨#[]⟩, .string ⟨#[]⟩, .slice none 0 0] 53) = Y := ⟨_, rfl⟩
       rw [hY] at hbY hcY ⊢
       have HK5 := Lib.hid (HK2.out.below hbY)
       have HB7 := Lib.hid hcY
       have hz8 : gs < X3.heap.size := HK2.out.s.lt
       replace HXO := Lib.hid (HXO.out.below hbY)
       clear hY hbY hcY
       refine hK.out _ _ trivial (fun hHeld => ?_)
       clear hK K
       (try simp only [Act.put, nA, nB, nC])
       refine wpAnyH_ready (rs := [8]) (by kernel_rfl) (by simp) ?_
       refine AllReadyH.cons rfl (fun K hK => ?_) AllReadyH.nil
       (try rw [if_pos (by kernel_rfl)])
       refine El.op_app1x eX Y6 49 (.agg #[.int .u8 0, .int .i64 0, .string ⟨#[]⟩, .string ⟨#[]⟩, .string ⟨#[]⟩, .slice none 0 0]) 88 Try.underlying49 exp_info rfl (by decide) (by decide) (.tmp 7) (.tmp 11) rfl (gs + 1) (.slice Av ks.length cv) ks rfl HK5.out.r X3.heap.size 1 (xLeaf 0 0 [] [] []) rfl 53 HB7.out hkn (Nat.succ_le_of_lt HK5.out.s.lt) ?_
       intro v9 Z9 ho9 hg9 hk9
       obtain ⟨g9, c9, rfl⟩ := El.Own.at0 ho9 (by simp)
       have HK10 := Lib.hid (SmZ.add HK5.out HXO.out hkx hg9 ho9 hk9)
       clear ho9 hg9 hk9
       have hlen9 : (ks ++ [xLeaf 0 0 [] [] []]).length = ks.length + 1 := by simp
       change K (Act.put _ (some 12) (.slice (some ⟨g9, 0, none⟩) (ks ++ [xLeaf 0 0 [] [] []]).length c9)) Z9
       rw [hlen9]
       rw [hlen9] at HK10
       refine hK.out _ _ trivial (fun hHeld => ?_)
       clear hK K
       (try simp only [Act.put, nA, nB, nC])
       refine heldTake (i := 9) (d := some 13) (v := ?_) rfl rfl (by kernel_rfl) (by kernel_rfl) (by kernel_rfl) (fun _ _ _ h => h) (by kernel_rfl) ?hyq_6 (by assumption) ?restq_6
       case hyq_6 => (intro W9 hSw; (try dsimp only at hSw); go_simp; try (with_reducible rfl))
       (try simp only [Act.put, nA, nB, nC])
       refine heldTake (i := 11) (d := some 14) (v := ?_) rfl rfl (by kernel_rfl) (by kernel_rfl) (by kernel_rfl) (fun _ _ _ h => h) (by kernel_rfl) ?hyq_7 (by assumption) ?restq_7
       case hyq_7 => (intro W9 hSw; (try dsimp only at hSw); go_simp; try (with_reducible rfl))
       (try simp only [Act.put, nA, nB, nC])
       refine heldTake (i := 12) (d := some 15) (v := ?_) rfl rfl (by kernel_rfl) (by kernel_rfl) (by kernel_rfl) (fun _ _ _ h => h) (by kernel_rfl) ?hyq_8 (by assumption) ?restq_8
       case hyq_8 => (intro W9 hSw; (try dsimp only at hSw); go_simp; try (with_reducible rfl))
       (try simp only [Act.put, nA, nB, nC])
       refine wpAnyH_ready (rs := [10, 13]) (by kernel_rfl) (by simp) ?_
       refine AllReadyH.cons rfl (fun K hK => ?_) (AllReadyH.cons rfl (fun K hK => ?_) AllReadyH.nil)
       · have r0 := putX_at1 HK10.out.r (f := 0) rfl
         have rf0 := putX_frozen1 HK10.out.r (ks.length * 6 + 0)
         have r1 := putX_at1 HK10.out.r (f := 1) rfl
         have rf1 := putX_frozen1 HK10.out.r (ks.length * 6 + 1)
         have r2 := putX_at1 HK10.out.r (f := 2) rfl
         have rf2 := putX_frozen1 HK10.out.r (ks.length * 6 + 2)
         have r3 := putX_at1 HK10.out.r (f := 3) rfl
         have rf3 := putX_frozen1 HK10.out.r (ks.length * 6 + 3)
         have r4 := putX_at1 HK10.out.r (f := 4) rfl
         have rf4 := putX_frozen1 HK10.out.r (ks.length * 6 + 4)
         have r5 := putX_at1 HK10.out.r (f := 5) rfl
         have rf5 := putX_frozen1 HK10.out.r (ks.length * 6 + 5)
         simp only [Nat.add_zero] at r0 rf0
         have HK11 := Lib.hid (SmZ.putX1 HK10.out (XT.mk k2 n2 m2 f2 o2 A2 c2 ks2))
         go_simp
         change K _ (putX Z9 g9 (ks.length * 6) (XT.mk k2 n2 m2 f2 o2 A2 c2 ks2))
         obtain ⟨P9, hP9⟩ : ∃ P9, putX Z9 g9 (ks.length * 6) (XT.mk k2 n2 m2 f2 o2 A2 c2 ks2) = P9 := ⟨_, rfl⟩
         rw [hP9] at HK11 ⊢
         clear hP9
         refine hK.out _ _ trivial (fun hHeld => ?_)
         clear hK K
         (try simp only [Act.put, nA, nB, nC])
         clear r0 rf0 r1 rf1 r2 rf2 r3 rf3 r4 rf4 r5 rf5
         refine wpAnyH_ready (rs := [13]) (by kernel_rfl) (by simp) ?_
         refine AllReadyH.cons rfl (fun K hK => ?_) AllReadyH.nil
         have q8 := HK11.out.s.cell (j := 8) (by simp [SF.cs])
         have qf8 := HK11.out.s.frozen 8
         simp only [SF.cs, List.getElem_cons_zero, List.getElem_cons_succ] at q8
         have HK12 := Lib.hid (SmZ.setK HK11.out)
         go_simp
         refine hK.out _ _ trivial (fun hHeld => ?_)
         clear hK K
         (try simp only [Act.put, nA, nB, nC])
         refine wpAnyH_done (by kernel_rfl) ?_ _
         go_wp2_with fail
         refine bodyPost_end (results_none rfl _ _ _) rfl ?_
         exact ⟨rfl, ks ++ [XT.mk k2 n2 m2 f2 o2 A2 c2 ks2], _, by rw [xsd_snoc, HXD.out], HK12⟩
       · have q8 := HK10.out.s.cell (j := 8) (by simp [SF.cs])
         have qf8 := HK10.out.s.frozen 8
         simp only [SF.cs, List.getElem_cons_zero, List.getElem_cons_succ] at q8
         have HK13 := Lib.hid (SmZ.setK HK10.out)
         go_simp
         refine hK.out _ _ trivial (fun hHeld => ?_)
         clear hK K
         (try simp only [Act.put, nA, nB, nC])
         clear q8 qf8
         refine wpAnyH_ready (rs := [10]) (by kernel_rfl) (by simp) ?_
         refine AllReadyH.cons rfl (fun K hK => ?_) AllReadyH.nil
         have r0 := putX_at1 HK13.out.r (f := 0) rfl
         have rf0 := putX_frozen1 HK13.out.r (ks.length * 6 + 0)
         have r1 := putX_at1 HK13.out.r (f := 1) rfl
         have rf1 := putX_frozen1 HK13.out.r (ks.length * 6 + 1)
         have r2 := putX_at1 HK13.out.r (f := 2) rfl
         have rf2 := putX_frozen1 HK13.out.r (ks.length * 6 + 2)
         have r3 := putX_at1 HK13.out.r (f := 3) rfl
         have rf3 := putX_frozen1 HK13.out.r (ks.length * 6 + 3)
         have r4 := putX_at1 HK13.out.r (f := 4) rfl
         have rf4 := putX_frozen1 HK13.out.r (ks.length * 6 + 4)
         have r5 := putX_at1 HK13.out.r (f := 5) rfl
         have rf5 := putX_frozen1 HK13.out.r (ks.length * 6 + 5)
         simp only [Nat.add_zero] at r0 rf0
         have HK14 := Lib.hid (SmZ.putX1 HK13.out (XT.mk k2 n2 m2 f2 o2 A2 c2 ks2))
         go_simp
         refine hK.out _ _ trivial (fun hHeld => ?_)
         clear hK K
         (try simp only [Act.put, nA, nB, nC])
         refine wpAnyH_done (by kernel_rfl) ?_ _
         go_wp2_with fail
         refine bodyPost_end (results_none rfl _ _ _) rfl ?_
         exact ⟨rfl, ks ++ [XT.mk k2 n2 m2 f2 o2 A2 c2 ks2], _, by rw [xsd_snoc, HXD.out], HK14⟩
     · (try rw [if_pos (by kernel_rfl)])
       refine El.op_build1 eX Wd 49 (.agg #[.int .u8 0, .int .i64 0, .string ⟨#[]⟩, .string ⟨#[]⟩, .string ⟨#[]⟩, .slice none 0 0]) 88 Try.underlying49 exp_info rfl (by decide) (.const (.agg #[.int .u8 0, .int .i64 0, .string ⟨#[]⟩, .string ⟨#[]⟩, .string ⟨#[]⟩, .slice none 0 0])) rfl (.agg #[.int .u8 0, .int .i64 0, .string ⟨#[]⟩, .string ⟨#[]⟩, .string ⟨#[]⟩, .slice none 0 0]) (xLeaf 0 0 [] [] []) rfl rfl ?_
       change K (Act.put _ (some 11) (.slice (some ⟨Wd.heap.size, 0, none⟩) 1 1)) (Wd.alloc (.cells #[.int .u8 0, .int .i64 0, .string ⟨#[]⟩, .string ⟨#[]⟩, .string ⟨#[]⟩, .slice none 0 0] 53))
       have hbY := below_lnew Wd (.cells #[.int .u8 0, .int .i64 0, .string ⟨#[]⟩, .string ⟨#[]⟩, .string ⟨#[]⟩, .slice none 0 0] 53)
       have hcY := heap_alloc_new Wd (.cells #[.int .u8 0, .int .i64 0, .string ⟨#[]⟩, .string ⟨#[]⟩, .string ⟨#[]⟩, .slice none 0 0] 53)
       obtain ⟨Y16, hY⟩ : ∃ Y, Wd.alloc (.cells #[.int .u8 0, .int .i64 0, .string ⟨#[]⟩, .string ⟨#[]⟩, .string ⟨#[]⟩, .slice none 0 0] 53) = Y := ⟨_, rfl⟩
       rw [hY] at hbY hcY ⊢
       have HK15 := Lib.hid (HK0.out.below hbY)
       have HB17 := Lib.hid hcY
       have hz18 : gs < Wd.heap.size := HK0.out.s.lt
       clear hY hbY hcY
       refine hK.out _ _ trivial (fun hHeld => ?_)
       clear hK K
       (try simp only [Act.put, nA, nB, nC])
       refine wpAnyH_ready (rs := [5]) (by kernel_rfl) (by simp) ?_
       refine AllReadyH.cons rfl (fun K hK => ?_) AllReadyH.nil
       go_simp
       go_at_call 87
       have HC21 := Lib.hid (expression_any HK15.out.p)
       rw [hrx] at HC21
       refine HC21.out.mono ?_
       rintro e9 X20 ⟨t9, rfl, htd, hto, hpX, hgX⟩
       have HXD := Lib.hid htd
       have hzs := HK15.out.s.lt
       have HXO := Lib.hid (hto.up (Q := fun g => gs < g ∧ (.slice Av ks.length cv : Value).ownBlock ≠ some g) fun g q => ⟨by omega, fun e => by have := (HK15.out.r.lt g e).2.1; omega⟩)
       have HK19 := Lib.hid (HK15.out.step hpX hgX (by omega))
       have HB22 := Lib.hid ((hgX.block _ (Array.getElem?_eq_some_iff.1 HB17.out).1 (fun e => by injection e with e; have := HK15.out.n; have := hz18; omega)).trans HB17.out)
       clear htd hto hpX hgX hzs HC21
       obtain ⟨k2, n2, m2, f2, o2, A2, c2, ks2⟩ := t9
       unfold xV XT.cs
       go_wp2_with fail
       refine hK.out _ _ trivial (fun hHeld => ?_)
       clear hK K
       (try simp only [Act.put, nA, nB, nC])
       refine wpAnyH_ready (rs := [8]) (by kernel_rfl) (by simp) ?_
       refine AllReadyH.cons rfl (fun K hK => ?_) AllReadyH.nil
       (try rw [if_pos (by kernel_rfl)])
       refine El.op_app1x eX X20 49 (.agg #[.int .u8 0, .int .i64 0, .string ⟨#[]⟩, .string ⟨#[]⟩, .string ⟨#[]⟩, .slice none 0 0]) 88 Try.underlying49 exp_info rfl (by decide) (by decide) (.tmp 7) (.tmp 11) rfl (gs + 1) (.slice Av ks.length cv) ks rfl HK19.out.r Wd.heap.size 1 (xLeaf 0 0 [] [] []) rfl 53 HB22.out hkn (Nat.succ_le_of_lt HK19.out.s.lt) ?_
       intro v9 Z23 ho9 hg9 hk9
       obtain ⟨g9, c9, rfl⟩ := El.Own.at0 ho9 (by simp)
       have HK24 := Lib.hid (SmZ.add HK19.out HXO.out hkx hg9 ho9 hk9)
       clear ho9 hg9 hk9
       have hlen9 : (ks ++ [xLeaf 0 0 [] [] []]).length = ks.length + 1 := by simp
       change K (Act.put _ (some 12) (.slice (some ⟨g9, 0, none⟩) (ks ++ [xLeaf 0 0 [] [] []]).length c9)) Z23
       rw [hlen9]
       rw [hlen9] at HK24
       refine hK.out _ _ trivial (fun hHeld => ?_)
       clear hK K
       (try simp only [Act.put, nA, nB, nC])
       refine heldTake (i := 9) (d := some 13) (v := ?_) rfl rfl (by kernel_rfl) (by kernel_rfl) (by kernel_rfl) (fun _ _ _ h => h) (by kernel_rfl) ?hyq_9 (by assumption) ?restq_9
       case hyq_9 => (intro W9 hSw; (try dsimp only at hSw); go_simp; try (with_reducible rfl))
       (try simp only [Act.put, nA, nB, nC])
       refine heldTake (i := 11) (d := some 14) (v := ?_) rfl rfl (by kernel_rfl) (by kernel_rfl) (by kernel_rfl) (fun _ _ _ h => h) (by kernel_rfl) ?hyq_10 (by assumption) ?restq_10
       case hyq_10 => (intro W9 hSw; (try dsimp only at hSw); go_simp; try (with_reducible rfl))
       (try simp only [Act.put, nA, nB, nC])
       refine heldTake (i := 12) (d := some 15) (v := ?_) rfl rfl (by kernel_rfl) (by kernel_rfl) (by kernel_rfl) (fun _ _ _ h => h) (by kernel_rfl) ?hyq_11 (by assumption) ?restq_11
       case hyq_11 => (intro W9 hSw; (try dsimp only at hSw); go_simp; try (with_reducible rfl))
       (try simp only [Act.put, nA, nB, nC])
       refine wpAnyH_ready (rs := [10, 13]) (by kernel_rfl) (by simp) ?_
       refine AllReadyH.cons rfl (fun K hK => ?_) (AllReadyH.cons rfl (fun K hK => ?_) AllReadyH.nil)
       · have r0 := putX_at1 HK24.out.r (f := 0) rfl
         have rf0 := putX_frozen1 HK24.out.r (ks.length * 6 + 0)
         have r1 := putX_at1 HK24.out.r (f := 1) rfl
         have rf1 := putX_frozen1 HK24.out.r (ks.length * 6 + 1)
         have r2 := putX_at1 HK24.out.r (f := 2) rfl
         have rf2 := putX_frozen1 HK24.out.r (ks.length * 6 + 2)
         have r3 := putX_at1 HK24.out.r (f := 3) rfl
         have rf3 := putX_frozen1 HK24.out.r (ks.length * 6 + 3)
         have r4 := putX_at1 HK24.out.r (f := 4) rfl
         have rf4 := putX_frozen1 HK24.out.r (ks.length * 6 + 4)
         have r5 := putX_at1 HK24.out.r (f := 5) rfl
         have rf5 := putX_frozen1 HK24.out.r (ks.length * 6 + 5)
         simp only [Nat.add_zero] at r0 rf0
         have HK25 := Lib.hid (SmZ.putX1 HK24.out (XT.mk k2 n2 m2 f2 o2 A2 c2 ks2))
         go_simp
         change K _ (putX Z23 g9 (ks.length * 6) (XT.mk k2 n2 m2 f2 o2 A2 c2 ks2))
         obtain ⟨P9, hP9⟩ : ∃ P9, putX Z23 g9 (ks.length * 6) (XT.mk k2 n2 m2 f2 o2 A2 c2 ks2) = P9 := ⟨_, rfl⟩
         rw [hP9] at HK25 ⊢
         clear hP9
         refine hK.out _ _ trivial (fun hHeld => ?_)
         clear hK K
         (try simp only [Act.put, nA, nB, nC])
         clear r0 rf0 r1 rf1 r2 rf2 r3 rf3 r4 rf4 r5 rf5
         refine wpAnyH_ready (rs := [13]) (by kernel_rfl) (by simp) ?_
         refine AllReadyH.cons rfl (fun K hK => ?_) AllReadyH.nil
         have q8 := HK25.out.s.cell (j := 8) (by simp [SF.cs])
         have qf8 := HK25.out.s.frozen 8
         simp only [SF.cs, List.getElem_cons_zero, List.getElem_cons_succ] at q8
         have HK26 := Lib.hid (SmZ.setK HK25.out)
         go_simp
         refine hK.out _ _ trivial (fun hHeld => ?_)
         clear hK K
         (try simp only [Act.put, nA, nB, nC])
         refine wpAnyH_done (by kernel_rfl) ?_ _
         go_wp2_with fail
         refine bodyPost_end (results_none rfl _ _ _) rfl ?_
         exact ⟨rfl, ks ++ [XT.mk k2 n2 m2 f2 o2 A2 c2 ks2], _, by rw [xsd_snoc, HXD.out], HK26⟩
       · have q8 := HK24.out.s.cell (j := 8) (by simp [SF.cs])
         have qf8 := HK24.out.s.frozen 8
         simp only [SF.cs, List.getElem_cons_zero, List.getElem_cons_succ] at q8
         have HK27 := Lib.hid (SmZ.setK HK24.out)
         go_simp
         refine hK.out _ _ trivial (fun hHeld => ?_)
         clear hK K
         (try simp only [Act.put, nA, nB, nC])
         clear q8 qf8
         refine wpAnyH_ready (rs := [10]) (by kernel_rfl) (by simp) ?_
         refine AllReadyH.cons rfl (fun K hK => ?_) AllReadyH.nil
         have r0 := putX_at1 HK27.out.r (f := 0) rfl
         have rf0 := putX_frozen1 HK27.out.r (ks.length * 6 + 0)
         have r1 := putX_at1 HK27.out.r (f := 1) rfl
         have rf1 := putX_frozen1 HK27.out.r (ks.length * 6 + 1)
         have r2 := putX_at1 HK27.out.r (f := 2) rfl
         have rf2 := putX_frozen1 HK27.out.r (ks.length * 6 + 2)
         have r3 := putX_at1 HK27.out.r (f := 3) rfl
         have rf3 := putX_frozen1 HK27.out.r (ks.length * 6 + 3)
         have r4 := putX_at1 HK27.out.r (f := 4) rfl
         have rf4 := putX_frozen1 HK27.out.r (ks.length * 6 + 4)
         have r5 := putX_at1 HK27.out.r (f := 5) rfl
         have rf5 := putX_frozen1 HK27.out.r (ks.length * 6 + 5)
         simp only [Nat.add_zero] at r0 rf0
         have HK28 := Lib.hid (SmZ.putX1 HK27.out (XT.mk k2 n2 m2 f2 o2 A2 c2 ks2))
         go_simp
         refine hK.out _ _ trivial (fun hHeld => ?_)
         clear hK K
         (try simp only [Act.put, nA, nB, nC])
         refine wpAnyH_done (by kernel_rfl) ?_ _
         go_wp2_with fail
         refine bodyPost_end (results_none rfl _ _ _) rfl ?_
         exact ⟨rfl, ks ++ [XT.mk k2 n2 m2 f2 o2 A2 c2 ks2], _, by rw [xsd_snoc, HXD.out], HK28⟩
   · go_simp
     go_at_call 87
     have HC31 := Lib.hid (expression_any HK0.out.p)
     rw [hrx] at HC31
     refine HC31.out.mono ?_
     rintro e9 X30 ⟨t9, rfl, htd, hto, hpX, hgX⟩
     have HXD := Lib.hid htd
     have hzs := HK0.out.s.lt
     have HXO := Lib.hid (hto.up (Q := fun g => gs < g ∧ (.slice Av ks.length cv : Value).ownBlock ≠ some g) fun g q => ⟨by omega, fun e => by have := (HK0.out.r.lt g e).2.1; omega⟩)
     have HK29 := Lib.hid (HK0.out.step hpX hgX (by omega))
     clear htd hto hpX hgX hzs HC31
     obtain ⟨k2, n2, m2, f2, o2, A2, c2, ks2⟩ := t9
     unfold xV XT.cs
     go_wp2_with fail
     refine hK.out _ _ trivial (fun hHeld => ?_)
     clear hK K
     (try simp only [Act.put, nA, nB, nC])
     refine wpAnyH_ready (rs := [3, 7]) (by kernel_rfl) (by simp) ?_
     refine AllReadyH.cons rfl (fun K hK => ?_) (AllReadyH.cons rfl (fun K hK => ?_) AllReadyH.nil)
     · have ce32 := HK29.out.s.cell (j := 8) (by simp [SF.cs])
       simp only [SF.cs, List.getElem_cons_zero, List.getElem_cons_succ] at ce32
       go_simp
       refine hK.out _ _ trivial (fun hHeld => ?_)
       clear hK K
       (try simp only [Act.put, nA, nB, nC])
       clear ce32
       refine heldTake (i := 6) (d := some 10) (v := ?_) rfl rfl (by kernel_rfl) (by kernel_rfl) (by kernel_rfl) (fun _ _ _ h => h) (by kernel_rfl) ?hyq_12 (by assumption) ?restq_12
       case hyq_12 => (intro W9 hSw; (try dsimp only at hSw); go_simp; try (with_reducible rfl))
       (try simp only [Act.put, nA, nB, nC])
       refine wpAnyH_ready (rs := [7]) (by kernel_rfl) (by simp) ?_
       refine AllReadyH.cons rfl (fun K hK => ?_) AllReadyH.nil
       (try rw [if_pos (by kernel_rfl)])
       refine El.op_build1 eX X30 49 (.agg #[.int .u8 0, .int .i64 0, .string ⟨#[]⟩, .string ⟨#[]⟩, .string ⟨#[]⟩, .slice none 0 0]) 88 Try.underlying49 exp_info rfl (by decide) (.const (.agg #[.int .u8 0, .int .i64 0, .string ⟨#[]⟩, .string ⟨#[]⟩, .string ⟨#[]⟩, .slice none 0 0])) rfl (.agg #[.int .u8 0, .int .i64 0, .string ⟨#[]⟩, .string ⟨#[]⟩, .string ⟨#[]⟩, .slice none 0 0]) (xLeaf 0 0 [] [] []) rfl rfl ?_
       change K (Act.put _ (some 11) (.slice (some ⟨X30.heap.size, 0, none⟩) 1 1)) (X30.alloc (.cells #[.int .u8 0, .int .i64 0, .string ⟨#[]⟩, .string ⟨#[]⟩, .string ⟨#[]⟩, .slice none 0 0] 53))
       have hbY := below_lnew X30 (.cells #[.int .u8 0, .int .i64 0, .string ⟨#[]⟩, .string ⟨#[]⟩, .string ⟨#[]⟩, .slice none 0 0] 53)
       have hcY := heap_alloc_new X30 (.cells #[.int .u8 0, .int .i64 0, .string ⟨#[]⟩, .string ⟨#[]⟩, .string ⟨#[]⟩, .slice none 0 0] 53)
       obtain ⟨Y34, hY⟩ : ∃ Y, X30.alloc (.cells #[.int .u8 0, .int .i64 0, .string ⟨#[]⟩, .string ⟨#[]⟩, .string ⟨#[]⟩, .slice none 0 0] 53) = Y := ⟨_, rfl⟩
       rw [hY] at hbY hcY ⊢
       have HK33 := Lib.hid (HK29.out.below hbY)
       have HB35 := Lib.hid hcY
       have hz36 : gs < X30.heap.size := HK29.out.s.lt
       replace HXO := Lib.hid (HXO.out.below hbY)
       clear hY hbY hcY
       refine hK.out _ _ trivial (fun hHeld => ?_)
       clear hK K
       (try simp only [Act.put, nA, nB, nC])
       refine wpAnyH_ready (rs := [8]) (by kernel_rfl) (by simp) ?_
       refine AllReadyH.cons rfl (fun K hK => ?_) AllReadyH.nil
       (try rw [if_pos (by kernel_rfl)])
       refine El.op_app1x eX Y34 49 (.agg #[.int .u8 0, .int .i64 0, .string ⟨#[]⟩, .string ⟨#[]⟩, .string ⟨#[]⟩, .slice none 0 0]) 88 Try.underlying49 exp_info rfl (by decide) (by decide) (.tmp 7) (.tmp 11) rfl (gs + 1) (.slice Av ks.length cv) ks rfl HK33.out.r X30.heap.size 1 (xLeaf 0 0 [] [] []) rfl 53 HB35.out hkn (Nat.succ_le_of_lt HK33.out.s.lt) ?_
       intro v9 Z37 ho9 hg9 hk9
       obtain ⟨g9, c9, rfl⟩ := El.Own.at0 ho9 (by simp)
       have HK38 := Lib.hid (SmZ.add HK33.out HXO.out hkx hg9 ho9 hk9)
       clear ho9 hg9 hk9
       have hlen9 : (ks ++ [xLeaf 0 0 [] [] []]).length = ks.length + 1 := by simp
       change K (Act.put _ (some 12) (.slice (some ⟨g9, 0, none⟩) (ks ++ [xLeaf 0 0 [] [] []]).length c9)) Z37
       rw [hlen9]
       rw [hlen9] at HK38
       refine hK.out _ _ trivial (fun hHeld => ?_)
       clear hK K
       (try simp only [Act.put, nA, nB, nC])
       refine heldTake (i := 9) (d := some 13) (v := ?_) rfl rfl (by kernel_rfl) (by kernel_rfl) (by kernel_rfl) (fun _ _ _ h => h) (by kernel_rfl) ?hyq_13 (by assumption) ?restq_13
       case hyq_13 => (intro W9 hSw; (try dsimp only at hSw); go_simp; try (with_reducible rfl))
       (try simp only [Act.put, nA, nB, nC])
       refine heldTake (i := 11) (d := some 14) (v := ?_) rfl rfl (by kernel_rfl) (by kernel_rfl) (by kernel_rfl) (fun _ _ _ h => h) (by kernel_rfl) ?hyq_14 (by assumption) ?restq_14
       case hyq_14 => (intro W9 hSw; (try dsimp only at hSw); go_simp; try (with_reducible rfl))
       (try simp only [Act.put, nA, nB, nC])
       refine heldTake (i := 12) (d := some 15) (v := ?_) rfl rfl (by kernel_rfl) (by kernel_rfl) (by kernel_rfl) (fun _ _ _ h => h) (by kernel_rfl) ?hyq_15 (by assumption) ?restq_15
       case hyq_15 => (intro W9 hSw; (try dsimp only at hSw); go_simp; try (with_reducible rfl))
       (try simp only [Act.put, nA, nB, nC])
       refine wpAnyH_ready (rs := [10, 13]) (by kernel_rfl) (by simp) ?_
       refine AllReadyH.cons rfl (fun K hK => ?_) (AllReadyH.cons rfl (fun K hK => ?_) AllReadyH.nil)
       · have r0 := putX_at1 HK38.out.r (f := 0) rfl
         have rf0 := putX_frozen1 HK38.out.r (ks.length * 6 + 0)
         have r1 := putX_at1 HK38.out.r (f := 1) rfl
         have rf1 := putX_frozen1 HK38.out.r (ks.length * 6 + 1)
         have r2 := putX_at1 HK38.out.r (f := 2) rfl
         have rf2 := putX_frozen1 HK38.out.r (ks.length * 6 + 2)
         have r3 := putX_at1 HK38.out.r (f := 3) rfl
         have rf3 := putX_frozen1 HK38.out.r (ks.length * 6 + 3)
         have r4 := putX_at1 HK38.out.r (f := 4) rfl
         have rf4 := putX_frozen1 HK38.out.r (ks.length * 6 + 4)
         have r5 := putX_at1 HK38.out.r (f := 5) rfl
         have rf5 := putX_frozen1 HK38.out.r (ks.length * 6 + 5)
         simp only [Nat.add_zero] at r0 rf0
         have HK39 := Lib.hid (SmZ.putX1 HK38.out (XT.mk k2 n2 m2 f2 o2 A2 c2 ks2))
         go_simp
         change K _ (putX Z37 g9 (ks.length * 6) (XT.mk k2 n2 m2 f2 o2 A2 c2 ks2))
         obtain ⟨P9, hP9⟩ : ∃ P9, putX Z37 g9 (ks.length * 6) (XT.mk k2 n2 m2 f2 o2 A2 c2 ks2) = P9 := ⟨_, rfl⟩
         rw [hP9] at HK39 ⊢
         clear hP9
         refine hK.out _ _ trivial (fun hHeld => ?_)
         clear hK K
         (try simp only [Act.put, nA, nB, nC])
         clear r0 rf0 r1 rf1 r2 rf2 r3 rf3 r4 rf4 r5 rf5
         refine wpAnyH_ready (rs := [13]) (by kernel_rfl) (by simp) ?_
         refine AllReadyH.cons rfl (fun K hK => ?_) AllReadyH.nil
         have q8 := HK39.out.s.cell (j := 8) (by simp [SF.cs])
         have qf8 := HK39.out.s.frozen 8
         simp only [SF.cs, List.getElem_cons_zero, List.getElem_cons_succ] at q8
         have HK40 := Lib.hid (SmZ.setK HK39.out)
         go_simp
         refine hK.out _ _ trivial (fun hHeld => ?_)
         clear hK K
         (try simp only [Act.put, nA, nB, nC])
         refine wpAnyH_done (by kernel_rfl) ?_ _
         go_wp2_with fail
         refine bodyPost_end (results_none rfl _ _ _) rfl ?_
         exact ⟨rfl, ks ++ [XT.mk k2 n2 m2 f2 o2 A2 c2 ks2], _, by rw [xsd_snoc, HXD.out], HK40⟩
       · have q8 := HK38.out.s.cell (j := 8) (by simp [SF.cs])
         have qf8 := HK38.out.s.frozen 8
         simp only [SF.cs, List.getElem_cons_zero, List.getElem_cons_succ] at q8
         have HK41 := Lib.hid (SmZ.setK HK38.out)
         go_simp
         refine hK.out _ _ trivial (fun hHeld => ?_)
         clear hK K
         (try simp only [Act.put, nA, nB, nC])
         clear q8 qf8
         refine wpAnyH_ready (rs := [10]) (by kernel_rfl) (by simp) ?_
         refine AllReadyH.cons rfl (fun K hK => ?_) AllReadyH.nil
         have r0 := putX_at1 HK41.out.r (f := 0) rfl
         have rf0 := putX_frozen1 HK41.out.r (ks.length * 6 + 0)
         have r1 := putX_at1 HK41.out.r (f := 1) rfl
         have rf1 := putX_frozen1 HK41.out.r (ks.length * 6 + 1)
         have r2 := putX_at1 HK41.out.r (f := 2) rfl
         have rf2 := putX_frozen1 HK41.out.r (ks.length * 6 + 2)
         have r3 := putX_at1 HK41.out.r (f := 3) rfl
         have rf3 := putX_frozen1 HK41.out.r (ks.length * 6 + 3)
         have r4 := putX_at1 HK41.out.r (f := 4) rfl
         have rf4 := putX_frozen1 HK41.out.r (ks.length * 6 + 4)
         have r5 := putX_at1 HK41.out.r (f := 5) rfl
         have rf5 := putX_frozen1 HK41.out.r (ks.length * 6 + 5)
         simp only [Nat.add_zero] at r0 rf0
         have HK42 := Lib.hid (SmZ.putX1 HK41.out (XT.mk k2 n2 m2 f2 o2 A2 c2 ks2))
         go_simp
         refine hK.out _ _ trivial (fun hHeld => ?_)
         clear hK K
         (try simp only [Act.put, nA, nB, nC])
         refine wpAnyH_done (by kernel_rfl) ?_ _
         go_wp2_with fail
         refine bodyPost_end (results_none rfl _ _ _) rfl ?_
         exact ⟨rfl, ks ++ [XT.mk k2 n2 m2 f2 o2 A2 c2 ks2], _, by rw [xsd_snoc, HXD.out], HK42⟩
     · (try rw [if_pos (by kernel_rfl)])
       refine El.op_build1 eX X30 49 (.agg #[.int .u8 0, .int .i64 0, .string ⟨#[]⟩, .string ⟨#[]⟩, .string ⟨#[]⟩, .slice none 0 0]) 88 Try.underlying49 exp_info rfl (by decide) (.const (.agg #[.int .u8 0, .int .i64 0, .string ⟨#[]⟩, .string ⟨#[]⟩, .string ⟨#[]⟩, .slice none 0 0])) rfl (.agg #[.int .u8 0, .int .i64 0, .string ⟨#[]⟩, .string ⟨#[]⟩, .string ⟨#[]⟩, .slice none 0 0]) (xLeaf 0 0 [] [] []) rfl rfl ?_
       change K (Act.put _ (some 11) (.slice (some ⟨X30.heap.size, 0, none⟩) 1 1)) (X30.alloc (.cells #[.int .u8 0, .int .i64 0, .string ⟨#[]⟩, .string ⟨#[]⟩, .string ⟨#[]⟩, .slice none 0 0] 53))
       have hbY := below_lnew X30 (.cells #[.int .u8 0, .int .i64 0, .string ⟨#[]⟩, .string ⟨#[]⟩, .string ⟨#[]⟩, .slice none 0 0] 53)
       have hcY := heap_alloc_new X30 (.cells #[.int .u8 0, .int .i64 0, .string ⟨#[]⟩, .string ⟨#[]⟩, .string ⟨#[]⟩, .slice none 0 0] 53)
       obtain ⟨Y44, hY⟩ : ∃ Y, X30.alloc (.cells #[.int .u8 0, .int .i64 0, .string ⟨#[]⟩, .string ⟨#[]⟩, .string ⟨#[]⟩, .slice none 0 0] 53) = Y := ⟨_, rfl⟩
       rw [hY] at hbY hcY ⊢
       have HK43 := Lib.hid (HK29.out.below hbY)
       have HB45 := Lib.hid hcY
       have hz46 : gs < X30.heap.size := HK29.out.s.lt
       replace HXO := Lib.hid (HXO.out.below hbY)
       clear hY hbY hcY
       refine hK.out _ _ trivial (fun hHeld => ?_)
       clear hK K
       (try simp only [Act.put, nA, nB, nC])
       refine wpAnyH_ready (rs := [3]) (by kernel_rfl) (by simp) ?_
       refine AllReadyH.cons rfl (fun K hK => ?_) AllReadyH.nil
       have ce47 := HK43.out.s.cell (j := 8) (by simp [SF.cs])
       simp only [SF.cs, List.getElem_cons_zero, List.getElem_cons_succ] at ce47
       go_simp
       refine hK.out _ _ trivial (fun hHeld => ?_)
       clear hK K
       (try simp only [Act.put, nA, nB, nC])
       clear ce47
       refine heldTake (i := 6) (d := some 10) (v := ?_) rfl rfl (by kernel_rfl) (by kernel_rfl) (by kernel_rfl) (fun _ _ _ h => h) (by kernel_rfl) ?hyq_16 (by assumption) ?restq_16
       case hyq_16 => (intro W9 hSw; (try dsimp only at hSw); go_simp; try (with_reducible rfl))
       (try simp only [Act.put, nA, nB, nC])
       refine wpAnyH_ready (rs := [8]) (by kernel_rfl) (by simp) ?_
       refine AllReadyH.cons rfl (fun K hK => ?_) AllReadyH.nil
       (try rw [if_pos (by kernel_rfl)])
       refine El.op_app1x eX Y44 49 (.agg #[.int .u8 0, .int .i64 0, .string ⟨#[]⟩, .string ⟨#[]⟩, .string ⟨#[]⟩, .slice none 0 0]) 88 Try.underlying49 exp_info rfl (by decide) (by decide) (.tmp 7) (.tmp 11) rfl (gs + 1) (.slice Av ks.length cv) ks rfl HK43.out.r X30.heap.size 1 (xLeaf 0 0 [] [] []) rfl 53 HB45.out hkn (Nat.succ_le_of_lt HK43.out.s.lt) ?_
       intro v9 Z48 ho9 hg9 hk9
       obtain ⟨g9, c9, rfl⟩ := El.Own.at0 ho9 (by simp)
       have HK49 := Lib.hid (SmZ.add HK43.out HXO.out hkx hg9 ho9 hk9)
       clear ho9 hg9 hk9
       have hlen9 : (ks ++ [xLeaf 0 0 [] [] []]).length = ks.length + 1 := by simp
       change K (Act.put _ (some 12) (.slice (some ⟨g9, 0, none⟩) (ks ++ [xLeaf 0 0 [] [] []]).length c9)) Z48
       rw [hlen9]
       rw [hlen9] at HK49
       refine hK.out _ _ trivial (fun hHeld => ?_)
       clear hK K
       (try simp only [Act.put, nA, nB, nC])
       refine heldTake (i := 9) (d := some 13) (v := ?_) rfl rfl (by kernel_rfl) (by kernel_rfl) (by kernel_rfl) (fun _ _ _ h => h) (by kernel_rfl) ?hyq_17 (by assumption) ?restq_17
       case hyq_17 => (intro W9 hSw; (try dsimp only at hSw); go_simp; try (with_reducible rfl))
       (try simp only [Act.put, nA, nB, nC])
       refine heldTake (i := 11) (d := some 14) (v := ?_) rfl rfl (by kernel_rfl) (by kernel_rfl) (by kernel_rfl) (fun _ _ _ h => h) (by kernel_rfl) ?hyq_18 (by assumption) ?restq_18
       case hyq_18 => (intro W9 hSw; (try dsimp only at hSw); go_simp; try (with_reducible rfl))
       (try simp only [Act.put, nA, nB, nC])
       refine heldTake (i := 12) (d := some 15) (v := ?_) rfl rfl (by kernel_rfl) (by kernel_rfl) (by kernel_rfl) (fun _ _ _ h => h) (by kernel_rfl) ?hyq_19 (by assumption) ?restq_19
       case hyq_19 => (intro W9 hSw; (try dsimp only at hSw); go_simp; try (with_reducible rfl))
       (try simp only [Act.put, nA, nB, nC])
       refine wpAnyH_ready (rs := [10, 13]) (by kernel_rfl) (by simp) ?_
       refine AllReadyH.cons rfl (fun K hK => ?_) (AllReadyH.cons rfl (fun K hK => ?_) AllReadyH.nil)
       · have r0 := putX_at1 HK49.out.r (f := 0) rfl
         have rf0 := putX_frozen1 HK49.out.r (ks.length * 6 + 0)
         have r1 := putX_at1 HK49.out.r (f := 1) rfl
         have rf1 := putX_frozen1 HK49.out.r (ks.length * 6 + 1)
         have r2 := putX_at1 HK49.out.r (f := 2) rfl
         have rf2 := putX_frozen1 HK49.out.r (ks.length * 6 + 2)
         have r3 := putX_at1 HK49.out.r (f := 3) rfl
         have rf3 := putX_frozen1 HK49.out.r (ks.length * 6 + 3)
         have r4 := putX_at1 HK49.out.r (f := 4) rfl
         have rf4 := putX_frozen1 HK49.out.r (ks.length * 6 + 4)
         have r5 := putX_at1 HK49.out.r (f := 5) rfl
         have rf5 := putX_frozen1 HK49.out.r (ks.length * 6 + 5)
         simp only [Nat.add_zero] at r0 rf0
         have HK50 := Lib.hid (SmZ.putX1 HK49.out (XT.mk k2 n2 m2 f2 o2 A2 c2 ks2))
         go_simp
         change K _ (putX Z48 g9 (ks.length * 6) (XT.mk k2 n2 m2 f2 o2 A2 c2 ks2))
         obtain ⟨P9, hP9⟩ : ∃ P9, putX Z48 g9 (ks.length * 6) (XT.mk k2 n2 m2 f2 o2 A2 c2 ks2) = P9 := ⟨_, rfl⟩
         rw [hP9] at HK50 ⊢
         clear hP9
         refine hK.out _ _ trivial (fun hHeld => ?_)
         clear hK K
         (try simp only [Act.put, nA, nB, nC])
         clear r0 rf0 r1 rf1 r2 rf2 r3 rf3 r4 rf4 r5 rf5
         refine wpAnyH_ready (rs := [13]) (by kernel_rfl) (by simp) ?_
         refine AllReadyH.cons rfl (fun K hK => ?_) AllReadyH.nil
         have q8 := HK50.out.s.cell (j := 8) (by simp [SF.cs])
         have qf8 := HK50.out.s.frozen 8
         simp only [SF.cs, List.getElem_cons_zero, List.getElem_cons_succ] at q8
         have HK51 := Lib.hid (SmZ.setK HK50.out)
         go_simp
         refine hK.out _ _ trivial (fun hHeld => ?_)
         clear hK K
         (try simp only [Act.put, nA, nB, nC])
         refine wpAnyH_done (by kernel_rfl) ?_ _
         go_wp2_with fail
         refine bodyPost_end (results_none rfl _ _ _) rfl ?_
         exact ⟨rfl, ks ++ [XT.mk k2 n2 m2 f2 o2 A2 c2 ks2], _, by rw [xsd_snoc, HXD.out], HK51⟩
       · have q8 := HK49.out.s.cell (j := 8) (by simp [SF.cs])
         have qf8 := HK49.out.s.frozen 8
         simp only [SF.cs, List.getElem_cons_zero, List.getElem_cons_succ] at q8
         have HK52 := Lib.hid (SmZ.setK HK49.out)
         go_simp
         refine hK.out _ _ trivial (fun hHeld => ?_)
         clear hK K
         (try simp only [Act.put, nA, nB, nC])
         clear q8 qf8
         refine wpAnyH_ready (rs := [10]) (by kernel_rfl) (by simp) ?_
         refine AllReadyH.cons rfl (fun K hK => ?_) AllReadyH.nil
         have r0 := putX_at1 HK52.out.r (f := 0) rfl
         have rf0 := putX_frozen1 HK52.out.r (ks.length * 6 + 0)
         have r1 := putX_at1 HK52.out.r (f := 1) rfl
         have rf1 := putX_frozen1 HK52.out.r (ks.length * 6 + 1)
         have r2 := putX_at1 HK52.out.r (f := 2) rfl
         have rf2 := putX_frozen1 HK52.out.r (ks.length * 6 + 2)
         have r3 := putX_at1 HK52.out.r (f := 3) rfl
         have rf3 := putX_frozen1 HK52.out.r (ks.length * 6 + 3)
         have r4 := putX_at1 HK52.out.r (f := 4) rfl
         have rf4 := putX_frozen1 HK52.out.r (ks.length * 6 + 4)
         have r5 := putX_at1 HK52.out.r (f := 5) rfl
         have rf5 := putX_frozen1 HK52.out.r (ks.length * 6 + 5)
         simp only [Nat.add_zero] at r0 rf0
         have HK53 := Lib.hid (SmZ.putX1 HK52.out (XT.mk k2 n2 m2 f2 o2 A2 c2 ks2))
         go_simp
         refine hK.out _ _ trivial (fun hHeld => ?_)
         clear hK K
         (try simp only [Act.put, nA, nB, nC])
         refine wpAnyH_done (by kernel_rfl) ?_ _
         go_wp2_with fail
         refine bodyPost_end (results_none rfl _ _ _) rfl ?_
         exact ⟨rfl, ks ++ [XT.mk k2 n2 m2 f2 o2 A2 c2 ks2], _, by rw [xsd_snoc, HXD.out], HK53⟩
   · (try rw [if_pos (by kernel_rfl)])
     refine El.op_build1 eX Wd 49 (.agg #[.int .u8 0, .int .i64 0, .string ⟨#[]⟩, .string ⟨#[]⟩, .string ⟨#[]⟩, .slice none 0 0]) 88 Try.underlying49 exp_info rfl (by decide) (.const (.agg #[.int .u8 0, .int .i64 0, .string ⟨#[]⟩, .string ⟨#[]⟩, .string ⟨#[]⟩, .slice none 0 0])) rfl (.agg #[.int .u8 0, .int .i64 0, .string ⟨#[]⟩, .string ⟨#[]⟩, .string ⟨#[]⟩, .slice none 0 0]) (xLeaf 0 0 [] [] []) rfl rfl ?_
     change K (Act.put _ (some 11) (.slice (some ⟨Wd.heap.size, 0, none⟩) 1 1)) (Wd.alloc (.cells #[.int .u8 0, .int .i64 0, .string ⟨#[]⟩, .string ⟨#[]⟩, .string ⟨#[]⟩, .slice none 0 0] 53))
     have hbY := below_lnew Wd (.cells #[.int .u8 0, .int .i64 0, .string ⟨#[]⟩, .string ⟨#[]⟩, .string ⟨#[]⟩, .slice none 0 0] 53)
     have hcY := heap_alloc_new Wd (.cells #[.int .u8 0, .int .i64 0, .string ⟨#[]⟩, .string ⟨#[]⟩, .string ⟨#[]⟩, .slice none 0 0] 53)
     obtain ⟨Y55, hY⟩ : ∃ Y, Wd.alloc (.cells #[.int .u8 0, .int .i64 0, .string ⟨#[]⟩, .string ⟨#[]⟩, .string ⟨#[]⟩, .slice none 0 0] 53) = Y := ⟨_, rfl⟩
     rw [hY] at hbY hcY ⊢
     have HK54 := Lib.hid (HK0.out.below hbY)
     have HB56 := Lib.hid hcY
     have hz57 : gs < Wd.heap.size := HK0.out.s.lt
     clear hY hbY hcY
     refine hK.out _ _ trivial (fun hHeld => ?_)
     clear hK K
     (try simp only [Act.put, nA, nB, nC])
     refine wpAnyH_ready (rs := [3, 5]) (by kernel_rfl) (by simp) ?_
     refine AllReadyH.cons rfl (fun K hK => ?_) (AllReadyH.cons rfl (fun K hK => ?_) AllReadyH.nil)
     · have ce58 := HK54.out.s.cell (j := 8) (by simp [SF.cs])
       simp only [SF.cs, List.getElem_cons_zero, List.getElem_cons_succ] at ce58
       go_simp
       refine hK.out _ _ trivial (fun hHeld => ?_)
       clear hK K
       (try simp only [Act.put, nA, nB, nC])
       clear ce58
       refine heldTake (i := 6) (d := some 10) (v := ?_) rfl rfl (by kernel_rfl) (by kernel_rfl) (by kernel_rfl) (fun _ _ _ h => h) (by kernel_rfl) ?hyq_20 (by assumption) ?restq_20
       case hyq_20 => (intro W9 hSw; (try dsimp only at hSw); go_simp; try (with_reducible rfl))
       (try simp only [Act.put, nA, nB, nC])
       refine wpAnyH_ready (rs := [5]) (by kernel_rfl) (by simp) ?_
       refine AllReadyH.cons rfl (fun K hK => ?_) AllReadyH.nil
       go_simp
       go_at_call 87
       have HC61 := Lib.hid (expression_any HK54.out.p)
       rw [hrx] at HC61
       refine HC61.out.mono ?_
       rintro e9 X60 ⟨t9, rfl, htd, hto, hpX, hgX⟩
       have HXD := Lib.hid htd
       have hzs := HK54.out.s.lt
       have HXO := Lib.hid (hto.up (Q := fun g => gs < g ∧ (.slice Av ks.length cv : Value).ownBlock ≠ some g) fun g q => ⟨by omega, fun e => by have := (HK54.out.r.lt g e).2.1; omega⟩)
       have HK59 := Lib.hid (HK54.out.step hpX hgX (by omega))
       have HB62 := Lib.hid ((hgX.block _ (Array.getElem?_eq_some_iff.1 HB56.out).1 (fun e => by injection e with e; have := HK54.out.n; have := hz57; omega)).trans HB56.out)
       clear htd hto hpX hgX hzs HC61
       obtain ⟨k2, n2, m2, f2, o2, A2, c2, ks2⟩ := t9
       unfold xV XT.cs
       go_wp2_with fail
       refine hK.out _ _ trivial (fun hHeld => ?_)
       clear hK K
       (try simp only [Act.put, nA, nB, nC])
       refine wpAnyH_ready (rs := [8]) (by kernel_rfl) (by simp) ?_
       refine AllReadyH.cons rfl (fun K hK => ?_) AllReadyH.nil
       (try rw [if_pos (by kernel_rfl)])
       refine El.op_app1x eX X60 49 (.agg #[.int .u8 0, .int .i64 0, .string ⟨#[]⟩, .string ⟨#[]⟩, .string ⟨#[]⟩, .slice none 0 0]) 88 Try.underlying49 exp_info rfl (by decide) (by decide) (.tmp 7) (.tmp 11) rfl (gs + 1) (.slice Av ks.length cv) ks rfl HK59.out.r Wd.heap.size 1 (xLeaf 0 0 [] [] []) rfl 53 HB62.out hkn (Nat.succ_le_of_lt HK59.out.s.lt) ?_
       intro v9 Z63 ho9 hg9 hk9
       obtain ⟨g9, c9, rfl⟩ := El.Own.at0 ho9 (by simp)
       have HK64 := Lib.hid (SmZ.add HK59.out HXO.out hkx hg9 ho9 hk9)
       clear ho9 hg9 hk9
       have hlen9 : (ks ++ [xLeaf 0 0 [] [] []]).length = ks.length + 1 := by simp
       change K (Act.put _ (some 12) (.slice (some ⟨g9, 0, none⟩) (ks ++ [xLeaf 0 0 [] [] []]).length c9)) Z63
       rw [hlen9]
       rw [hlen9] at HK64
       refine hK.out _ _ trivial (fun hHeld => ?_)
       clear hK K
       (try simp only [Act.put, nA, nB, nC])
       refine heldTake (i := 9) (d := some 13) (v := ?_) rfl rfl (by kernel_rfl) (by kernel_rfl) (by kernel_rfl) (fun _ _ _ h => h) (by kernel_rfl) ?hyq_21 (by assumption) ?restq_21
       case hyq_21 => (intro W9 hSw; (try dsimp only at hSw); go_simp; try (with_reducible rfl))
       (try simp only [Act.put, nA, nB, nC])
       refine heldTake (i := 11) (d := some 14) (v := ?_) rfl rfl (by kernel_rfl) (by kernel_rfl) (by kernel_rfl) (fun _ _ _ h => h) (by kernel_rfl) ?hyq_22 (by assumption) ?restq_22
       case hyq_22 => (intro W9 hSw; (try dsimp only at hSw); go_simp; try (with_reducible rfl))
       (try simp only [Act.put, nA, nB, nC])
       refine heldTake (i := 12) (d := some 15) (v := ?_) rfl rfl (by kernel_rfl) (by kernel_rfl) (by kernel_rfl) (fun _ _ _ h => h) (by kernel_rfl) ?hyq_23 (by assumption) ?restq_23
       case hyq_23 => (intro W9 hSw; (try dsimp only at hSw); go_simp; try (with_reducible rfl))
       (try simp only [Act.put, nA, nB, nC])
       refine wpAnyH_ready (rs := [10, 13]) (by kernel_rfl) (by simp) ?_
       refine AllReadyH.cons rfl (fun K hK => ?_) (AllReadyH.cons rfl (fun K hK => ?_) AllReadyH.nil)
       · have r0 := putX_at1 HK64.out.r (f := 0) rfl
         have rf0 := putX_frozen1 HK64.out.r (ks.length * 6 + 0)
         have r1 := putX_at1 HK64.out.r (f := 1) rfl
         have rf1 := putX_frozen1 HK64.out.r (ks.length * 6 + 1)
         have r2 := putX_at1 HK64.out.r (f := 2) rfl
         have rf2 := putX_frozen1 HK64.out.r (ks.length * 6 + 2)
         have r3 := putX_at1 HK64.out.r (f := 3) rfl
         have rf3 := putX_frozen1 HK64.out.r (ks.length * 6 + 3)
         have r4 := putX_at1 HK64.out.r (f := 4) rfl
         have rf4 := putX_frozen1 HK64.out.r (ks.length * 6 + 4)
         have r5 := putX_at1 HK64.out.r (f := 5) rfl
         have rf5 := putX_frozen1 HK64.out.r (ks.length * 6 + 5)
         simp only [Nat.add_zero] at r0 rf0
         have HK65 := Lib.hid (SmZ.putX1 HK64.out (XT.mk k2 n2 m2 f2 o2 A2 c2 ks2))
         go_simp
         change K _ (putX Z63 g9 (ks.length * 6) (XT.mk k2 n2 m2 f2 o2 A2 c2 ks2))
         obtain ⟨P9, hP9⟩ : ∃ P9, putX Z63 g9 (ks.length * 6) (XT.mk k2 n2 m2 f2 o2 A2 c2 ks2) = P9 := ⟨_, rfl⟩
         rw [hP9] at HK65 ⊢
         clear hP9
         refine hK.out _ _ trivial (fun hHeld => ?_)
         clear hK K
         (try simp only [Act.put, nA, nB, nC])
         clear r0 rf0 r1 rf1 r2 rf2 r3 rf3 r4 rf4 r5 rf5
         refine wpAnyH_ready (rs := [13]) (by kernel_rfl) (by simp) ?_
         refine AllReadyH.cons rfl (fun K hK => ?_) AllReadyH.nil
         have q8 := HK65.out.s.cell (j := 8) (by simp [SF.cs])
         have qf8 := HK65.out.s.frozen 8
         simp only [SF.cs, List.getElem_cons_zero, List.getElem_cons_succ] at q8
         have HK66 := Lib.hid (SmZ.setK HK65.out)
         go_simp
         refine hK.out _ _ trivial (fun hHeld => ?_)
         clear hK K
         (try simp only [Act.put, nA, nB, nC])
         refine wpAnyH_done (by kernel_rfl) ?_ _
         go_wp2_with fail
         refine bodyPost_end (results_none rfl _ _ _) rfl ?_
         exact ⟨rfl, ks ++ [XT.mk k2 n2 m2 f2 o2 A2 c2 ks2], _, by rw [xsd_snoc, HXD.out], HK66⟩
       · have q8 := HK64.out.s.cell (j := 8) (by simp [SF.cs])
         have qf8 := HK64.out.s.frozen 8
         simp only [SF.cs, List.getElem_cons_zero, List.getElem_cons_succ] at q8
         have HK67 := Lib.hid (SmZ.setK HK64.out)
         go_simp
         refine hK.out _ _ trivial (fun hHeld => ?_)
         clear hK K
         (try simp only [Act.put, nA, nB, nC])
         clear q8 qf8
         refine wpAnyH_ready (rs := [10]) (by kernel_rfl) (by simp) ?_
         refine AllReadyH.cons rfl (fun K hK => ?_) AllReadyH.nil
         have r0 := putX_at1 HK67.out.r (f := 0) rfl
         have rf0 := putX_frozen1 HK67.out.r (ks.length * 6 + 0)
         have r1 := putX_at1 HK67.out.r (f := 1) rfl
         have rf1 := putX_frozen1 HK67.out.r (ks.length * 6 + 1)
         have r2 := putX_at1 HK67.out.r (f := 2) rfl
         have rf2 := putX_frozen1 HK67.out.r (ks.length * 6 + 2)
         have r3 := putX_at1 HK67.out.r (f := 3) rfl
         have rf3 := putX_frozen1 HK67.out.r (ks.length * 6 + 3)
         have r4 := putX_at1 HK67.out.r (f := 4) rfl
         have rf4 := putX_frozen1 HK67.out.r (ks.length * 6 + 4)
         have r5 := putX_at1 HK67.out.r (f := 5) rfl
         have rf5 := putX_frozen1 HK67.out.r (ks.length * 6 + 5)
         simp only [Nat.add_zero] at r0 rf0
         have HK68 := Lib.hid (SmZ.putX1 HK67.out (XT.mk k2 n2 m2 f2 o2 A2 c2 ks2))
         go_simp
         refine hK.out _ _ trivial (fun hHeld => ?_)
         clear hK K
         (try simp only [Act.put, nA, nB, nC])
         refine wpAnyH_done (by kernel_rfl) ?_ _
         go_wp2_with fail
         refine bodyPost_end (results_none rfl _ _ _) rfl ?_
         exact ⟨rfl, ks ++ [XT.mk k2 n2 m2 f2 o2 A2 c2 ks2], _, by rw [xsd_snoc, HXD.out], HK68⟩
     · go_simp
       go_at_call 87
       have HC71 := Lib.hid (expression_any HK54.out.p)
       rw [hrx] at HC71
       refine HC71.out.mono ?_
       rintro e9 X70 ⟨t9, rfl, htd, hto, hpX, hgX⟩
       have HXD := Lib.hid htd
       have hzs := HK54.out.s.lt
       have HXO := Lib.hid (hto.up (Q := fun g => gs < g ∧ (.slice Av ks.length cv : Value).ownBlock ≠ some g) fun g q => ⟨by omega, fun e => by have := (HK54.out.r.lt g e).2.1; omega⟩)
       have HK69 := Lib.hid (HK54.out.step hpX hgX (by omega))
       have HB72 := Lib.hid ((hgX.block _ (Array.getElem?_eq_some_iff.1 HB56.out).1 (fun e => by injection e with e; have := HK54.out.n; have := hz57; omega)).trans HB56.out)
       clear htd hto hpX hgX hzs HC71
       obtain ⟨k2, n2, m2, f2, o2, A2, c2, ks2⟩ := t9
       unfold xV XT.cs
       go_wp2_with fail
       refine hK.out _ _ trivial (fun hHeld => ?_)
       clear hK K
       (try simp only [Act.put, nA, nB, nC])
       refine wpAnyH_ready (rs := [3]) (by kernel_rfl) (by simp) ?_
       refine AllReadyH.cons rfl (fun K hK => ?_) AllReadyH.nil
       have ce73 := HK69.out.s.cell (j := 8) (by simp [SF.cs])
       simp only [SF.cs, List.getElem_cons_zero, List.getElem_cons_succ] at ce73
       go_simp
       refine hK.out _ _ trivial (fun hHeld => ?_)
       clear hK K
       (try simp only [Act.put, nA, nB, nC])
       clear ce73
       refine heldTake (i := 6) (d := some 10) (v := ?_) rfl rfl (by kernel_rfl) (by kernel_rfl) (by kernel_rfl) (fun _ _ _ h => h) (by kernel_rfl) ?hyq_24 (by assumption) ?restq_24
       case hyq_24 => (intro W9 hSw; (try dsimp only at hSw); go_simp; try (with_reducible rfl))
       (try simp only [Act.put, nA, nB, nC])
       refine wpAnyH_ready (rs := [8]) (by kernel_rfl) (by simp) ?_
       refine AllReadyH.cons rfl (fun K hK => ?_) AllReadyH.nil
       (try rw [if_pos (by kernel_rfl)])
       refine El.op_app1x eX X70 49 (.agg #[.int .u8 0, .int .i64 0, .string ⟨#[]⟩, .string ⟨#[]⟩, .string ⟨#[]⟩, .slice none 0 0]) 88 Try.underlying49 exp_info rfl (by decide) (by decide) (.tmp 7) (.tmp 11) rfl (gs + 1) (.slice Av ks.length cv) ks rfl HK69.out.r Wd.heap.size 1 (xLeaf 0 0 [] [] []) rfl 53 HB72.out hkn (Nat.succ_le_of_lt HK69.out.s.lt) ?_
       intro v9 Z74 ho9 hg9 hk9
       obtain ⟨g9, c9, rfl⟩ := El.Own.at0 ho9 (by simp)
       have HK75 := Lib.hid (SmZ.add HK69.out HXO.out hkx hg9 ho9 hk9)
       clear ho9 hg9 hk9
       have hlen9 : (ks ++ [xLeaf 0 0 [] [] []]).length = ks.length + 1 := by simp
       change K (Act.put _ (some 12) (.slice (some ⟨g9, 0, none⟩) (ks ++ [xLeaf 0 0 [] [] []]).length c9)) Z74
       rw [hlen9]
       rw [hlen9] at HK75
       refine hK.out _ _ trivial (fun hHeld => ?_)
       clear hK K
       (try simp only [Act.put, nA, nB, nC])
       refine heldTake (i := 9) (d := some 13) (v := ?_) rfl rfl (by kernel_rfl) (by kernel_rfl) (by kernel_rfl) (fun _ _ _ h => h) (by kernel_rfl) ?hyq_25 (by assumption) ?restq_25
       case hyq_25 => (intro W9 hSw; (try dsimp only at hSw); go_simp; try (with_reducible rfl))
       (try simp only [Act.put, nA, nB, nC])
       refine heldTake (i := 11) (d := some 14) (v := ?_) rfl rfl (by kernel_rfl) (by kernel_rfl) (by kernel_rfl) (fun _ _ _ h => h) (by kernel_rfl) ?hyq_26 (by assumption) ?restq_26
       case hyq_26 => (intro W9 hSw; (try dsimp only at hSw); go_simp; try (with_reducible rfl))
       (try simp only [Act.put, nA, nB, nC])
       refine heldTake (i := 12) (d := some 15) (v := ?_) rfl rfl (by kernel_rfl) (by kernel_rfl) (by kernel_rfl) (fun _ _ _ h => h) (by kernel_rfl) ?hyq_27 (by assumption) ?restq_27
       case hyq_27 => (intro W9 hSw; (try dsimp only at hSw); go_simp; try (with_reducible rfl))
       (try simp only [Act.put, nA, nB, nC])
       refine wpAnyH_ready (rs := [10, 13]) (by kernel_rfl) (by simp) ?_
       refine AllReadyH.cons rfl (fun K hK => ?_) (AllReadyH.cons rfl (fun K hK => ?_) AllReadyH.nil)
       · have r0 := putX_at1 HK75.out.r (f := 0) rfl
         have rf0 := putX_frozen1 HK75.out.r (ks.length * 6 + 0)
         have r1 := putX_at1 HK75.out.r (f := 1) rfl
         have rf1 := putX_frozen1 HK75.out.r (ks.length * 6 + 1)
         have r2 := putX_at1 HK75.out.r (f := 2) rfl
         have rf2 := putX_frozen1 HK75.out.r (ks.length * 6 + 2)
         have r3 := putX_at1 HK75.out.r (f := 3) rfl
         have rf3 := putX_frozen1 HK75.out.r (ks.length * 6 + 3)
         have r4 := putX_at1 HK75.out.r (f := 4) rfl
         have rf4 := putX_frozen1 HK75.out.r (ks.length * 6 + 4)
         have r5 := putX_at1 HK75.out.r (f := 5) rfl
         have rf5 := putX_frozen1 HK75.out.r (ks.length * 6 + 5)
         simp only [Nat.add_zero] at r0 rf0
         have HK76 := Lib.hid (SmZ.putX1 HK75.out (XT.mk k2 n2 m2 f2 o2 A2 c2 ks2))
         go_simp
         change K _ (putX Z74 g9 (ks.length * 6) (XT.mk k2 n2 m2 f2 o2 A2 c2 ks2))
         obtain ⟨P9, hP9⟩ : ∃ P9, putX Z74 g9 (ks.length * 6) (XT.mk k2 n2 m2 f2 o2 A2 c2 ks2) = P9 := ⟨_, rfl⟩
         rw [hP9] at HK76 ⊢
         clear hP9
         refine hK.out _ _ trivial (fun hHeld => ?_)
         clear hK K
         (try simp only [Act.put, nA, nB, nC])
         clear r0 rf0 r1 rf1 r2 rf2 r3 rf3 r4 rf4 r5 rf5
         refine wpAnyH_ready (rs := [13]) (by kernel_rfl) (by simp) ?_
         refine AllReadyH.cons rfl (fun K hK => ?_) AllReadyH.nil
         have q8 := HK76.out.s.cell (j := 8) (by simp [SF.cs])
         have qf8 := HK76.out.s.frozen 8
         simp only [SF.cs, List.getElem_cons_zero, List.getElem_cons_succ] at q8
         have HK77 := Lib.hid (SmZ.setK HK76.out)
         go_simp
         refine hK.out _ _ trivial (fun hHeld => ?_)
         clear hK K
         (try simp only [Act.put, nA, nB, nC])
         refine wpAnyH_done (by kernel_rfl) ?_ _
         go_wp2_with fail
         refine bodyPost_end (results_none rfl _ _ _) rfl ?_
         exact ⟨rfl, ks ++ [XT.mk k2 n2 m2 f2 o2 A2 c2 ks2], _, by rw [xsd_snoc, HXD.out], HK77⟩
       · have q8 := HK75.out.s.cell (j := 8) (by simp [SF.cs])
         have qf8 := HK75.out.s.frozen 8
         simp only [SF.cs, List.getElem_cons_zero, List.getElem_cons_succ] at q8
         have HK78 := Lib.hid (SmZ.setK HK75.out)
         go_simp
         refine hK.out _ _ trivial (fun hHeld => ?_)
         clear hK K
         (try simp only [Act.put, nA, nB, nC])
         clear q8 qf8
         refine wpAnyH_ready (rs := [10]) (by kernel_rfl) (by simp) ?_
         refine AllReadyH.cons rfl (fun K hK => ?_) AllReadyH.nil
         have r0 := putX_at1 HK78.out.r (f := 0) rfl
         have rf0 := putX_frozen1 HK78.out.r (ks.length * 6 + 0)
         have r1 := putX_at1 HK78.out.r (f := 1) rfl
         have rf1 := putX_frozen1 HK78.out.r (ks.length * 6 + 1)
         have r2 := putX_at1 HK78.out.r (f := 2) rfl
         have rf2 := putX_frozen1 HK78.out.r (ks.length * 6 + 2)
         have r3 := putX_at1 HK78.out.r (f := 3) rfl
         have rf3 := putX_frozen1 HK78.out.r (ks.length * 6 + 3)
         have r4 := putX_at1 HK78.out.r (f := 4) rfl
         have rf4 := putX_frozen1 HK78.out.r (ks.length * 6 + 4)
         have r5 := putX_at1 HK78.out.r (f := 5) rfl
         have rf5 := putX_frozen1 HK78.out.r (ks.length * 6 + 5)
         simp only [Nat.add_zero] at r0 rf0
         have HK79 := Lib.hid (SmZ.putX1 HK78.out (XT.mk k2 n2 m2 f2 o2 A2 c2 ks2))
         go_simp
         refine hK.out _ _ trivial (fun hHeld => ?_)
         clear hK K
         (try simp only [Act.put, nA, nB, nC])
         refine wpAnyH_done (by kernel_rfl) ?_ _
         go_wp2_with fail
         refine bodyPost_end (results_none rfl _ _ _) rfl ?_
         exact ⟨rfl, ks ++ [XT.mk k2 n2 m2 f2 o2 A2 c2 ks2], _, by rw [xsd_snoc, HXD.out], HK79⟩
 · rw [show valP s (xsd ks) u = .bad v1 by unfold valP; rw [hrx]; rfl]
   go_enter Try.func84, Try.ntmps84
   go_wp2_with fail
   refine wp_region_held_drew (S := fun W9 => True) (by kernel_rfl) trivial (fun hHeld => ?_)
   have HK0 := Lib.hid H0.out.drew
   generalize w1.drew = Wd at *
   clear H0
   refine heldTake (i := 0) (d := some 4) (v := ?_) rfl rfl (by kernel_rfl) (by kernel_rfl) (by kernel_rfl) (fun _ _ _ h => h) (by kernel_rfl) ?hyq_28 (by assumption) ?restq_28
   case hyq_28 => (intro W9 hSw; (try dsimp only at hSw); go_simp; try (with_reducible rfl))
   (try simp only [Act.put, nA, nB, nC])
   refine heldTake (i := 1) (d := some 5) (v := ?_) rfl rfl (by kernel_rfl) (by kernel_rfl) (by kernel_rfl) (fun _ _ _ h => h) (by kernel_rfl) ?hyq_29 (by assumption) ?restq_29
   case hyq_29 => (intro W9 hSw; (try dsimp only at hSw); go_simp; try (with_reducible rfl))
   (try simp only [Act.put, nA, nB, nC])
   refine heldTake (i := 2) (d := some 6) (v := ?_) rfl rfl (by kernel_rfl) (by kernel_rfl) (by kernel_rfl) (fun _ _ _ h => h) (by kernel_rfl) ?hyq_30 (by assumption) ?restq_30
   case hyq_30 => (intro W9 hSw; (try dsimp only at hSw); go_simp; try (with_reducible rfl))
   (try simp only [Act.put, nA, nB, nC])
   refine heldTake (i := 4) (d := some 8) (v := ?_) rfl rfl (by kernel_rfl) (by kernel_rfl) (by kernel_rfl) (fun _ _ _ h => h) (by kernel_rfl) ?hyq_31 (by assumption) ?restq_31
   case hyq_31 => (intro W9 hSw; (try dsimp only at hSw); go_simp; try (with_reducible rfl))
   (try simp only [Act.put, nA, nB, nC])
   refine wpAnyH_ready (rs := [3, 5, 7]) (by kernel_rfl) (by simp) ?_
   refine AllReadyH.cons rfl (fun K hK => ?_) (AllReadyH.cons rfl (fun K hK => ?_) (AllReadyH.cons rfl (fun K hK => ?_) AllReadyH.nil))
   · have ce80 := HK0.out.s.cell (j := 8) (by simp [SF.cs])
     simp only [SF.cs, List.getElem_cons_zero, List.getElem_cons_succ] at ce80
     go_simp
     refine hK.out _ _ trivial (fun hHeld => ?_)
     clear hK K
     (try simp only [Act.put, nA, nB, nC])
     clear ce80
     refine heldTake (i := 6) (d := some 10) (v := ?_) rfl rfl (by kernel_rfl) (by kernel_rfl) (by kernel_rfl) (fun _ _ _ h => h) (by kernel_rfl) ?hyq_32 (by assumption) ?restq_32
     case hyq_32 => (intro W9 hSw; (try dsimp only at hSw); go_simp; try (with_reducible rfl))
     (try simp only [Act.put, nA, nB, nC])
     refine wpAnyH_ready (rs := [5, 7]) (by kernel_rfl) (by simp) ?_
     refine AllReadyH.cons rfl (fun K hK => ?_) (AllReadyH.cons rfl (fun K hK => ?_) AllReadyH.nil)
     · go_simp
       go_at_call 87
       have HC83 := Lib.hid (expression_any HK0.out.p)
       rw [hrx] at HC83
       refine HC83.out.mono ?_
       rintro e9 X82 ⟨rfl, hpX, hgX⟩
       have hg9 := grown_trans HK0.out.g hgX
       go_wp2_with fail
       exact ⟨rfl, rfl, hpX, hg9⟩
     · (try rw [if_pos (by kernel_rfl)])
       refine El.op_build1 eX Wd 49 (.agg #[.int .u8 0, .int .i64 0, .string ⟨#[]⟩, .string ⟨#[]⟩, .string ⟨#[]⟩, .slice none 0 0]) 88 Try.underlying49 exp_info rfl (by decide) (.const (.agg #[.int .u8 0, .int .i64 0, .string ⟨#[]⟩, .string ⟨#[]⟩, .string ⟨#[]⟩, .slice none 0 0])) rfl (.agg #[.int .u8 0, .int .i64 0, .string ⟨#[]⟩, .string ⟨#[]⟩, .string ⟨#[]⟩, .slice none 0 0]) (xLeaf 0 0 [] [] []) rfl rfl ?_
       change K (Act.put _ (some 11) (.slice (some ⟨Wd.heap.size, 0, none⟩) 1 1)) (Wd.alloc (.cells #[.int .u8 0, .int .i64 0, .string ⟨#[]⟩, .string ⟨#[]⟩, .string ⟨#[]⟩, .slice none 0 0] 53))
       have hbY := below_lnew Wd (.cells #[.int .u8 0, .int .i64 0, .string ⟨#[]⟩, .string ⟨#[]⟩, .string ⟨#[]⟩, .slice none 0 0] 53)
       have hcY := heap_alloc_new Wd (.cells #[.int .u8 0, .int .i64 0, .string ⟨#[]⟩, .string ⟨#[]⟩, .string ⟨#[]⟩, .slice none 0 0] 53)
       obtain ⟨Y85, hY⟩ : ∃ Y, Wd.alloc (.cells #[.int .u8 0, .int .i64 0, .string ⟨#[]⟩, .string ⟨#[]⟩, .string ⟨#[]⟩, .slice none 0 0] 53) = Y := ⟨_, rfl⟩
       rw [hY] at hbY hcY ⊢
       have HK84 := Lib.hid (HK0.out.below hbY)
       have HB86 := Lib.hid hcY
       have hz87 : gs < Wd.heap.size := HK0.out.s.lt
       clear hY hbY hcY
       refine hK.out _ _ trivial (fun hHeld => ?_)
       clear hK K
       (try simp only [Act.put, nA, nB, nC])
       refine wpAnyH_ready (rs := [5]) (by kernel_rfl) (by simp) ?_
       refine AllReadyH.cons rfl (fun K hK => ?_) AllReadyH.nil
       go_simp
       go_at_call 87
       have HC90 := Lib.hid (expression_any HK84.out.p)
       rw [hrx] at HC90
       refine HC90.out.mono ?_
       rintro e9 X89 ⟨rfl, hpX, hgX⟩
       have hg9 := grown_trans HK84.out.g hgX
       go_wp2_with fail
       exact ⟨rfl, rfl, hpX, hg9⟩
   · go_simp
     go_at_call 87
     have HC93 := Lib.hid (expression_any HK0.out.p)
     rw [hrx] at HC93
     refine HC93.out.mono ?_
     rintro e9 X92 ⟨rfl, hpX, hgX⟩
     have hg9 := grown_trans HK0.out.g hgX
     go_wp2_with fail
     exact ⟨rfl, rfl, hpX, hg9⟩
   · (try rw [if_pos (by kernel_rfl)])
     refine El.op_build1 eX Wd 49 (.agg #[.int .u8 0, .int .i64 0, .string ⟨#[]⟩, .string ⟨#[]⟩, .string ⟨#[]⟩, .slice none 0 0]) 88 Try.underlying49 exp_info rfl (by decide) (.const (.agg #[.int .u8 0, .int .i64 0, .string ⟨#[]⟩, .string ⟨#[]⟩, .string ⟨#[]⟩, .slice none 0 0])) rfl (.agg #[.int .u8 0, .int .i64 0, .string ⟨#[]⟩, .string ⟨#[]⟩, .string ⟨#[]⟩, .slice none 0 0]) (xLeaf 0 0 [] [] []) rfl rfl ?_
     change K (Act.put _ (some 11) (.slice (some ⟨Wd.heap.size, 0, none⟩) 1 1)) (Wd.alloc (.cells #[.int .u8 0, .int .i64 0, .string ⟨#[]⟩, .string ⟨#[]⟩, .string ⟨#[]⟩, .slice none 0 0] 53))
     have hbY := below_lnew Wd (.cells #[.int .u8 0, .int .i64 0, .string ⟨#[]⟩, .string ⟨#[]⟩, .string ⟨#[]⟩, .slice none 0 0] 53)
     have hcY := heap_alloc_new Wd (.cells #[.int .u8 0, .int .i64 0, .string ⟨#[]⟩, .string ⟨#[]⟩, .string ⟨#[]⟩, .slice none 0 0] 53)
     obtain ⟨Y95, hY⟩ : ∃ Y, Wd.alloc (.cells #[.int .u8 0, .int .i64 0, .string ⟨#[]⟩, .string ⟨#[]⟩, .string ⟨#[]⟩, .slice none 0 0] 53) = Y := ⟨_, rfl⟩
     rw [hY] at hbY hcY ⊢
     have HK94 := Lib.hid (HK0.out.below hbY)
     have HB96 := Lib.hid hcY
     have hz97 : gs < Wd.heap.size := HK0.out.s.lt
     clear hY hbY hcY
     refine hK.out _ _ trivial (fun hHeld => ?_)
     clear hK K
     (try simp only [Act.put, nA, nB, nC])
     refine wpAnyH_ready (rs := [3, 5]) (by kernel_rfl) (by simp) ?_
     refine AllReadyH.cons rfl (fun K hK => ?_) (AllReadyH.cons rfl (fun K hK => ?_) AllReadyH.nil)
     · have ce98 := HK94.out.s.cell (j := 8) (by simp [SF.cs])
       simp only [SF.cs, List.getElem_cons_zero, List.getElem_cons_succ] at ce98
       go_simp
       refine hK.out _ _ trivial (fun hHeld => ?_)
       clear hK K
       (try simp only [Act.put, nA, nB, nC])
       clear ce98
       refine heldTake (i := 6) (d := some 10) (v := ?_) rfl rfl (by kernel_rfl) (by kernel_rfl) (by kernel_rfl) (fun _ _ _ h => h) (by kernel_rfl) ?hyq_33 (by assumption) ?restq_33
       case hyq_33 => (intro W9 hSw; (try dsimp only at hSw); go_simp; try (with_reducible rfl))
       (try simp only [Act.put, nA, nB, nC])
       refine wpAnyH_ready (rs := [5]) (by kernel_rfl) (by simp) ?_
       refine AllReadyH.cons rfl (fun K hK => ?_) AllReadyH.nil
       go_simp
       go_at_call 87
       have HC101 := Lib.hid (expression_any HK94.out.p)
       rw [hrx] at HC101
       refine HC101.out.mono ?_
       rintro e9 X100 ⟨rfl, hpX, hgX⟩
       have hg9 := grown_trans HK94.out.g hgX
       go_wp2_with fail
       exact ⟨rfl, rfl, hpX, hg9⟩
     · go_simp
       go_at_call 87
       have HC104 := Lib.hid (expression_any HK94.out.p)
       rw [hrx] at HC104
       refine HC104.out.mono ?_
       rintro e9 X103 ⟨rfl, hpX, hgX⟩
       have hg9 := grown_trans HK94.out.g hgX
       go_wp2_with fail
       exact ⟨rfl, rfl, hpX, hg9⟩
 · exact absurd hrx (exP_ne u)
end
end Go.Proofs.Ytjllbacefbjjaaa
