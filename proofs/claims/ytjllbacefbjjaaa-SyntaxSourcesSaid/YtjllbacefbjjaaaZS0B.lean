/-
  Merged for a claim: S0B.
-/
import Derived.Test.YtjllbacefbjjaaaZJ14
namespace Go.Proofs.Ytjllbacefbjjaaa
open Go Go.RowKit

def nmdS (s : SF) (es : List Ex) (u : List To) : R PS :=
 if isC u = true then callS s es u else takeK 1 u fun t v =>
  if isS [91] v = true then (valP ⟨3, s.ln, t.tx, s.fl, s.cl, s.ty⟩ es v.tail).bind fun x w => takeS [93] w fun z => takeS [61] z fun y => valP x.1 x.2 y
  else if isS [46] v = true then takeK 1 v.tail fun f w => takeS [61] w fun z => valP ⟨4, s.ln, t.tx, f.tx, s.cl, s.ty⟩ es z
  else takeS [61] v fun w => setS ⟨s.kd, s.ln, t.tx, s.fl, s.cl, s.ty⟩ es w
section
variable {w wf w1 : World} {gp gs : Nat} {A : Option Addr} {c : Nat} {l u : List To} {s : SF} {ks : List XT} {vk : Value}
set_option maxRecDepth 100000 in
set_option maxHeartbeats 8000000 in
theorem named_any (h : SmW w wf gp gs A c l s ks vk w1 u) : Calls Try.prog 86 #[.pointer (some ⟨gp, 0, none⟩), .pointer (some ⟨gs, 0, none⟩)] w1 (SmR w wf gp gs A c l (nmdS s (xsd ks) u)) := by
 have H0 := Lib.hid (show SmZ w wf gp gs A c l s vk ks ks vk w1 u from h)
 obtain ⟨r, hr⟩ : ∃ r, nmdS s (xsd ks) u = r := ⟨_, rfl⟩
 rw [hr]
 have HR := Lib.hid (show r = if isC u = true then callS s (xsd ks) u else takeK 1 u fun t v =>
  if isS [91] v = true then (valP ⟨3, s.ln, t.tx, s.fl, s.cl, s.ty⟩ (xsd ks) v.tail).bind fun x w => takeS [93] w fun z => takeS [61] z fun y => valP x.1 x.2 y
  else if isS [46] v = true then takeK 1 v.tail fun f w => takeS [61] w fun z => valP ⟨4, s.ln, t.tx, f.tx, s.cl, s.ty⟩ (xsd ks) z
  else takeS [61] v fun w => setS ⟨s.kd, s.ln, t.tx, s.fl, s.cl, s.ty⟩ (xsd ks) w from hr.symm)
 clear h hr
 go_enter Try.func86, Try.ntmps86
 go_wp2_with fail
 refine wp_region_held_drew (S := fun W9 => True) (by kernel_rfl) (trivial) (fun hHeld => ?_)
 refine heldTake (i := 0) (d := some 4) (v := ?_) rfl rfl (by kernel_rfl) (by kernel_rfl) (by kernel_rfl) (fun _ _ _ h => h) (by kernel_rfl) ?hyq_1 (by assumption) ?restq_1
 case hyq_1 => (intro W9 hSw; (try dsimp only at hSw); go_simp; try (with_reducible rfl))
 (try simp only [Act.put, nA, nB, nC])
 refine heldTake (i := 1) (d := some 5) (v := ?_) rfl rfl (by kernel_rfl) (by kernel_rfl) (by kernel_rfl) (fun _ _ _ h => h) (by kernel_rfl) ?hyq_2 (by assumption) ?restq_2
 case hyq_2 => (intro W9 hSw; (try dsimp only at hSw); go_simp; try (with_reducible rfl))
 (try simp only [Act.put, nA, nB, nC])
 refine heldTake (i := 2) (d := some 6) (v := ?_) rfl rfl (by kernel_rfl) (by kernel_rfl) (by kernel_rfl) (fun _ _ _ h => h) (by kernel_rfl) ?hyq_3 (by assumption) ?restq_3
 case hyq_3 => (intro W9 hSw; (try dsimp only at hSw); go_simp; try (with_reducible rfl))
 (try simp only [Act.put, nA, nB, nC])
 refine wpAnyH_ready (rs := [3]) (by kernel_rfl) (by simp) ?_
 refine AllReadyH.cons rfl (fun K hK => ?_) AllReadyH.nil
 go_simp
 go_at_call 58
 refine (sign_any [40] _).mono ?_
 rintro e9 X ⟨rfl, hbX⟩
 have H1x := Lib.hid (H0.out.drew.below hbX)
 clear hbX
 go_wp2_with fail
 refine hK.out _ _ trivial (fun hHeld => ?_)
 clear hK K
 (try simp only [Act.put, nA, nB, nC])
 refine wpAnyH_ready (rs := [4]) (by kernel_rfl) (by simp) ?_
 refine AllReadyH.cons rfl (fun K hK => ?_) AllReadyH.nil
 go_simp
 go_at_call 88
 refine (hasC_any H1x.out.p).mono ?_
 rintro e9 Y ⟨rfl, hbY⟩
 have H1 := Lib.hid (H1x.out.below hbY)
 clear hbY H1x
 go_wp2_with fail
 refine hK.out _ _ trivial (fun hHeld => ?_)
 clear hK K
 (try simp only [Act.put, nA, nB, nC])
 refine wpAnyH_done (by kernel_rfl) ?_ _
 cases hc : isC u
 · have HF := Lib.hid (HR.out.trans (if_neg (by rw [hc]; decide)))
   clear HR hc H0
   go_wp2_with fail
   cases hk : isK 1 u
   · have HE := Lib.hid (HF.out.trans (takeK_no hk))
     refine (name_no H1.out.p hk).mono ?_
     rintro e w2 ⟨rfl, hp2, hg2⟩
     have hg9 := grown_trans H1.out.g hg2
     go_wp2_with fail
     exact ⟨rfl, SmR.bad' HE.out rfl hp2 hg9⟩
   · have HG := Lib.hid (HF.out.trans (takeK_yes hk))
     refine (name_yes H1.out.p hk).mono ?_
     rintro e w2 ⟨rfl, hp2, hg2⟩
     have H2 := Lib.hid (H1.out.step hp2 hg2 (tail_le u))
     generalize hd u = t at *
     generalize u.tail = v at *
     have H3 := Lib.hid (H2.out.setNm t.tx)
     have q2 := H2.out.s.cell (j := 2) (by simp [SF.cs])
     have qf2 := H2.out.s.frozen 2
     simp only [SF.cs, List.getElem_cons_zero, List.getElem_cons_succ] at q2
     clear hp2 hg2 H1 hk HF
     go_wp2_with fail
     obtain ⟨W3, hW3⟩ : ∃ W3, w2.setCell ⟨gs, 2, none⟩ (.string (str t.tx)) = W3 := ⟨_, rfl⟩
     rw [hW3] at H3 ⊢
     clear q2 qf2
     clear hW3 H2
     refine wp_region_held_drew (S := fun W9 => True) (by kernel_rfl) (trivial) (fun hHeld => ?_)
     refine heldTake (i := 0) (d := some 29) (v := ?_) rfl rfl (by kernel_rfl) (by kernel_rfl) (by kernel_rfl) (fun _ _ _ h => h) (by kernel_rfl) ?hyq_4 (by assumption) ?restq_4
     case hyq_4 => (intro W9 hSw; (try dsimp only at hSw); go_simp; try (with_reducible rfl))
     (try simp only [Act.put, nA, nB, nC])
     refine heldTake (i := 1) (d := some 30) (v := ?_) rfl rfl (by kernel_rfl) (by kernel_rfl) (by kernel_rfl) (fun _ _ _ h => h) (by kernel_rfl) ?hyq_5 (by assumption) ?restq_5
     case hyq_5 => (intro W9 hSw; (try dsimp only at hSw); go_simp; try (with_reducible rfl))
     (try simp only [Act.put, nA, nB, nC])
     refine heldTake (i := 2) (d := some 31) (v := ?_) rfl rfl (by kernel_rfl) (by kernel_rfl) (by kernel_rfl) (fun _ _ _ h => h) (by kernel_rfl) ?hyq_6 (by assumption) ?restq_6
     case hyq_6 => (intro W9 hSw; (try dsimp only at hSw); go_simp; try (with_reducible rfl))
     (try simp only [Act.put, nA, nB, nC])
     refine wpAnyH_ready (rs := [3]) (by kernel_rfl) (by simp) ?_
     refine AllReadyH.cons rfl (fun K hK => ?_) AllReadyH.nil
     go_simp
     go_at_call 58
     refine (sign_any [91] _).mono ?_
     rintro e9 X ⟨rfl, hbX⟩
     have H4x := Lib.hid (H3.out.drew.below hbX)
     clear hbX
     go_wp2_with fail
     refine hK.out _ _ trivial (fun hHeld => ?_)
     clear hK K
     (try simp only [Act.put, nA, nB, nC])
     refine wpAnyH_ready (rs := [4]) (by kernel_rfl) (by simp) ?_
     refine AllReadyH.cons rfl (fun K hK => ?_) AllReadyH.nil
     go_simp
     go_at_call 59
     refine (takeT_any H4x.out.p 4 [91] (by decide)).mono ?_
     rintro e9 Y ⟨rfl, hpY, hgY⟩
     have H4 := Lib.hid (H4x.out.step hpY hgY (stp_len _ _ _))
     clear hpY hgY H4x
     go_wp2_with fail
     refine hK.out _ _ trivial (fun hHeld => ?_)
     clear hK K
     (try simp only [Act.put, nA, nB, nC])
     refine heldTake (i := 5) (d := some 28) (v := ?_) rfl rfl (by kernel_rfl) (by kernel_rfl) (by kernel_rfl) (fun _ _ _ h => h) (by kernel_rfl) ?hyq_7 (by assumption) ?restq_7
     case hyq_7 => (intro W9 hSw; (try dsimp only at hSw); go_simp; try (with_reducible rfl))
     (try simp only [Act.put, nA, nB, nC])
     refine wpAnyH_done (by kernel_rfl) ?_ _
     cases hq : isT 4 [91] v
     · rw [stp_no hq] at H4
       have HF := Lib.hid (HG.out.trans (if_neg (by show ¬ isT 4 [91] v = true; rw [hq]; decide)))
       clear HG hq H3
       go_wp2_with fail
       refine wp_region_held_drew (S := fun W9 => True) (by kernel_rfl) (trivial) (fun hHeld => ?_)
       refine heldTake (i := 0) (d := some 51) (v := ?_) rfl rfl (by kernel_rfl) (by kernel_rfl) (by kernel_rfl) (fun _ _ _ h => h) (by kernel_rfl) ?hyq_8 (by assumption) ?restq_8
       case hyq_8 => (intro W9 hSw; (try dsimp only at hSw); go_simp; try (with_reducible rfl))
       (try simp only [Act.put, nA, nB, nC])
       refine heldTake (i := 1) (d := some 52) (v := ?_) rfl rfl (by kernel_rfl) (by kernel_rfl) (by kernel_rfl) (fun _ _ _ h => h) (by kernel_rfl) ?hyq_9 (by assumption) ?restq_9
       case hyq_9 => (intro W9 hSw; (try dsimp only at hSw); go_simp; try (with_reducible rfl))
       (try simp only [Act.put, nA, nB, nC])
       refine heldTake (i := 2) (d := some 53) (v := ?_) rfl rfl (by kernel_rfl) (by kernel_rfl) (by kernel_rfl) (fun _ _ _ h => h) (by kernel_rfl) ?hyq_10 (by assumption) ?restq_10
       case hyq_10 => (intro W9 hSw; (try dsimp only at hSw); go_simp; try (with_reducible rfl))
       (try simp only [Act.put, nA, nB, nC])
       refine wpAnyH_ready (rs := [3]) (by kernel_rfl) (by simp) ?_
       refine AllReadyH.cons rfl (fun K hK => ?_) AllReadyH.nil
       go_simp
       go_at_call 58
       refine (sign_any [46] _).mono ?_
       rintro e9 X ⟨rfl, hbX⟩
       have H5x := Lib.hid (H4.out.drew.below hbX)
       clear hbX
       go_wp2_with fail
       refine hK.out _ _ trivial (fun hHeld => ?_)
       clear hK K
       (try simp only [Act.put, nA, nB, nC])
       refine wpAnyH_ready (rs := [4]) (by kernel_rfl) (by simp) ?_
       refine AllReadyH.cons rfl (fun K hK => ?_) AllReadyH.nil
       go_simp
       go_at_call 59
       refine (takeT_any H5x.out.p 4 [46] (by decide)).mono ?_
       rintro e9 Y ⟨rfl, hpY, hgY⟩
       have H5 := Lib.hid (H5x.out.step hpY hgY (stp_len _ _ _))
       clear hpY hgY H5x
       go_wp2_with fail
       refine hK.out _ _ trivial (fun hHeld => ?_)
       clear hK K
       (try simp only [Act.put, nA, nB, nC])
       refine heldTake (i := 5) (d := some 50) (v := ?_) rfl rfl (by kernel_rfl) (by kernel_rfl) (by kernel_rfl) (fun _ _ _ h => h) (by kernel_rfl) ?hyq_11 (by assumption) ?restq_11
       case hyq_11 => (intro W9 hSw; (try dsimp only at hSw); go_simp; try (with_reducible rfl))
       (try simp only [Act.put, nA, nB, nC])
       refine wpAnyH_done (by kernel_rfl) ?_ _
       cases hq : isT 4 [46] v
       · rw [stp_no hq] at H5
         have HG := Lib.hid (HF.out.trans (if_neg (by show ¬ isT 4 [46] v = true; rw [hq]; decide)))
         clear HF hq H4
         go_wp2_with fail
         cases hq : isT 4 [61] v
         · have HE := Lib.hid (HG.out.trans (takeS_no hq))
           refine wp_region_held_drew (S := fun W9 => True) (by kernel_rfl) trivial (fun hHeld => ?_)
           have Knd := Lib.hid H5.out.drew
           refine heldTake (i := 0) (d := some 19) (v := ?_) rfl rfl (by kernel_rfl) (by kernel_rfl) (by kernel_rfl) (fun _ _ _ h => h) (by kernel_rfl) ?hyq_12 (by assumption) ?restq_12
           case hyq_12 => (intro W9 hSw; (try dsimp only at hSw); go_simp; try (with_reducible rfl))
           (try simp only [Act.put, nA, nB, nC])
           refine heldTake (i := 1) (d := some 20) (v := ?_) rfl rfl (by kernel_rfl) (by kernel_rfl) (by kernel_rfl) (fun _ _ _ h => h) (by kernel_rfl) ?hyq_13 (by assumption) ?restq_13
           case hyq_13 => (intro W9 hSw; (try dsimp only at hSw); go_simp; try (with_reducible rfl))
           (try simp only [Act.put, nA, nB, nC])
           refine heldTake (i := 2) (d := some 21) (v := ?_) rfl rfl (by kernel_rfl) (by kernel_rfl) (by kernel_rfl) (fun _ _ _ h => h) (by kernel_rfl) ?hyq_14 (by assumption) ?restq_14
           case hyq_14 => (intro W9 hSw; (try dsimp only at hSw); go_simp; try (with_reducible rfl))
           (try simp only [Act.put, nA, nB, nC])
           refine wpAnyH_ready (rs := [3]) (by kernel_rfl) (by simp) ?_
           refine AllReadyH.cons rfl (fun K hK => ?_) AllReadyH.nil
           go_simp
           go_at_call 58
           refine (sign_any [61] _).mono ?_
           rintro e9 X ⟨rfl, hbX⟩
           have Knx := Lib.hid (Knd.out.below hbX)
           clear hbX
           go_wp2_with fail
           refine hK.out _ _ trivial (fun hHeld => ?_)
           clear hK K
           (try simp only [Act.put, nA, nB, nC])
           refine wpAnyH_ready (rs := [4]) (by kernel_rfl) (by simp) ?_
           refine AllReadyH.cons rfl (fun K hK => ?_) AllReadyH.nil
           (try rw [if_pos (by kernel_rfl)])
           refine El.op_build1 eTo X 22 (.agg #[.int .u8 0, .string ⟨#[]⟩, .int .i64 0, .int .i64 0]) 40 Try.underlying22 tok_info rfl (by decide) (.tmp 22) rfl (tV ⟨4, [61], 0, 0⟩) ⟨4, [61], 0, 0⟩ rfl rfl ?_
           change K (Act.put _ (some 23) (.slice (some ⟨X.heap.size, 0, none⟩) 1 1)) (X.alloc (.cells (eTo.f ⟨4, [61], 0, 0⟩).toArray 77))
           have hbY := below_lnew X (.cells (eTo.f ⟨4, [61], 0, 0⟩).toArray 77)
           have hT9 := El.liesT_new eTo X [⟨4, [61], 0, 0⟩] (eTo.f ⟨4, [61], 0, 0⟩).toArray (fun i v h => by simpa [eTo, tS] using h)
           obtain ⟨Y, hY⟩ : ∃ Y, X.alloc (.cells (eTo.f ⟨4, [61], 0, 0⟩).toArray 77) = Y := ⟨_, rfl⟩
           replace hT9 : eTo.LiesT (X.alloc (.cells (eTo.f ⟨4, [61], 0, 0⟩).toArray 77)) (some ⟨X.heap.size, 0, none⟩) [⟨4, [61], 0, 0⟩] := hT9
           rw [hY] at hbY hT9 ⊢
           have Kny := Lib.hid (Knx.out.below hbY)
           have HT9 := Lib.hid hT9
           clear hY hbY hT9
           refine hK.out _ _ trivial (fun hHeld => ?_)
           clear hK K
           (try simp only [Act.put, nA, nB, nC])
           refine wpAnyH_ready (rs := [5]) (by kernel_rfl) (by simp) ?_
           refine AllReadyH.cons rfl (fun K hK => ?_) AllReadyH.nil
           go_simp
           go_at_call 56
           refine (need_any Kny.out.p [⟨4, [61], 0, 0⟩] (one_kd 4 (by decide) _) (some ⟨_, 0, none⟩) 1 HT9.out (by simp)).mono ?_
           rintro e9 Z hN
           rw [nd1_no hq] at hN
           obtain ⟨rfl, hpZ, hgZ⟩ := hN
           have hg9 := grown_trans Kny.out.g hgZ
           go_wp2_with fail
           exact ⟨rfl, SmR.bad' HE.out rfl hpZ hg9⟩
         · have HE := Lib.hid (HG.out.trans (takeS_yes hq))
           refine wp_region_held_drew (S := fun W9 => True) (by kernel_rfl) trivial (fun hHeld => ?_)
           have H6d := Lib.hid H5.out.drew
           refine heldTake (i := 0) (d := some 19) (v := ?_) rfl rfl (by kernel_rfl) (by kernel_rfl) (by kernel_rfl) (fun _ _ _ h => h) (by kernel_rfl) ?hyq_15 (by assumption) ?restq_15
           case hyq_15 => (intro W9 hSw; (try dsimp only at hSw); go_simp; try (with_reducible rfl))
           (try simp only [Act.put, nA, nB, nC])
           refine heldTake (i := 1) (d := some 20) (v := ?_) rfl rfl (by kernel_rfl) (by kernel_rfl) (by kernel_rfl) (fun _ _ _ h => h) (by kernel_rfl) ?hyq_16 (by assumption) ?restq_16
           case hyq_16 => (intro W9 hSw; (try dsimp only at hSw); go_simp; try (with_reducible rfl))
           (try simp only [Act.put, nA, nB, nC])
           refine heldTake (i := 2) (d := some 21) (v := ?_) rfl rfl (by kernel_rfl) (by kernel_rfl) (by kernel_rfl) (fun _ _ _ h => h) (by kernel_rfl) ?hyq_17 (by assumption) ?restq_17
           case hyq_17 => (intro W9 hSw; (try dsimp only at hSw); go_simp; try (with_reducible rfl))
           (try simp only [Act.put, nA, nB, nC])
           refine wpAnyH_ready (rs := [3]) (by kernel_rfl) (by simp) ?_
           refine AllReadyH.cons rfl (fun K hK => ?_) AllReadyH.nil
           go_simp
           go_at_call 58
           refine (sign_any [61] _).mono ?_
           rintro e9 X ⟨rfl, hbX⟩
           have H6x := Lib.hid (H6d.out.below hbX)
           clear hbX
           go_wp2_with fail
           refine hK.out _ _ trivial (fun hHeld => ?_)
           clear hK K
           (try simp only [Act.put, nA, nB, nC])
           refine wpAnyH_ready (rs := [4]) (by kernel_rfl) (by simp) ?_
           refine AllReadyH.cons rfl (fun K hK => ?_) AllReadyH.nil
           (try rw [if_pos (by kernel_rfl)])
           refine El.op_build1 eTo X 22 (.agg #[.int .u8 0, .string ⟨#[]⟩, .int .i64 0, .int .i64 0]) 40 Try.underlying22 tok_info rfl (by decide) (.tmp 22) rfl (tV ⟨4, [61], 0, 0⟩) ⟨4, [61], 0, 0⟩ rfl rfl ?_
           change K (Act.put _ (some 23) (.slice (some ⟨X.heap.size, 0, none⟩) 1 1)) (X.alloc (.cells (eTo.f ⟨4, [61], 0, 0⟩).toArray 77))
           have hbY := below_lnew X (.cells (eTo.f ⟨4, [61], 0, 0⟩).toArray 77)
           have hT9 := El.liesT_new eTo X [⟨4, [61], 0, 0⟩] (eTo.f ⟨4, [61], 0, 0⟩).toArray (fun i v h => by simpa [eTo, tS] using h)
           obtain ⟨Y, hY⟩ : ∃ Y, X.alloc (.cells (eTo.f ⟨4, [61], 0, 0⟩).toArray 77) = Y := ⟨_, rfl⟩
           replace hT9 : eTo.LiesT (X.alloc (.cells (eTo.f ⟨4, [61], 0, 0⟩).toArray 77)) (some ⟨X.heap.size, 0, none⟩) [⟨4, [61], 0, 0⟩] := hT9
           rw [hY] at hbY hT9 ⊢
           have H6y := Lib.hid (H6x.out.below hbY)
           have HT9 := Lib.hid hT9
           clear hY hbY hT9
           refine hK.out _ _ trivial (fun hHeld => ?_)
           clear hK K
           (try simp only [Act.put, nA, nB, nC])
           refine wpAnyH_ready (rs := [5]) (by kernel_rfl) (by simp) ?_
           refine AllReadyH.cons rfl (fun K hK => ?_) AllReadyH.nil
           go_simp
           go_at_call 56
           refine (need_any H6y.out.p [⟨4, [61], 0, 0⟩] (one_kd 4 (by decide) _) (some ⟨_, 0, none⟩) 1 HT9.out (by simp)).mono ?_
           rintro e9 Z hN
           rw [nd1_yes hq] at hN
           obtain ⟨rfl, hpZ, hgZ⟩ := hN
           have H6 := Lib.hid (H6y.out.step hpZ hgZ (tail_le _))
           clear hpZ hgZ H6d H6x H6y HT9
           go_wp2_with fail
           refine hK.out _ _ trivial (fun hHeld => ?_)
           clear hK K
           (try simp only [Act.put, nA, nB, nC])
           refine wpAnyH_done (by kernel_rfl) ?_ _
           have HV := Lib.hid (set_any H6.out)
           clear HG hq H5
           go_wp2_with fail
           rcases hx9 : setS ⟨s.kd, s.ln, t.tx, s.fl, s.cl, s.ty⟩ (xsd ks) v.tail with ⟨y9, z9⟩ | z9 | _
           · rw [hx9] at HE HV
             refine HV.out.mono ?_
             rintro e w9 ⟨rfl, ks9, vk9, hk9, hS9⟩
             have HS9 := Lib.hid hS9.out
             clear hS9
             go_wp2_with fail
             refine bodyPost_end (results_none rfl _ _ _) rfl ?_
             exact SmR.ok' HE.out rfl hk9 HS9.out
           · rw [hx9] at HE HV
             refine HV.out.mono ?_
             rintro e w9 ⟨rfl, hp9, hg9⟩
             go_wp2_with fail
             exact ⟨rfl, SmR.bad' HE.out rfl hp9 hg9⟩
           · rw [hx9] at HV
             refine HV.out.mono ?_
             rintro e w9 h9
             exact h9.elim
       · rw [stp_yes hq] at H5
         have HG := Lib.hid (HF.out.trans (if_pos hq))
         clear HF hq H4
         generalize v.tail = v1 at *
         have H6 := Lib.hid (H5.out.setKd 4)
         have q0 := H5.out.s.cell (j := 0) (by simp [SF.cs])
         have qf0 := H5.out.s.frozen 0
         simp only [SF.cs, List.getElem_cons_zero] at q0
         go_wp2_with fail
         obtain ⟨W6, hW6⟩ : ∃ W6, Y.setCell ⟨gs, 0, none⟩ (.int .u8 4) = W6 := ⟨_, rfl⟩
         rw [hW6] at H6 ⊢
         clear q0 qf0
         clear hW6 H5
         cases hk : isK 1 v1
         · have HE := Lib.hid (HG.out.trans (takeK_no hk))
           refine (name_no H6.out.p hk).mono ?_
           rintro e w2 ⟨rfl, hp2, hg2⟩
           have hg9 := grown_trans H6.out.g hg2
           go_wp2_with fail
           exact ⟨rfl, SmR.bad' HE.out rfl hp2 hg9⟩
         · have HF := Lib.hid (HG.out.trans (takeK_yes hk))
           refine (name_yes H6.out.p hk).mono ?_
           rintro e w7 ⟨rfl, hp2, hg2⟩
           have H7 := Lib.hid (H6.out.step hp2 hg2 (tail_le v1))
           generalize hd v1 = f at *
           generalize v1.tail = v2 at *
           have H8 := Lib.hid (H7.out.setFl f.tx)
           have q3 := H7.out.s.cell (j := 3) (by simp [SF.cs])
           have qf3 := H7.out.s.frozen 3
           simp only [SF.cs, List.getElem_cons_zero, List.getElem_cons_succ] at q3
           clear hp2 hg2 H6 hk HG
           go_wp2_with fail
           obtain ⟨W8, hW8⟩ : ∃ W8, w7.setCell ⟨gs, 3, none⟩ (.string (str f.tx)) = W8 := ⟨_, rfl⟩
           rw [hW8] at H8 ⊢
           clear q3 qf3
           clear hW8 H7
           cases hq : isT 4 [61] v2
           · have HE := Lib.hid (HF.out.trans (takeS_no hq))
             refine wp_region_held_drew (S := fun W9 => True) (by kernel_rfl) trivial (fun hHeld => ?_)
             have Knd := Lib.hid H8.out.drew
             refine heldTake (i := 0) (d := some 66) (v := ?_) rfl rfl (by kernel_rfl) (by kernel_rfl) (by kernel_rfl) (fun _ _ _ h => h) (by kernel_rfl) ?hyq_18 (by assumption) ?restq_18
             case hyq_18 => (intro W9 hSw; (try dsimp only at hSw); go_simp; try (with_reducible rfl))
             (try simp only [Act.put, nA, nB, nC])
             refine heldTake (i := 1) (d := some 67) (v := ?_) rfl rfl (by kernel_rfl) (by kernel_rfl) (by kernel_rfl) (fun _ _ _ h => h) (by kernel_rfl) ?hyq_19 (by assumption) ?restq_19
             case hyq_19 => (intro W9 hSw; (try dsimp only at hSw); go_simp; try (with_reducible rfl))
             (try simp only [Act.put, nA, nB, nC])
             refine heldTake (i := 2) (d := some 68) (v := ?_) rfl rfl (by kernel_rfl) (by kernel_rfl) (by kernel_rfl) (fun _ _ _ h => h) (by kernel_rfl) ?hyq_20 (by assumption) ?restq_20
             case hyq_20 => (intro W9 hSw; (try dsimp only at hSw); go_simp; try (with_reducible rfl))
             (try simp only [Act.put, nA, nB, nC])
             refine wpAnyH_ready (rs := [3]) (by kernel_rfl) (by simp) ?_
             refine AllReadyH.cons rfl (fun K hK => ?_) AllReadyH.nil
             go_simp
             go_at_call 58
             refine (sign_any [61] _).mono ?_
             rintro e9 X ⟨rfl, hbX⟩
             have Knx := Lib.hid (Knd.out.below hbX)
             clear hbX
             go_wp2_with fail
             refine hK.out _ _ trivial (fun hHeld => ?_)
             clear hK K
             (try simp only [Act.put, nA, nB, nC])
             refine wpAnyH_ready (rs := [4]) (by kernel_rfl) (by simp) ?_
             refine AllReadyH.cons rfl (fun K hK => ?_) AllReadyH.nil
             (try rw [if_pos (by kernel_rfl)])
             refine El.op_build1 eTo X 22 (.agg #[.int .u8 0, .string ⟨#[]⟩, .int .i64 0, .int .i64 0]) 40 Try.underlying22 tok_info rfl (by decide) (.tmp 69) rfl (tV ⟨4, [61], 0, 0⟩) ⟨4, [61], 0, 0⟩ rfl rfl ?_
             change K (Act.put _ (some 70) (.slice (some ⟨X.heap.size, 0, none⟩) 1 1)) (X.alloc (.cells (eTo.f ⟨4, [61], 0, 0⟩).toArray 77))
             have hbY := below_lnew X (.cells (eTo.f ⟨4, [61], 0, 0⟩).toArray 77)
             have hT9 := El.liesT_new eTo X [⟨4, [61], 0, 0⟩] (eTo.f ⟨4, [61], 0, 0⟩).toArray (fun i v h => by simpa [eTo, tS] using h)
             obtain ⟨Y, hY⟩ : ∃ Y, X.alloc (.cells (eTo.f ⟨4, [61], 0, 0⟩).toArray 77) = Y := ⟨_, rfl⟩
             replace hT9 : eTo.LiesT (X.alloc (.cells (eTo.f ⟨4, [61], 0, 0⟩).toArray 77)) (some ⟨X.heap.size, 0, none⟩) [⟨4, [61], 0, 0⟩] := hT9
             rw [hY] at hbY hT9 ⊢
             have Kny := Lib.hid (Knx.out.below hbY)
             have HT9 := Lib.hid hT9
             clear hY hbY hT9
             refine hK.out _ _ trivial (fun hHeld => ?_)
             clear hK K
             (try simp only [Act.put, nA, nB, nC])
             refine wpAnyH_ready (rs := [5]) (by kernel_rfl) (by simp) ?_
             refine AllReadyH.cons rfl (fun K hK => ?_) AllReadyH.nil
             go_simp
             go_at_call 56
             refine (need_any Kny.out.p [⟨4, [61], 0, 0⟩] (one_kd 4 (by decide) _) (some ⟨_, 0, none⟩) 1 HT9.out (by simp)).mono ?_
             rintro e9 Z hN
             rw [nd1_no hq] at hN
             obtain ⟨rfl, hpZ, hgZ⟩ := hN
             have hg9 := grown_trans Kny.out.g hgZ
             go_wp2_with fail
             exact ⟨rfl, SmR.bad' HE.out rfl hpZ hg9⟩
           · have HE := Lib.hid (HF.out.trans (takeS_yes hq))
             refine wp_region_held_drew (S := fun W9 => True) (by kernel_rfl) trivial (fun hHeld => ?_)
             have H9d := Lib.hid H8.out.drew
             refine heldTake (i := 0) (d := some 66) (v := ?_) rfl rfl (by kernel_rfl) (by kernel_rfl) (by kernel_rfl) (fun _ _ _ h => h) (by kernel_rfl) ?hyq_21 (by assumption) ?restq_21
             case hyq_21 => (intro W9 hSw; (try dsimp only at hSw); go_simp; try (with_reducible rfl))
             (try simp only [Act.put, nA, nB, nC])
             refine heldTake (i := 1) (d := some 67) (v := ?_) rfl rfl (by kernel_rfl) (by kernel_rfl) (by kernel_rfl) (fun _ _ _ h => h) (by kernel_rfl) ?hyq_22 (by assumption) ?restq_22
             case hyq_22 => (intro W9 hSw; (try dsimp only at hSw); go_simp; try (with_reducible rfl))
             (try simp only [Act.put, nA, nB, nC])
             refine heldTake (i := 2) (d := some 68) (v := ?_) rfl rfl (by kernel_rfl) (by kernel_rfl) (by kernel_rfl) (fun _ _ _ h => h) (by kernel_rfl) ?hyq_23 (by assumption) ?restq_23
             case hyq_23 => (intro W9 hSw; (try dsimp only at hSw); go_simp; try (with_reducible rfl))
             (try simp only [Act.put, nA, nB, nC])
             refine wpAnyH_ready (rs := [3]) (by kernel_rfl) (by simp) ?_
             refine AllReadyH.cons rfl (fun K hK => ?_) AllReadyH.nil
             go_simp
             go_at_call 58
             refine (sign_any [61] _).mono ?_
             rintro e9 X ⟨rfl, hbX⟩
             have H9x := Lib.hid (H9d.out.below hbX)
             clear hbX
             go_wp2_with fail
             refine hK.out _ _ trivial (fun hHeld => ?_)
             clear hK K
             (try simp only [Act.put, nA, nB, nC])
             refine wpAnyH_ready (rs := [4]) (by kernel_rfl) (by simp) ?_
             refine AllReadyH.cons rfl (fun K hK => ?_) AllReadyH.nil
             (try rw [if_pos (by kernel_rfl)])
             refine El.op_build1 eTo X 22 (.agg #[.int .u8 0, .string ⟨#[]⟩, .int .i64 0, .int .i64 0]) 40 Try.underlying22 tok_info rfl (by decide) (.tmp 69) rfl (tV ⟨4, [61], 0, 0⟩) ⟨4, [61], 0, 0⟩ rfl rfl ?_
             change K (Act.put _ (some 70) (.slice (some ⟨X.heap.size, 0, none⟩) 1 1)) (X.alloc (.cells (eTo.f ⟨4, [61], 0, 0⟩).toArray 77))
             have hbY := below_lnew X (.cells (eTo.f ⟨4, [61], 0, 0⟩).toArray 77)
             have hT9 := El.liesT_new eTo X [⟨4, [61], 0, 0⟩] (eTo.f ⟨4, [61], 0, 0⟩).toArray (fun i v h => by simpa [eTo, tS] using h)
             obtain ⟨Y, hY⟩ : ∃ Y, X.alloc (.cells (eTo.f ⟨4, [61], 0, 0⟩).toArray 77) = Y := ⟨_, rfl⟩
             replace hT9 : eTo.LiesT (X.alloc (.cells (eTo.f ⟨4, [61], 0, 0⟩).toArray 77)) (some ⟨X.heap.size, 0, none⟩) [⟨4, [61], 0, 0⟩] := hT9
             rw [hY] at hbY hT9 ⊢
             have H9y := Lib.hid (H9x.out.below hbY)
             have HT9 := Lib.hid hT9
             clear hY hbY hT9
             refine hK.out _ _ trivial (fun hHeld => ?_)
             clear hK K
             (try simp only [Act.put, nA, nB, nC])
             refine wpAnyH_ready (rs := [5]) (by kernel_rfl) (by simp) ?_
             refine AllReadyH.cons rfl (fun K hK => ?_) AllReadyH.nil
             go_simp
             go_at_call 56
             refine (need_any H9y.out.p [⟨4, [61], 0, 0⟩] (one_kd 4 (by decide) _) (some ⟨_, 0, none⟩) 1 HT9.out (by simp)).mono ?_
             rintro e9 Z hN
             rw [nd1_yes hq] at hN
             obtain ⟨rfl, hpZ, hgZ⟩ := hN
             have H9 := Lib.hid (H9y.out.step hpZ hgZ (tail_le _))
             clear hpZ hgZ H9d H9x H9y HT9
             go_wp2_with fail
             refine hK.out _ _ trivial (fun hHeld => ?_)
             clear hK K
             (try simp only [Act.put, nA, nB, nC])
             refine wpAnyH_done (by kernel_rfl) ?_ _
             have HV := Lib.hid (value_any H9.out)
             clear HF hq H8
             go_wp2_with fail
             rcases hx9 : valP ⟨4, s.ln, t.tx, f.tx, s.cl, s.ty⟩ (xsd ks) v2.tail with ⟨y9, z9⟩ | z9 | _
             · rw [hx9] at HE HV
               refine HV.out.mono ?_
               rintro e w9 ⟨rfl, ks9, vk9, hk9, hS9⟩
               have HS9 := Lib.hid hS9.out
               clear hS9
               go_wp2_with fail
               refine bodyPost_end (results_none rfl _ _ _) rfl ?_
               exact SmR.ok' HE.out rfl hk9 HS9.out
             · rw [hx9] at HE HV
               refine HV.out.mono ?_
               rintro e w9 ⟨rfl, hp9, hg9⟩
               go_wp2_with fail
               exact ⟨rfl, SmR.bad' HE.out rfl hp9 hg9⟩
             · rw [hx9] at HV
               refine HV.out.mono ?_
               rintro e w9 h9
               exact h9.elim
     · rw [stp_yes hq] at H4
       have HF := Lib.hid (HG.out.trans (if_pos hq))
       clear HG hq H3
       generalize v.tail = v1 at *
       have H5 := Lib.hid (H4.out.setKd 3)
       have q0 := H4.out.s.cell (j := 0) (by simp [SF.cs])
       have qf0 := H4.out.s.frozen 0
       simp only [SF.cs, List.getElem_cons_zero] at q0
       go_wp2_with fail
       obtain ⟨W5, hW5⟩ : ∃ W5, Y.setCell ⟨gs, 0, none⟩ (.int .u8 3) = W5 := ⟨_, rfl⟩
       rw [hW5] at H5 ⊢
       clear q0 qf0
       clear hW5 H4
       have HV := Lib.hid (value_any H5.out)
       rcases hx : exP v1 with ⟨x, v2⟩ | v2 | _
       · have HG := Lib.hid (HF.out.trans (congrArg (fun q => R.bind q _) (valP_ok hx)))
         rw [valP_ok hx] at HV
         refine HV.out.mono ?_
         rintro e w6 ⟨rfl, ks2, vk2, hk2, hS⟩
         have H6 := Lib.hid (show SmZ w wf gp gs A c l _ vk2 ks2 ks2 vk2 w6 v2 from hS.out)
         dsimp only at hk2
         have HH := Lib.hid ((show r = takeS [93] v2 fun z => takeS [61] z fun y => valP ⟨3, s.ln, t.tx, s.fl, s.cl, s.ty⟩ (xsd ks2) y by rw [hk2]; exact HG.out).trans (nd2 _ _ _ _))
         clear hS HV HG HF hx hk2 H5
         go_wp2_with fail
         refine wp_region_held_drew (S := fun W9 => True) (by kernel_rfl) trivial (fun hHeld => ?_)
         have K4 := Lib.hid H6.out.drew
         refine heldTake (i := 0) (d := some 40) (v := ?_) rfl rfl (by kernel_rfl) (by kernel_rfl) (by kernel_rfl) (fun _ _ _ h => h) (by kernel_rfl) ?hyq_24 (by assumption) ?restq_24
         case hyq_24 => (intro W9 hSw; (try dsimp only at hSw); go_simp; try (with_reducible rfl))
         (try simp only [Act.put, nA, nB, nC])
         refine heldTake (i := 1) (d := some 41) (v := ?_) rfl rfl (by kernel_rfl) (by kernel_rfl) (by kernel_rfl) (fun _ _ _ h => h) (by kernel_rfl) ?hyq_25 (by assumption) ?restq_25
         case hyq_25 => (intro W9 hSw; (try dsimp only at hSw); go_simp; try (with_reducible rfl))
         (try simp only [Act.put, nA, nB, nC])
         refine heldTake (i := 2) (d := some 42) (v := ?_) rfl rfl (by kernel_rfl) (by kernel_rfl) (by kernel_rfl) (fun _ _ _ h => h) (by kernel_rfl) ?hyq_26 (by assumption) ?restq_26
         case hyq_26 => (intro W9 hSw; (try dsimp only at hSw); go_simp; try (with_reducible rfl))
         (try simp only [Act.put, nA, nB, nC])
         refine wpAnyH_ready (rs := [3]) (by kernel_rfl) (by simp) ?_
         refine AllReadyH.cons rfl (fun K hK => ?_) AllReadyH.nil
         go_simp
         go_at_call 58
         refine (sign_any [93] _).mono ?_
         rintro e9 X ⟨rfl, hbX⟩
         have K5 := Lib.hid (K4.out.below hbX)
         clear hbX
         go_wp2_with fail
         refine hK.out _ _ trivial (fun hHeld => ?_)
         clear hK K
         (try simp only [Act.put, nA, nB, nC])
         refine wpAnyH_ready (rs := [4]) (by kernel_rfl) (by simp) ?_
         refine AllReadyH.cons rfl (fun K hK => ?_) AllReadyH.nil
         go_simp
         go_at_call 58
         refine (sign_any [61] _).mono ?_
         rintro e9 X ⟨rfl, hbX⟩
         have K6 := Lib.hid (K5.out.below hbX)
         clear hbX
         go_wp2_with fail
         refine hK.out _ _ trivial (fun hHeld => ?_)
         clear hK K
         (try simp only [Act.put, nA, nB, nC])
         refine wpAnyH_ready (rs := [5]) (by kernel_rfl) (by simp) ?_
         refine AllReadyH.cons rfl (fun K hK => ?_) AllReadyH.nil
         unfold tV tS
         go_simp
         have hb9 := fun W9 : World => below_lnew W9 (.cells #[.int .u8 4, .string (str [93]), .int .i64 0, .int .i64 0, .int .u8 4, .string (str [61]), .int .i64 0, .int .i64 0] 77)
         have hT9 := fun W9 : World => El.liesT_new eTo W9 [⟨4, [93], 0, 0⟩, ⟨4, [61], 0, 0⟩] #[.int .u8 4, .string (str [93]), .int .i64 0, .int .i64 0, .int .u8 4, .string (str [61]), .int .i64 0, .int .i64 0] (fun i v h => by simpa [eTo, tS] using h)
         have K7 := Lib.hid (K6.out.below (hb9 _))
         refine hK.out _ _ trivial (fun hHeld => ?_)
         clear hK K
         (try simp only [Act.put, nA, nB, nC])
         refine wpAnyH_ready (rs := [6]) (by kernel_rfl) (by simp) ?_
         refine AllReadyH.cons rfl (fun K hK => ?_) AllReadyH.nil
         go_simp
         go_at_call 56
         refine (need_any K7.out.p [⟨4, [93], 0, 0⟩, ⟨4, [61], 0, 0⟩] (two_kd4 _ _) (some ⟨_, 0, none⟩) 2 (hT9 _) (by simp)).mono ?_
         rintro e9 Y8 hN8
         rcases hnd : ndP [⟨4, [93], 0, 0⟩, ⟨4, [61], 0, 0⟩] _ with ⟨_, z8⟩ | z8 | _
         · rw [hnd] at hN8
           have hlz := nd2_len hnd
           have HE8 := Lib.hid (HH.out.trans (congrArg (fun q => R.bind q _) hnd))
           obtain ⟨rfl, hpY8, hgY8⟩ := hN8
           have H7 := Lib.hid (K7.out.step hpY8 hgY8 hlz)
           clear hpY8 hgY8 hnd hlz K7 K6 K5
           go_wp2_with fail
           refine hK.out _ _ trivial (fun hHeld => ?_)
           clear hK K
           (try simp only [Act.put, nA, nB, nC])
           refine wpAnyH_done (by kernel_rfl) ?_ _
           have HE9 := Lib.hid (show r = valP ⟨3, s.ln, t.tx, s.fl, s.cl, s.ty⟩ (xsd ks2) z8 from HE8.out)
           have HV := Lib.hid (value_any H7.out)
           clear HE8 H6
           go_wp2_with fail
           rcases hx9 : valP ⟨3, s.ln, t.tx, s.fl, s.cl, s.ty⟩ (xsd ks2) z8 with ⟨y9, z9⟩ | z9 | _
           · rw [hx9] at HE9 HV
             refine HV.out.mono ?_
             rintro e w9 ⟨rfl, ks9, vk9, hk9, hS9⟩
             have HS9 := Lib.hid hS9.out
             clear hS9
             go_wp2_with fail
             refine bodyPost_end (results_none rfl _ _ _) rfl ?_
             exact SmR.ok' HE9.out rfl hk9 HS9.out
           · rw [hx9] at HE9 HV
             refine HV.out.mono ?_
             rintro e w9 ⟨rfl, hp9, hg9⟩
             go_wp2_with fail
             exact ⟨rfl, SmR.bad' HE9.out rfl hp9 hg9⟩
           · rw [hx9] at HV
             refine HV.out.mono ?_
             rintro e w9 h9
             exact h9.elim
         · rw [hnd] at hN8
           have HE8 : Hid  (_ = R.bad z8) := Lib.hid (HH.out.trans (congrArg (fun q => R.bind q _) hnd))
           obtain ⟨rfl, hpY8, hgY8⟩ := hN8
           have hg9 := grown_trans K7.out.g hgY8
           go_wp2_with fail
           exact ⟨rfl, SmR.bad' HE8.out rfl hpY8 hg9⟩
         · rw [hnd] at hN8
           exact hN8.elim
       · have HG := Lib.hid (HF.out.trans (congrArg (fun q => R.bind q _) (valP_bad hx)))
         rw [valP_bad hx] at HV
         refine HV.out.mono ?_
         rintro e w6 ⟨rfl, hp6, hg6⟩
         go_wp2_with fail
         exact ⟨rfl, SmR.bad' HG.out rfl hp6 hg6⟩
       · exact absurd hx (exP_ne _)
 · have HE := Lib.hid (HR.out.trans (if_pos hc))
   have HV := Lib.hid (call_any H1.out)
   clear HR hc H0
   go_wp2_with fail
   rcases hx9 : callS s (xsd ks) u with ⟨y9, z9⟩ | z9 | _
   · rw [hx9] at HE HV
     refine HV.out.mono ?_
     rintro e w9 ⟨rfl, ks9, vk9, hk9, hS9⟩
     have HS9 := Lib.hid hS9.out
     clear hS9
     go_wp2_with fail
     refine bodyPost_end (results_none rfl _ _ _) rfl ?_
     exact SmR.ok' HE.out rfl hk9 HS9.out
   · rw [hx9] at HE HV
     refine HV.out.mono ?_
     rintro e w9 ⟨rfl, hp9, hg9⟩
     go_wp2_with fail
     exact ⟨rfl, SmR.bad' HE.out rfl hp9 hg9⟩
   · rw [hx9] at HV
     refine HV.out.mono ?_
     rintro e w9 h9
     exact h9.elim
end
end Go.Proofs.Ytjllbacefbjjaaa
