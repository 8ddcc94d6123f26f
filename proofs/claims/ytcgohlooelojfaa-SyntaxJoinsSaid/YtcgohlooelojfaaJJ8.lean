/-
  Merged for a claim: SYW, SYX.
-/
import Derived.Test.YtcgohlooelojfaaJSYV
namespace Go.Proofs.Ytcgohlooelojfaa
open Go Go.RowKit

theorem tok_info : (Try.prog.info? 79).map (fun i => (i.zero, i.size, i.bytes)) = some (some (.agg #[.int .u8 0, .string ⟨#[]⟩, .int .i64 0, .int .i64 0]), 4, 40) := by kernel_rfl
theorem stp_len (kd : Int) (tx : List UInt8) (u : List To) : (stp kd tx u).length ≤ u.length := by
  unfold stp
  split
  · rw [List.length_tail]; omega
  · exact Nat.le_refl _
theorem tail_le (u : List To) : u.tail.length ≤ u.length := by rw [List.length_tail]; omega
theorem stp_no {kd : Int} {tx : List UInt8} {u : List To} (h : isT kd tx u = false) : stp kd tx u = u := by unfold stp; rw [h]; rfl
theorem stp_yes {kd : Int} {tx : List UInt8} {u : List To} (h : isT kd tx u = true) : stp kd tx u = u.tail := by unfold stp; rw [h]; rfl
theorem one_kd (kd : Int) (hk : kd ≠ 0) (s : List UInt8) : ∀ x ∈ [(⟨kd, s, 0, 0⟩ : To)], x.kd ≠ 0 := by
  intro x hx
  rw [List.mem_singleton.1 hx]
  exact hk
theorem nd1_yes {s : List UInt8} {u : List To} (h : isT 4 s u = true) : ndP [⟨4, s, 0, 0⟩] u = .ok () u.tail := by
  rw [ndP, if_pos h]
  rfl
theorem nd1_no {s : List UInt8} {u : List To} (h : isT 4 s u = false) : ndP [⟨4, s, 0, 0⟩] u = .bad u := by
  rw [ndP, if_neg (by rw [h]; decide)]
theorem takeS_yes {α : Type} {tx : List UInt8} {u : List To} {f : List To → R α} (h : isT 4 tx u = true) : takeS tx u f = f u.tail := if_pos h
theorem takeS_no {α : Type} {tx : List UInt8} {u : List To} {f : List To → R α} (h : isT 4 tx u = false) : takeS tx u f = .bad u := if_neg (by show ¬ isT 4 tx u = true; rw [h]; decide)
theorem takeK_yes {α : Type} {kd : Int} {u : List To} {f : To → List To → R α} (h : isK kd u = true) : takeK kd u f = f (hd u) u.tail := if_pos h
theorem takeK_no {α : Type} {kd : Int} {u : List To} {f : To → List To → R α} (h : isK kd u = false) : takeK kd u f = .bad u := if_neg (by rw [h]; decide)
/-- what is read of a statement, behind others -/
abbrev PS := SF × List Ex
def toSt (x : PS) : St := stm x.1.kd x.1.ln x.1.nm x.1.fl x.1.cl x.1.ty x.2
def bdS (r : R PS) : R St := r.bind fun x v => .ok (toSt x) v
theorem valP_ok {s : SF} {es : List Ex} {u v : List To} {x : Ex} (h : exP u = .ok x v) : valP s es u = .ok (s, es ++ [x]) v := by unfold valP; rw [h]; rfl
theorem valP_bad {s : SF} {es : List Ex} {u v : List To} (h : exP u = .bad v) : valP s es u = .bad v := by unfold valP; rw [h]; rfl
def varS (s : SF) (es : List Ex) (u : List To) : R PS :=
  takeK 1 u fun t v => (tyP v).bind fun ty w => if isS [61] w = true then valP ⟨1, s.ln, t.tx, s.fl, s.cl, ty⟩ es w.tail else .ok (⟨1, s.ln, t.tx, s.fl, s.cl, ty⟩, es) w
section
variable {w wf W Z : World} {gp gs : Nat} {A : Option Addr} {c : Nat} {l u u' : List To} {s : SF} {vc v : Value} {rows xs : List XT}
theorem SmZ.cell (h : SmZ w wf gp gs A c l s vc rows xs v W u) (j : Nat) (z : Value) (s' : SF) (hs : (s.cs vc).set j z = s'.cs vc) : SmZ w wf gp gs A c l s' vc rows xs v (W.setCell ⟨gs, j, none⟩ z) u := by
  have hn := h.n
  have hb : ButT 53 W (W.setCell ⟨gs, j, none⟩ z) := ButT.set (p := ⟨gs, j, none⟩) ⟨_, _, h.s⟩ z
  have hB : Below w.heap.size W (W.setCell ⟨gs, j, none⟩ z) := (Below.refl _ _).setCell (p := ⟨gs, j, none⟩) hn.2.1 z
  exact ⟨h.p.below hB hn.1, by rw [← hs]; exact h.s.set j z, h.r.but hb (by decide), xsOk.keep (fun g _ ht => hb g _ ht (by decide)) (fun _ q => q) xs h.k, grown_new h.g hB, hn, h.f.but hb (.inr (.inl rfl))⟩
theorem SmZ.setKd (h : SmZ w wf gp gs A c l s vc rows xs v W u) (x : Int) : SmZ w wf gp gs A c l ⟨x, s.ln, s.nm, s.fl, s.cl, s.ty⟩ vc rows xs v (W.setCell ⟨gs, 0, none⟩ (.int .u8 x)) u := h.cell 0 _ _ rfl
theorem SmZ.setNm (h : SmZ w wf gp gs A c l s vc rows xs v W u) (x : List UInt8) : SmZ w wf gp gs A c l ⟨s.kd, s.ln, x, s.fl, s.cl, s.ty⟩ vc rows xs v (W.setCell ⟨gs, 2, none⟩ (.string (str x))) u := h.cell 2 _ _ rfl
theorem SmZ.setFl (h : SmZ w wf gp gs A c l s vc rows xs v W u) (x : List UInt8) : SmZ w wf gp gs A c l ⟨s.kd, s.ln, s.nm, x, s.cl, s.ty⟩ vc rows xs v (W.setCell ⟨gs, 3, none⟩ (.string (str x))) u := h.cell 3 _ _ rfl
theorem SmZ.setCl (h : SmZ w wf gp gs A c l s vc rows xs v W u) (x : List UInt8) : SmZ w wf gp gs A c l ⟨s.kd, s.ln, s.nm, s.fl, x, s.ty⟩ vc rows xs v (W.setCell ⟨gs, 4, none⟩ (.string (str x))) u := h.cell 4 _ _ rfl
theorem SmZ.setTy (h : SmZ w wf gp gs A c l s vc rows xs v W u) (t : Ty) : SmZ w wf gp gs A c l ⟨s.kd, s.ln, s.nm, s.fl, s.cl, t⟩ vc rows xs v (((W.setCell ⟨gs, 5, none⟩ (.int .u8 t.kd)).setCell ⟨gs, 6, none⟩ (.int .i64 t.n)).setCell ⟨gs, 7, none⟩ (.string (str t.nm))) u :=
  ((h.cell 5 (.int .u8 t.kd) ⟨s.kd, s.ln, s.nm, s.fl, s.cl, ⟨t.kd, s.ty.n, s.ty.nm⟩⟩ rfl).cell 6 (.int .i64 t.n) ⟨s.kd, s.ln, s.nm, s.fl, s.cl, ⟨t.kd, t.n, s.ty.nm⟩⟩ rfl).cell 7 (.string (str t.nm)) ⟨s.kd, s.ln, s.nm, s.fl, s.cl, t⟩ rfl
theorem SmZ.rebase (h : SmZ w wf gp gs A c l s vc rows xs v W u) : SmZ w W gp gs A c l s vc rows xs v W u := ⟨h.p, h.s, h.r, h.k, h.g, h.n, .refl W⟩
theorem SmZ.front {wg : World} (h : SmZ w wf gp gs A c l s vc rows xs v W u) (hf : FrS wg wf) : SmZ w wg gp gs A c l s vc rows xs v W u := ⟨h.p, h.s, h.r, h.k, h.g, h.n, hf.trans h.f⟩
theorem SmR.bad' {e : Ending} {r : R PS} {x : List To} (hr : r = .bad x) (he : e = .panicked misC) (hp : Ps W gp A c l x) (hg : w.grownBy W (some gp)) : SmR w wf gp gs A c l r e W := by
  subst hr
  exact ⟨he, hp, hg⟩
theorem SmR.ok' {e : Ending} {r : R PS} {x : PS} {u : List To} {ks : List XT} {vk : Value} (hr : r = .ok x u) (he : e = .returned (.tuple #[])) (hx : xsd ks = x.2) (h : SmZ w wf gp gs A c l x.1 vk ks ks vk W u) : SmR w wf gp gs A c l r e W := by
  subst hr
  exact ⟨he, ks, vk, hx, Lib.hid h⟩
end
end Go.Proofs.Ytcgohlooelojfaa

namespace Go.Proofs.Ytcgohlooelojfaa
open Go Go.RowKit

section
variable {w wf w1 : World} {gp gs : Nat} {A : Option Addr} {c : Nat} {l u : List To} {s : SF} {ks : List XT} {vk : Value}
set_option maxRecDepth 100000 in
set_option maxHeartbeats 8000000 in
theorem variable_any (h : SmW w wf gp gs A c l s ks vk w1 u) : Calls Try.prog 87 #[.pointer (some ⟨gp, 0, none⟩), .pointer (some ⟨gs, 0, none⟩)] w1 (SmR w wf gp gs A c l (varS s (xsd ks) u)) := by
  have H0 := Lib.hid (show SmZ w wf gp gs A c l s vk ks ks vk w1 u from h)
  obtain ⟨r, hr⟩ : ∃ r, varS s (xsd ks) u = r := ⟨_, rfl⟩
  rw [hr]
  have HR := Lib.hid (show r = takeK 1 u fun t v => (tyP v).bind fun ty w => if isS [61] w = true then valP ⟨1, s.ln, t.tx, s.fl, s.cl, ty⟩ (xsd ks) w.tail else .ok (⟨1, s.ln, t.tx, s.fl, s.cl, ty⟩, xsd ks) w from hr.symm)
  clear h hr
  have H1 := Lib.hid (H0.out.setKd 1)
  have q0 := H0.out.s.cell (j := 0) (by simp [SF.cs])
  have qf0 := H0.out.s.frozen 0
  simp only [SF.cs, List.getElem_cons_zero] at q0
  go_enter Try.func87, Try.ntmps87
  cases hk : isK 1 u
  · have HF := Lib.hid (HR.out.trans (takeK_no hk))
    have HN := Lib.hid (name_no H1.out.p hk)
    clear hk HR
    go_wp2_with fail
    refine HN.out.mono ?_
    rintro e w2 ⟨rfl, hp2, hg2⟩
    have hg9 := grown_trans H1.out.g hg2
    go_wp2_with fail
    exact ⟨rfl, SmR.bad' HF.out rfl hp2 hg9⟩
  · have HF := Lib.hid (HR.out.trans (takeK_yes hk))
    have HN := Lib.hid (name_yes H1.out.p hk)
    clear hk HR
    go_wp2_with fail
    refine HN.out.mono ?_
    rintro e w2 ⟨rfl, hp2, hg2⟩
    generalize hd u = t at *
    have hul := tail_le u
    have H2 := Lib.hid (H1.out.step hp2 hg2 hul)
    generalize u.tail = v at *
    have H3 := Lib.hid (H2.out.setNm t.tx)
    clear q0 qf0
    have q2 := H2.out.s.cell (j := 2) (by simp [SF.cs])
    have qf2 := H2.out.s.frozen 2
    simp only [SF.cs, List.getElem_cons_zero, List.getElem_cons_succ] at q2
    clear hp2 hg2 H1 HN
    have HT := Lib.hid (kind_any H3.out.p)
    go_wp2_with fail
    rcases hty : tyP v with ⟨ty, y⟩ | y | _
    · rw [hty] at HT
      have HG := Lib.hid (HF.out.trans (by rw [hty]; rfl : _ = (if isS [61] y = true then valP ⟨1, s.ln, t.tx, s.fl, s.cl, ty⟩ (xsd ks) y.tail else .ok (⟨1, s.ln, t.tx, s.fl, s.cl, ty⟩, xsd ks) y)))
      have hyl := tyP_len hty
      refine HT.out.mono ?_
      rintro e w3 ⟨rfl, hp3, hg3⟩
      have H4 := Lib.hid (H3.out.step hp3 hg3 (by omega))
      have H5 := Lib.hid (H4.out.setTy ty)
      clear q2 qf2
      have q5 := H4.out.s.cell (j := 5) (by simp [SF.cs])
      have qf5 := H4.out.s.frozen 5
      have q6 := H4.out.s.cell (j := 6) (by simp [SF.cs])
      have qf6 := H4.out.s.frozen 6
      have q7 := H4.out.s.cell (j := 7) (by simp [SF.cs])
      have qf7 := H4.out.s.frozen 7
      simp only [SF.cs, List.getElem_cons_zero, List.getElem_cons_succ] at q5 q6 q7
      unfold tyV tyS
      obtain ⟨tk, tn, tm⟩ := ty
      clear hp3 hg3 hty HF HT H3 H2
      go_wp2_with fail
      obtain ⟨W5, hW5⟩ : ∃ W5, ((w3.setCell ⟨gs, 5, none⟩ (.int .u8 tk)).setCell ⟨gs, 6, none⟩ (.int .i64 tn)).setCell ⟨gs, 7, none⟩ (.string (str tm)) = W5 := ⟨_, rfl⟩
      (try dsimp only at H5)
      rw [hW5] at H5 ⊢
      clear q5 qf5 q6 qf6 q7 qf7
      clear hW5
      refine wp_region_held_drew (S := fun W9 => True) (by kernel_rfl) (trivial) (fun hHeld => ?_)
      refine heldTake (i := 0) (d := some 19) (v := ?_) rfl rfl (by kernel_rfl) (by kernel_rfl) (by kernel_rfl) (fun _ _ _ h => h) (by kernel_rfl) ?hyq_1 (by assumption) ?restq_1
      case hyq_1 => (intro W9 hSw; (try dsimp only at hSw); go_simp; try (with_reducible rfl))
      (try simp only [Act.put, List.setIfInBounds_toArray, List.set_cons_zero, List.set_cons_succ])
      refine heldTake (i := 1) (d := some 20) (v := ?_) rfl rfl (by kernel_rfl) (by kernel_rfl) (by kernel_rfl) (fun _ _ _ h => h) (by kernel_rfl) ?hyq_2 (by assumption) ?restq_2
      case hyq_2 => (intro W9 hSw; (try dsimp only at hSw); go_simp; try (with_reducible rfl))
      (try simp only [Act.put, List.setIfInBounds_toArray, List.set_cons_zero, List.set_cons_succ])
      refine heldTake (i := 2) (d := some 21) (v := ?_) rfl rfl (by kernel_rfl) (by kernel_rfl) (by kernel_rfl) (fun _ _ _ h => h) (by kernel_rfl) ?hyq_3 (by assumption) ?restq_3
      case hyq_3 => (intro W9 hSw; (try dsimp only at hSw); go_simp; try (with_reducible rfl))
      (try simp only [Act.put, List.setIfInBounds_toArray, List.set_cons_zero, List.set_cons_succ])
      refine wpAnyH_ready (rs := [3]) (by kernel_rfl) (by simp) ?_
      refine AllReadyH.cons rfl (fun K hK => ?_) AllReadyH.nil
      go_simp
      go_at_call 60
      refine (sign_any [61] _).mono ?_
      rintro e9 X ⟨rfl, hbX⟩
      have H6x := Lib.hid (H5.out.drew.below hbX)
      clear hbX
      go_wp2_with fail
      refine hK.out _ _ trivial (fun hHeld => ?_)
      clear hK K
      (try simp only [Act.put, List.setIfInBounds_toArray, List.set_cons_zero, List.set_cons_succ])
      refine wpAnyH_ready (rs := [4]) (by kernel_rfl) (by simp) ?_
      refine AllReadyH.cons rfl (fun K hK => ?_) AllReadyH.nil
      go_simp
      go_at_call 61
      refine (takeT_any H6x.out.p 4 [61] (by decide)).mono ?_
      rintro e9 Y ⟨rfl, hpY, hgY⟩
      have H6 := Lib.hid (H6x.out.step hpY hgY (stp_len _ _ _))
      clear hpY hgY H6x
      go_wp2_with fail
      refine hK.out _ _ trivial (fun hHeld => ?_)
      clear hK K
      (try simp only [Act.put, List.setIfInBounds_toArray, List.set_cons_zero, List.set_cons_succ])
      refine wpAnyH_done (by kernel_rfl) ?_ _
      cases hq : isT 4 [61] y
      · rw [stp_no hq] at H6
        have HE := Lib.hid (HG.out.trans (if_neg (by show ¬ isT 4 [61] y = true; rw [hq]; decide)))
        go_wp2_with fail
        refine bodyPost_end (results_none rfl _ _ _) rfl ?_
        exact SmR.ok' HE.out rfl rfl H6.out
      · rw [stp_yes hq] at H6
        have HE := Lib.hid (HG.out.trans (if_pos hq))
        have HV := Lib.hid (value_any H6.out)
        go_wp2_with fail
        rcases hx : exP y.tail with ⟨x, z⟩ | z | _
        · rw [valP_ok hx] at HE HV
          refine HV.out.mono ?_
          rintro e w6 ⟨rfl, ks2, vk2, hk2, hS⟩
          have HS := Lib.hid hS.out
          clear hS
          go_wp2_with fail
          refine bodyPost_end (results_none rfl _ _ _) rfl ?_
          exact SmR.ok' HE.out rfl hk2 HS.out
        · rw [valP_bad hx] at HE HV
          refine HV.out.mono ?_
          rintro e w6 ⟨rfl, hp6, hg6⟩
          go_wp2_with fail
          exact ⟨rfl, SmR.bad' HE.out rfl hp6 hg6⟩
        · exact absurd hx (exP_ne _)
    · rw [hty] at HT
      have HG := Lib.hid (HF.out.trans (by rw [hty]; rfl : _ = .bad y))
      refine HT.out.mono ?_
      rintro e w3 ⟨rfl, hp3, hg3⟩
      have hg9 := grown_trans H3.out.g hg3
      go_wp2_with fail
      exact ⟨rfl, SmR.bad' HG.out rfl hp3 hg9⟩
    · exact absurd hty (tyP_out _)
end
end Go.Proofs.Ytcgohlooelojfaa
