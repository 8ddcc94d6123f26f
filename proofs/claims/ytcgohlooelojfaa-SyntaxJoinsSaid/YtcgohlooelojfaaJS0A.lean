/-
  Merged for a claim: S0A.
-/
import Derived.Test.YtcgohlooelojfaaJSYZ
namespace Go.Proofs.Ytcgohlooelojfaa
open Go Go.RowKit

theorem hasC_any {w : World} {gp : Nat} {A : Option Addr} {c : Nat} {l u : List To} (h : Ps w gp A c l u) :
    Calls Try.prog 90 #[.pointer (some ⟨gp, 0, none⟩), tV ⟨4, [40], 0, 0⟩] w (fun e w' => e = .returned (.bool (isC u)) ∧ Below w.heap.size w w') := hasName_any h ⟨4, [40], 0, 0⟩ (by decide)
theorem two_kd4 (s t : List UInt8) : ∀ x ∈ [(⟨4, s, 0, 0⟩ : To), ⟨4, t, 0, 0⟩], x.kd ≠ 0 := by
  intro x hx
  rcases List.mem_cons.1 hx with rfl | hx
  · exact (by decide : (4 : Int) ≠ 0)
  · rw [List.mem_singleton.1 hx]
    exact (by decide : (4 : Int) ≠ 0)
theorem nd2 (a b : List UInt8) (u : List To) {α : Type} (f : List To → R α) : takeS a u (fun v => takeS b v f) = (ndP [⟨4, a, 0, 0⟩, ⟨4, b, 0, 0⟩] u).bind fun _ w => f w := by
  unfold takeS isS
  rw [ndP]
  by_cases h : isT 4 a u = true
  · rw [if_pos h, if_pos h, ndP]
    dsimp only
    by_cases h2 : isT 4 b u.tail = true
    · rw [if_pos h2, if_pos h2]
      rfl
    · rw [if_neg h2, if_neg h2]
      rfl
  · rw [if_neg h, if_neg h]
    rfl
theorem nd2_len {a b : List UInt8} {u v : List To} {x : Unit} (h : ndP [⟨4, a, 0, 0⟩, ⟨4, b, 0, 0⟩] u = .ok x v) : v.length ≤ u.length := by
  rw [ndP] at h
  split at h
  · rw [ndP] at h
    split at h
    · injection h with _ h
      subst h
      have := tail_le u
      have := tail_le u.tail
      omega
    · cases h
  · cases h
def setS (s : SF) (es : List Ex) (u : List To) : R PS :=
  if isW wInput u = true then takeS [40] u.tail fun v => takeS [41] v fun w => .ok (⟨9, s.ln, s.nm, s.fl, s.cl, s.ty⟩, es) w
  else if isC u = true then callS s es u
  else valP ⟨2, s.ln, s.nm, s.fl, s.cl, s.ty⟩ es u
section
variable {w wf w1 : World} {gp gs : Nat} {A : Option Addr} {c : Nat} {l u : List To} {s : SF} {ks : List XT} {vk : Value}
set_option maxRecDepth 100000 in
set_option maxHeartbeats 8000000 in
theorem set_any (h : SmW w wf gp gs A c l s ks vk w1 u) : Calls Try.prog 92 #[.pointer (some ⟨gp, 0, none⟩), .pointer (some ⟨gs, 0, none⟩)] w1 (SmR w wf gp gs A c l (setS s (xsd ks) u)) := by
  have H0 := Lib.hid (show SmZ w wf gp gs A c l s vk ks ks vk w1 u from h)
  obtain ⟨r, hr⟩ : ∃ r, setS s (xsd ks) u = r := ⟨_, rfl⟩
  rw [hr]
  have HR := Lib.hid (show r = if isW wInput u = true then takeS [40] u.tail fun v => takeS [41] v fun w => .ok (⟨9, s.ln, s.nm, s.fl, s.cl, s.ty⟩, xsd ks) w else if isC u = true then callS s (xsd ks) u else valP ⟨2, s.ln, s.nm, s.fl, s.cl, s.ty⟩ (xsd ks) u from hr.symm)
  clear h hr
  go_enter Try.func92, Try.ntmps92
  go_wp2_with fail
  refine wp_region_held_drew (S := fun W9 => True) (by kernel_rfl) (trivial) (fun hHeld => ?_)
  refine heldTake (i := 0) (d := some 11) (v := ?_) rfl rfl (by kernel_rfl) (by kernel_rfl) (by kernel_rfl) (fun _ _ _ h => h) (by kernel_rfl) ?hyq_1 (by assumption) ?restq_1
  case hyq_1 => (intro W9 hSw; (try dsimp only at hSw); go_simp; try (with_reducible rfl))
  (try simp only [Act.put, List.setIfInBounds_toArray, List.set_cons_zero, List.set_cons_succ])
  refine heldTake (i := 1) (d := some 12) (v := ?_) rfl rfl (by kernel_rfl) (by kernel_rfl) (by kernel_rfl) (fun _ _ _ h => h) (by kernel_rfl) ?hyq_2 (by assumption) ?restq_2
  case hyq_2 => (intro W9 hSw; (try dsimp only at hSw); go_simp; try (with_reducible rfl))
  (try simp only [Act.put, List.setIfInBounds_toArray, List.set_cons_zero, List.set_cons_succ])
  refine heldTake (i := 2) (d := some 13) (v := ?_) rfl rfl (by kernel_rfl) (by kernel_rfl) (by kernel_rfl) (fun _ _ _ h => h) (by kernel_rfl) ?hyq_3 (by assumption) ?restq_3
  case hyq_3 => (intro W9 hSw; (try dsimp only at hSw); go_simp; try (with_reducible rfl))
  (try simp only [Act.put, List.setIfInBounds_toArray, List.set_cons_zero, List.set_cons_succ])
  refine wpAnyH_ready (rs := [3]) (by kernel_rfl) (by simp) ?_
  refine AllReadyH.cons rfl (fun K hK => ?_) AllReadyH.nil
  go_simp
  go_at_call 37
  refine (word_any [105, 110, 112, 117, 116] _).mono ?_
  rintro e9 X ⟨rfl, hbX⟩
  have H1x := Lib.hid (H0.out.drew.below hbX)
  clear hbX
  go_wp2_with fail
  refine hK.out _ _ trivial (fun hHeld => ?_)
  clear hK K
  (try simp only [Act.put, List.setIfInBounds_toArray, List.set_cons_zero, List.set_cons_succ])
  refine wpAnyH_ready (rs := [4]) (by kernel_rfl) (by simp) ?_
  refine AllReadyH.cons rfl (fun K hK => ?_) AllReadyH.nil
  go_simp
  go_at_call 61
  refine (takeT_any H1x.out.p 3 [105, 110, 112, 117, 116] (by decide)).mono ?_
  rintro e9 Y ⟨rfl, hpY, hgY⟩
  have H1 := Lib.hid (H1x.out.step hpY hgY (stp_len _ _ _))
  clear hpY hgY H1x
  go_wp2_with fail
  refine hK.out _ _ trivial (fun hHeld => ?_)
  clear hK K
  (try simp only [Act.put, List.setIfInBounds_toArray, List.set_cons_zero, List.set_cons_succ])
  refine heldTake (i := 5) (d := some 10) (v := ?_) rfl rfl (by kernel_rfl) (by kernel_rfl) (by kernel_rfl) (fun _ _ _ h => h) (by kernel_rfl) ?hyq_4 (by assumption) ?restq_4
  case hyq_4 => (intro W9 hSw; (try dsimp only at hSw); go_simp; try (with_reducible rfl))
  (try simp only [Act.put, List.setIfInBounds_toArray, List.set_cons_zero, List.set_cons_succ])
  refine wpAnyH_done (by kernel_rfl) ?_ _
  cases hq : isT 3 [105, 110, 112, 117, 116] u
  · rw [stp_no hq] at H1
    have HF := Lib.hid (HR.out.trans (if_neg (by show ¬ isT 3 [105, 110, 112, 117, 116] u = true; rw [hq]; decide)))
    clear HR hq H0
    go_wp2_with fail
    refine wp_region_held_drew (S := fun W9 => True) (by kernel_rfl) (trivial) (fun hHeld => ?_)
    refine heldTake (i := 0) (d := some 27) (v := ?_) rfl rfl (by kernel_rfl) (by kernel_rfl) (by kernel_rfl) (fun _ _ _ h => h) (by kernel_rfl) ?hyq_5 (by assumption) ?restq_5
    case hyq_5 => (intro W9 hSw; (try dsimp only at hSw); go_simp; try (with_reducible rfl))
    (try simp only [Act.put, List.setIfInBounds_toArray, List.set_cons_zero, List.set_cons_succ])
    refine heldTake (i := 1) (d := some 28) (v := ?_) rfl rfl (by kernel_rfl) (by kernel_rfl) (by kernel_rfl) (fun _ _ _ h => h) (by kernel_rfl) ?hyq_6 (by assumption) ?restq_6
    case hyq_6 => (intro W9 hSw; (try dsimp only at hSw); go_simp; try (with_reducible rfl))
    (try simp only [Act.put, List.setIfInBounds_toArray, List.set_cons_zero, List.set_cons_succ])
    refine heldTake (i := 2) (d := some 29) (v := ?_) rfl rfl (by kernel_rfl) (by kernel_rfl) (by kernel_rfl) (fun _ _ _ h => h) (by kernel_rfl) ?hyq_7 (by assumption) ?restq_7
    case hyq_7 => (intro W9 hSw; (try dsimp only at hSw); go_simp; try (with_reducible rfl))
    (try simp only [Act.put, List.setIfInBounds_toArray, List.set_cons_zero, List.set_cons_succ])
    refine wpAnyH_ready (rs := [3]) (by kernel_rfl) (by simp) ?_
    refine AllReadyH.cons rfl (fun K hK => ?_) AllReadyH.nil
    go_simp
    go_at_call 60
    refine (sign_any [40] _).mono ?_
    rintro e9 X ⟨rfl, hbX⟩
    have H2x := Lib.hid (H1.out.drew.below hbX)
    clear hbX
    go_wp2_with fail
    refine hK.out _ _ trivial (fun hHeld => ?_)
    clear hK K
    (try simp only [Act.put, List.setIfInBounds_toArray, List.set_cons_zero, List.set_cons_succ])
    refine wpAnyH_ready (rs := [4]) (by kernel_rfl) (by simp) ?_
    refine AllReadyH.cons rfl (fun K hK => ?_) AllReadyH.nil
    go_simp
    go_at_call 90
    refine (hasC_any H2x.out.p).mono ?_
    rintro e9 Y ⟨rfl, hbY⟩
    have H2 := Lib.hid (H2x.out.below hbY)
    clear hbY H2x
    go_wp2_with fail
    refine hK.out _ _ trivial (fun hHeld => ?_)
    clear hK K
    (try simp only [Act.put, List.setIfInBounds_toArray, List.set_cons_zero, List.set_cons_succ])
    refine heldTake (i := 5) (d := some 26) (v := ?_) rfl rfl (by kernel_rfl) (by kernel_rfl) (by kernel_rfl) (fun _ _ _ h => h) (by kernel_rfl) ?hyq_8 (by assumption) ?restq_8
    case hyq_8 => (intro W9 hSw; (try dsimp only at hSw); go_simp; try (with_reducible rfl))
    (try simp only [Act.put, List.setIfInBounds_toArray, List.set_cons_zero, List.set_cons_succ])
    refine wpAnyH_done (by kernel_rfl) ?_ _
    cases hc : isC u
    · have HE := Lib.hid (HF.out.trans (if_neg (by rw [hc]; decide)))
      have H3 := Lib.hid (H2.out.setKd 2)
      have HV := Lib.hid (value_any H3.out)
      have q0 := H2.out.s.cell (j := 0) (by simp [SF.cs])
      have qf0 := H2.out.s.frozen 0
      simp only [SF.cs, List.getElem_cons_zero] at q0
      clear HF hc H1
      go_wp2_with fail
      rcases hx9 : valP ⟨2, s.ln, s.nm, s.fl, s.cl, s.ty⟩ (xsd ks) u with ⟨y9, z9⟩ | z9 | _
      · rw [hx9] at HE HV
        refine HV.out.mono ?_
        rintro e w9 ⟨rfl, ks9, vk9, hk9, hS9⟩
        have HS9 := Lib.hid hS9.out
        clear hS9
        go_wp2_with fail
        refine bodyPost_end (results_none rfl _ _ _) rfl ?_
        exact SmR.ok' HE.out rfl hk9 HS9.out
      · rw [hx9] at HE HV
        refine HV.out.mono ?_
        rintro e w9 ⟨rfl, hp9, hg9⟩
        go_wp2_with fail
        exact ⟨rfl, SmR.bad' HE.out rfl hp9 hg9⟩
      · rw [hx9] at HV
        refine HV.out.mono ?_
        rintro e w9 h9
        exact h9.elim
    · have HE := Lib.hid (HF.out.trans (if_pos hc))
      have HV := Lib.hid (call_any H2.out)
      clear HF hc H1
      go_wp2_with fail
      rcases hx9 : callS s (xsd ks) u with ⟨y9, z9⟩ | z9 | _
      · rw [hx9] at HE HV
        refine HV.out.mono ?_
        rintro e w9 ⟨rfl, ks9, vk9, hk9, hS9⟩
        have HS9 := Lib.hid hS9.out
        clear hS9
        go_wp2_with fail
        refine bodyPost_end (results_none rfl _ _ _) rfl ?_
        exact SmR.ok' HE.out rfl hk9 HS9.out
      · rw [hx9] at HE HV
        refine HV.out.mono ?_
        rintro e w9 ⟨rfl, hp9, hg9⟩
        go_wp2_with fail
        exact ⟨rfl, SmR.bad' HE.out rfl hp9 hg9⟩
      · rw [hx9] at HV
        refine HV.out.mono ?_
        rintro e w9 h9
        exact h9.elim
  · rw [stp_yes hq] at H1
    have HF := Lib.hid ((HR.out.trans (if_pos hq)).trans (nd2 _ _ _ _))
    have H2 := Lib.hid (H1.out.setKd 9)
    have q0 := H1.out.s.cell (j := 0) (by simp [SF.cs])
    have qf0 := H1.out.s.frozen 0
    simp only [SF.cs, List.getElem_cons_zero] at q0
    clear HR hq H0
    go_wp2_with fail
    obtain ⟨W2, hW2⟩ : ∃ W2, Y.setCell ⟨gs, 0, none⟩ (.int .u8 9) = W2 := ⟨_, rfl⟩
    rw [hW2] at H2 ⊢
    clear hW2 H1
    clear q0 qf0
    refine wp_region_held_drew (S := fun W9 => True) (by kernel_rfl) trivial (fun hHeld => ?_)
    have K4 := Lib.hid H2.out.drew
    refine heldTake (i := 0) (d := some 19) (v := ?_) rfl rfl (by kernel_rfl) (by kernel_rfl) (by kernel_rfl) (fun _ _ _ h => h) (by kernel_rfl) ?hyq_9 (by assumption) ?restq_9
    case hyq_9 => (intro W9 hSw; (try dsimp only at hSw); go_simp; try (with_reducible rfl))
    (try simp only [Act.put, List.setIfInBounds_toArray, List.set_cons_zero, List.set_cons_succ])
    refine heldTake (i := 1) (d := some 20) (v := ?_) rfl rfl (by kernel_rfl) (by kernel_rfl) (by kernel_rfl) (fun _ _ _ h => h) (by kernel_rfl) ?hyq_10 (by assumption) ?restq_10
    case hyq_10 => (intro W9 hSw; (try dsimp only at hSw); go_simp; try (with_reducible rfl))
    (try simp only [Act.put, List.setIfInBounds_toArray, List.set_cons_zero, List.set_cons_succ])
    refine heldTake (i := 2) (d := some 21) (v := ?_) rfl rfl (by kernel_rfl) (by kernel_rfl) (by kernel_rfl) (fun _ _ _ h => h) (by kernel_rfl) ?hyq_11 (by assumption) ?restq_11
    case hyq_11 => (intro W9 hSw; (try dsimp only at hSw); go_simp; try (with_reducible rfl))
    (try simp only [Act.put, List.setIfInBounds_toArray, List.set_cons_zero, List.set_cons_succ])
    refine wpAnyH_ready (rs := [3]) (by kernel_rfl) (by simp) ?_
    refine AllReadyH.cons rfl (fun K hK => ?_) AllReadyH.nil
    go_simp
    go_at_call 60
    refine (sign_any [40] _).mono ?_
    rintro e9 X ⟨rfl, hbX⟩
    have K5 := Lib.hid (K4.out.below hbX)
    clear hbX
    go_wp2_with fail
    refine hK.out _ _ trivial (fun hHeld => ?_)
    clear hK K
    (try simp only [Act.put, List.setIfInBounds_toArray, List.set_cons_zero, List.set_cons_succ])
    refine wpAnyH_ready (rs := [4]) (by kernel_rfl) (by simp) ?_
    refine AllReadyH.cons rfl (fun K hK => ?_) AllReadyH.nil
    go_simp
    go_at_call 60
    refine (sign_any [41] _).mono ?_
    rintro e9 X ⟨rfl, hbX⟩
    have K6 := Lib.hid (K5.out.below hbX)
    clear hbX
    go_wp2_with fail
    refine hK.out _ _ trivial (fun hHeld => ?_)
    clear hK K
    (try simp only [Act.put, List.setIfInBounds_toArray, List.set_cons_zero, List.set_cons_succ])
    refine wpAnyH_ready (rs := [5]) (by kernel_rfl) (by simp) ?_
    refine AllReadyH.cons rfl (fun K hK => ?_) AllReadyH.nil
    unfold tV tS
    go_simp
    have hb9 := fun W9 : World => below_lnew W9 (.cells #[.int .u8 4, .string (str [40]), .int .i64 0, .int .i64 0, .int .u8 4, .string (str [41]), .int .i64 0, .int .i64 0] 79)
    have hT9 := fun W9 : World => El.liesT_new eTo W9 [⟨4, [40], 0, 0⟩, ⟨4, [41], 0, 0⟩] #[.int .u8 4, .string (str [40]), .int .i64 0, .int .i64 0, .int .u8 4, .string (str [41]), .int .i64 0, .int .i64 0] (fun i v h => by simpa [eTo, tS] using h)
    have K7 := Lib.hid (K6.out.below (hb9 _))
    refine hK.out _ _ trivial (fun hHeld => ?_)
    clear hK K
    (try simp only [Act.put, List.setIfInBounds_toArray, List.set_cons_zero, List.set_cons_succ])
    refine wpAnyH_ready (rs := [6]) (by kernel_rfl) (by simp) ?_
    refine AllReadyH.cons rfl (fun K hK => ?_) AllReadyH.nil
    go_simp
    go_at_call 58
    refine (need_any K7.out.p [⟨4, [40], 0, 0⟩, ⟨4, [41], 0, 0⟩] (two_kd4 _ _) (some ⟨_, 0, none⟩) 2 (hT9 _) (by simp)).mono ?_
    rintro e9 Y8 hN8
    rcases hnd : ndP [⟨4, [40], 0, 0⟩, ⟨4, [41], 0, 0⟩] _ with ⟨_, z8⟩ | z8 | _
    · rw [hnd] at hN8
      have hlz := nd2_len hnd
      have HE8 := Lib.hid (HF.out.trans (congrArg (fun q => R.bind q _) hnd))
      obtain ⟨rfl, hpY8, hgY8⟩ := hN8
      have H3 := Lib.hid (K7.out.step hpY8 hgY8 hlz)
      clear hpY8 hgY8 hnd hlz K7 K6 K5
      go_wp2_with fail
      refine hK.out _ _ trivial (fun hHeld => ?_)
      clear hK K
      (try simp only [Act.put, List.setIfInBounds_toArray, List.set_cons_zero, List.set_cons_succ])
      refine wpAnyH_done (by kernel_rfl) ?_ _
      go_wp2_with fail
      refine bodyPost_end (results_none rfl _ _ _) rfl ?_
      exact SmR.ok' HE8.out rfl rfl H3.out
    · rw [hnd] at hN8
      have HE8 : Hid  (_ = R.bad z8) := Lib.hid (HF.out.trans (congrArg (fun q => R.bind q _) hnd))
      obtain ⟨rfl, hpY8, hgY8⟩ := hN8
      have hg9 := grown_trans K7.out.g hgY8
      go_wp2_with fail
      exact ⟨rfl, SmR.bad' HE8.out rfl hpY8 hg9⟩
    · rw [hnd] at hN8
      exact hN8.elim
end
end Go.Proofs.Ytcgohlooelojfaa
