/-
  Merged for a claim: S1B.
-/
import Derived.Test.YtjllbacefbjjaaaZJ16
import Derived.Deep.CutRange
namespace Go.Proofs.Ytjllbacefbjjaaa
open Go Go.RowKit

theorem ndk_yes {kd : Int} {s : List UInt8} {u : List To} (h : isT kd s u = true) : ndP [⟨kd, s, 0, 0⟩] u = .ok () u.tail := by
 rw [ndP, if_pos h]
 rfl
theorem ndk_no {kd : Int} {s : List UInt8} {u : List To} (h : isT kd s u = false) : ndP [⟨kd, s, 0, 0⟩] u = .bad u := by
 rw [ndP, if_neg (by rw [h]; decide)]
theorem two_kdg (k1 k2 : Int) (h1 : k1 ≠ 0) (h2 : k2 ≠ 0) (s t : List UInt8) : ∀ x ∈ [(⟨k1, s, 0, 0⟩ : To), ⟨k2, t, 0, 0⟩], x.kd ≠ 0 := by
 intro x hx
 rcases List.mem_cons.1 hx with rfl | hx
 · exact h1
 · rw [List.mem_singleton.1 hx]
   exact h2
theorem nd2k (a b : List UInt8) (u : List To) {α : Type} (f : List To → R α) : takeW a u (fun v => takeS b v f) = (ndP [⟨3, a, 0, 0⟩, ⟨4, b, 0, 0⟩] u).bind fun _ w => f w := by
 unfold takeW takeS isS isW
 rw [ndP]
 by_cases h : isT 3 a u = true
 · rw [if_pos h, if_pos h, ndP]
   dsimp only
   by_cases h2 : isT 4 b u.tail = true
   · rw [if_pos h2, if_pos h2]
     rfl
   · rw [if_neg h2, if_neg h2]
     rfl
 · rw [if_neg h, if_neg h]
   rfl
theorem nd2k_len {k1 k2 : Int} {a b : List UInt8} {u v : List To} {x : Unit} (h : ndP [⟨k1, a, 0, 0⟩, ⟨k2, b, 0, 0⟩] u = .ok x v) : v.length + 2 ≤ u.length := by
 rw [ndP] at h
 split at h
 · rename_i h1
   rw [ndP] at h
   split at h
   · rename_i h2
     injection h with _ h
     subst h
     have := tail_len (isT_ne h1)
     have := tail_len (isT_ne h2)
     omega
   · cases h
 · cases h
theorem takeW_yes {α : Type} {tx : List UInt8} {u : List To} {f : List To → R α} (h : isT 3 tx u = true) : takeW tx u f = f u.tail := if_pos h
theorem takeW_no {α : Type} {tx : List UInt8} {u : List To} {f : List To → R α} (h : isT 3 tx u = false) : takeW tx u f = .bad u := if_neg (by show ¬ isT 3 tx u = true; rw [h]; decide)
def ScR (w : World) (gp : Nat) (A : Option Addr) (c : Nat) (l : List To) (r : R Sc) (e : Ending) (w' : World) : Prop := match r with
 | .ok s z => ∃ m : ScM, e = .returned (.agg m.cs.toArray) ∧ m.d = s ∧ m.Ok w' (fun g => w.heap.size ≤ g) ∧ Ps w' gp A c l z ∧ w.grownBy w' (some gp)
 | .bad z => e = .panicked misC ∧ Ps w' gp A c l z ∧ w.grownBy w' (some gp)
 | .out => False
section
variable {w W : World} {gp : Nat} {A : Option Addr} {c : Nat} {l u : List To}
theorem ScR.bad' {r : R Sc} {e : Ending} {z : List To} (hr : r = .bad z) (he : e = .panicked misC) (hp : Ps W gp A c l z) (hg : w.grownBy W (some gp)) : ScR w gp A c l r e W := by
 subst hr
 exact ⟨he, hp, hg⟩
theorem sc_size : (Try.prog.info? 69).map (·.size) = some 2 := by kernel_rfl
theorem sc_end {fn : Func} (hf : fn.results = #[.cell 2 69]) {tmps : Array Value} {gs : Nat} {nm : List UInt8} {A9 : Option Addr} {c9 : Nat} {fs : List (List UInt8)} {r : R Sc} (hp : tmps.getD 2 undef = .pointer (some ⟨gs, 0, none⟩))
 (h : RwW eSr 69 (fun v => [.string (str nm), v]) (fun _ => True) w gp gs A c l (.slice A9 fs.length c9) (.slice A9 fs.length c9) fs W u) (hrp : RowP eSr W (fun g => w.heap.size ≤ g) A9 c9 fs) (hr : r = .ok ⟨nm, fs⟩ u) :
 bodyPost Try.prog fn (ScR w gp A c l r) .ret { tmps := tmps, defers := [] } ((W.setCell ⟨gs, 0, none⟩ (.string (str nm))).setCell ⟨gs, 1, none⟩ (.slice A9 fs.length c9)) := by
 subst hr
 have hn := h.n
 have hb : Below w.heap.size W ((W.setCell ⟨gs, 0, none⟩ (.string (str nm))).setCell ⟨gs, 1, none⟩ (.slice A9 fs.length c9)) := ((Below.refl _ W).setCell (p := ⟨gs, 0, none⟩) hn.2.1 _).setCell (p := ⟨gs, 1, none⟩) hn.2.1 _
 have h1 : CAt ((W.setCell ⟨gs, 0, none⟩ (.string (str nm))).setCell ⟨gs, 1, none⟩ (.slice A9 fs.length c9)) gs 69 [.string (str nm), .slice A9 fs.length c9] := (h.s.set 0 _).set 1 _
 have h2 : ButT 69 W ((W.setCell ⟨gs, 0, none⟩ (.string (str nm))).setCell ⟨gs, 1, none⟩ (.slice A9 fs.length c9)) := (ButT.set (p := ⟨gs, 0, none⟩) ⟨_, _, h.s⟩ _).trans (ButT.set (p := ⟨gs, 1, none⟩) ⟨_, _, h.s.set 0 _⟩ _)
 exact bodyPost_ret (results_cell_row hf tmps _ gs _ _ _ _ hp h1 Try.underlying69 rfl sc_size) rfl ⟨⟨nm, A9, c9, fs⟩, rfl, rfl, RowP.keep hrp (fun g _ ht => h2 g _ ht (by decide)) (fun _ q => q), h.p.below hb hn.1, grown_new h.g hb⟩
set_option maxRecDepth 100000 in
set_option maxHeartbeats 16000000 in
theorem structure_any (hP : Ps w gp A c l u) : Calls Try.prog 36 #[.pointer (some ⟨gp, 0, none⟩)] w (ScR w gp A c l (scP u)) := by
 obtain ⟨r, hr⟩ : ∃ r, scP u = r := ⟨_, rfl⟩
 rw [hr]
 have HR := Lib.hid (show r = takeW wType u fun v => takeK 1 v fun t w => takeW wStruct w fun z => takeS [123] z fun y => (fldP (y.length + 1) y).bind fun l q => .ok ⟨t.tx, l⟩ q from hr.symm)
 have hb0 := below_lnew w (.cells #[.string ⟨#[]⟩, .slice none 0 0] 69)
 have H0 := Lib.hid (show RwW eSr 69 (fun v => [.string ⟨#[]⟩, v]) (fun _ => True) w gp w.heap.size A c l (.slice none 0 0) (.slice none 0 0) [] (w.alloc (.cells #[.string ⟨#[]⟩, .slice none 0 0] 69)) u from
  ⟨hP.next hb0, heap_alloc_new w _, El.Own.nil _ _, trivial, grown_below hb0 _, ⟨hP.lt, Nat.le_refl _, by have := hP.ulen; simpa using this⟩, fun _ _ _ q => q, by decide, by decide, by decide⟩)
 clear hr hb0 hP
 go_enter Try.func36, Try.ntmps36
 go_upto_region 1 with fail
 obtain ⟨w1, hw1⟩ : ∃ w1, w.alloc (.cells #[.string ⟨#[]⟩, .slice none 0 0] 69) = w1 := ⟨_, rfl⟩
 rw [hw1] at H0 ⊢
 clear hw1
 generalize hgs : w.heap.size = gs at *
 clear hgs
 cases hq : isT 3 [116, 121, 112, 101] u
 · have HE9 := Lib.hid (HR.out.trans (takeW_no hq))
   refine wp_region_held_drew (S := fun W9 => True) (by kernel_rfl) trivial (fun hHeld => ?_)
   have Knd := Lib.hid H0.out.drew
   refine heldTake (i := 0) (d := some 3) (v := ?_) rfl rfl (by kernel_rfl) (by kernel_rfl) (by kernel_rfl) (fun _ _ _ h => h) (by kernel_rfl) ?hyq_1 (by assumption) ?restq_1
   case hyq_1 => (intro W9 hSw; (try dsimp only at hSw); go_simp; try (with_reducible rfl))
   (try simp only [Act.put, nA, nB, nC])
   refine heldTake (i := 1) (d := some 4) (v := ?_) rfl rfl (by kernel_rfl) (by kernel_rfl) (by kernel_rfl) (fun _ _ _ h => h) (by kernel_rfl) ?hyq_2 (by assumption) ?restq_2
   case hyq_2 => (intro W9 hSw; (try dsimp only at hSw); go_simp; try (with_reducible rfl))
   (try simp only [Act.put, nA, nB, nC])
   refine heldTake (i := 2) (d := some 5) (v := ?_) rfl rfl (by kernel_rfl) (by kernel_rfl) (by kernel_rfl) (fun _ _ _ h => h) (by kernel_rfl) ?hyq_3 (by assumption) ?restq_3
   case hyq_3 => (intro W9 hSw; (try dsimp only at hSw); go_simp; try (with_reducible rfl))
   (try simp only [Act.put, nA, nB, nC])
   refine wpAnyH_ready (rs := [3]) (by kernel_rfl) (by simp) ?_
   refine AllReadyH.cons rfl (fun K hK => ?_) AllReadyH.nil
   go_simp
   go_at_call 35
   refine (word_any [116, 121, 112, 101] _).mono ?_
   rintro e9 X ⟨rfl, hbX⟩
   have Knx := Lib.hid (Knd.out.below hbX)
   clear hbX
   go_wp2_with fail
   refine hK.out _ _ trivial (fun hHeld => ?_)
   clear hK K
   (try simp only [Act.put, nA, nB, nC])
   refine wpAnyH_ready (rs := [4]) (by kernel_rfl) (by simp) ?_
   refine AllReadyH.cons rfl (fun K hK => ?_) AllReadyH.nil
   (try rw [if_pos (by kernel_rfl)])
   refine El.op_build1 eTo X 22 (.agg #[.int .u8 0, .string ⟨#[]⟩, .int .i64 0, .int .i64 0]) 40 Try.underlying22 tok_info rfl (by decide) (.tmp 6) rfl (tV ⟨3, [116, 121, 112, 101], 0, 0⟩) ⟨3, [116, 121, 112, 101], 0, 0⟩ rfl rfl ?_
   change K (Act.put _ (some 7) (.slice (some ⟨X.heap.size, 0, none⟩) 1 1)) (X.alloc (.cells (eTo.f ⟨3, [116, 121, 112, 101], 0, 0⟩).toArray 77))
   have hbY := below_lnew X (.cells (eTo.f ⟨3, [116, 121, 112, 101], 0, 0⟩).toArray 77)
   have hT9 := El.liesT_new eTo X [⟨3, [116, 121, 112, 101], 0, 0⟩] (eTo.f ⟨3, [116, 121, 112, 101], 0, 0⟩).toArray (fun i v h => by simpa [eTo, tS] using h)
   obtain ⟨Y, hY⟩ : ∃ Y, X.alloc (.cells (eTo.f ⟨3, [116, 121, 112, 101], 0, 0⟩).toArray 77) = Y := ⟨_, rfl⟩
   replace hT9 : eTo.LiesT (X.alloc (.cells (eTo.f ⟨3, [116, 121, 112, 101], 0, 0⟩).toArray 77)) (some ⟨X.heap.size, 0, none⟩) [⟨3, [116, 121, 112, 101], 0, 0⟩] := hT9
   rw [hY] at hbY hT9 ⊢
   have Kny := Lib.hid (Knx.out.below hbY)
   have HT9 := Lib.hid hT9
   clear hY hbY hT9
   refine hK.out _ _ trivial (fun hHeld => ?_)
   clear hK K
   (try simp only [Act.put, nA, nB, nC])
   refine wpAnyH_ready (rs := [5]) (by kernel_rfl) (by simp) ?_
   refine AllReadyH.cons rfl (fun K hK => ?_) AllReadyH.nil
   go_simp
   go_at_call 56
   refine (need_any Kny.out.p [⟨3, [116, 121, 112, 101], 0, 0⟩] (one_kd 3 (by decide) _) (some ⟨_, 0, none⟩) 1 HT9.out (by simp)).mono ?_
   rintro e9 Z hN
   rw [ndk_no hq] at hN
   obtain ⟨rfl, hpZ, hgZ⟩ := hN
   have hg9 := grown_trans Kny.out.g hgZ
   go_wp2_with fail
   exact ⟨rfl, ScR.bad' HE9.out rfl hpZ hg9⟩
 · have HF := Lib.hid (HR.out.trans (takeW_yes hq))
   refine wp_region_held_drew (S := fun W9 => True) (by kernel_rfl) trivial (fun hHeld => ?_)
   have H1d := Lib.hid H0.out.drew
   refine heldTake (i := 0) (d := some 3) (v := ?_) rfl rfl (by kernel_rfl) (by kernel_rfl) (by kernel_rfl) (fun _ _ _ h => h) (by kernel_rfl) ?hyq_4 (by assumption) ?restq_4
   case hyq_4 => (intro W9 hSw; (try dsimp only at hSw); go_simp; try (with_reducible rfl))
   (try simp only [Act.put, nA, nB, nC])
   refine heldTake (i := 1) (d := some 4) (v := ?_) rfl rfl (by kernel_rfl) (by kernel_rfl) (by kernel_rfl) (fun _ _ _ h => h) (by kernel_rfl) ?hyq_5 (by assumption) ?restq_5
   case hyq_5 => (intro W9 hSw; (try dsimp only at hSw); go_simp; try (with_reducible rfl))
   (try simp only [Act.put, nA, nB, nC])
   refine heldTake (i := 2) (d := some 5) (v := ?_) rfl rfl (by kernel_rfl) (by kernel_rfl) (by kernel_rfl) (fun _ _ _ h => h) (by kernel_rfl) ?hyq_6 (by assumption) ?restq_6
   case hyq_6 => (intro W9 hSw; (try dsimp only at hSw); go_simp; try (with_reducible rfl))
   (try simp only [Act.put, nA, nB, nC])
   refine wpAnyH_ready (rs := [3]) (by kernel_rfl) (by simp) ?_
   refine AllReadyH.cons rfl (fun K hK => ?_) AllReadyH.nil
   go_simp
   go_at_call 35
   refine (word_any [116, 121, 112, 101] _).mono ?_
   rintro e9 X ⟨rfl, hbX⟩
   have H1x := Lib.hid (H1d.out.below hbX)
   clear hbX
   go_wp2_with fail
   refine hK.out _ _ trivial (fun hHeld => ?_)
   clear hK K
   (try simp only [Act.put, nA, nB, nC])
   refine wpAnyH_ready (rs := [4]) (by kernel_rfl) (by simp) ?_
   refine AllReadyH.cons rfl (fun K hK => ?_) AllReadyH.nil
   (try rw [if_pos (by kernel_rfl)])
   refine El.op_build1 eTo X 22 (.agg #[.int .u8 0, .string ⟨#[]⟩, .int .i64 0, .int .i64 0]) 40 Try.underlying22 tok_info rfl (by decide) (.tmp 6) rfl (tV ⟨3, [116, 121, 112, 101], 0, 0⟩) ⟨3, [116, 121, 112, 101], 0, 0⟩ rfl rfl ?_
   change K (Act.put _ (some 7) (.slice (some ⟨X.heap.size, 0, none⟩) 1 1)) (X.alloc (.cells (eTo.f ⟨3, [116, 121, 112, 101], 0, 0⟩).toArray 77))
   have hbY := below_lnew X (.cells (eTo.f ⟨3, [116, 121, 112, 101], 0, 0⟩).toArray 77)
   have hT9 := El.liesT_new eTo X [⟨3, [116, 121, 112, 101], 0, 0⟩] (eTo.f ⟨3, [116, 121, 112, 101], 0, 0⟩).toArray (fun i v h => by simpa [eTo, tS] using h)
   obtain ⟨Y, hY⟩ : ∃ Y, X.alloc (.cells (eTo.f ⟨3, [116, 121, 112, 101], 0, 0⟩).toArray 77) = Y := ⟨_, rfl⟩
   replace hT9 : eTo.LiesT (X.alloc (.cells (eTo.f ⟨3, [116, 121, 112, 101], 0, 0⟩).toArray 77)) (some ⟨X.heap.size, 0, none⟩) [⟨3, [116, 121, 112, 101], 0, 0⟩] := hT9
   rw [hY] at hbY hT9 ⊢
   have H1y := Lib.hid (H1x.out.below hbY)
   have HT9 := Lib.hid hT9
   clear hY hbY hT9
   refine hK.out _ _ trivial (fun hHeld => ?_)
   clear hK K
   (try simp only [Act.put, nA, nB, nC])
   refine wpAnyH_ready (rs := [5]) (by kernel_rfl) (by simp) ?_
   refine AllReadyH.cons rfl (fun K hK => ?_) AllReadyH.nil
   go_simp
   go_at_call 56
   refine (need_any H1y.out.p [⟨3, [116, 121, 112, 101], 0, 0⟩] (one_kd 3 (by decide) _) (some ⟨_, 0, none⟩) 1 HT9.out (by simp)).mono ?_
   rintro e9 Z hN
   rw [ndk_yes hq] at hN
   obtain ⟨rfl, hpZ, hgZ⟩ := hN
   have H1 := Lib.hid (H1y.out.step hpZ hgZ (tail_le _))
   clear hpZ hgZ H1d H1x H1y HT9
   go_wp2_with fail
   refine hK.out _ _ trivial (fun hHeld => ?_)
   clear hK K
   (try simp only [Act.put, nA, nB, nC])
   refine wpAnyH_done (by kernel_rfl) ?_ _
   clear HR H0 hq
   generalize u.tail = u1 at *
   go_wp2_with fail
   cases hk : isK 1 u1
   · have HE9 := Lib.hid (HF.out.trans (takeK_no hk))
     refine (name_no H1.out.p hk).mono ?_
     rintro e w2 ⟨rfl, hp2, hg2⟩
     have hg9 := grown_trans H1.out.g hg2
     go_wp2_with fail
     exact ⟨rfl, ScR.bad' HE9.out rfl hp2 hg9⟩
   · have HF2 := Lib.hid (HF.out.trans (takeK_yes hk))
     refine (name_yes H1.out.p hk).mono ?_
     rintro e w2 ⟨rfl, hp2, hg2⟩
     have H2 := Lib.hid (H1.out.step hp2 hg2 (tail_le _))
     have q0 := H2.out.s.cell (j := 0) (by simp)
     have qf0 := H2.out.s.frozen 0
     simp only [List.getElem_cons_zero] at q0
     generalize (hd u1).tx = nm at *
     generalize u1.tail = u2 at *
     have H3 := Lib.hid (RwW.cell (cs' := fun v => [.string (str nm), v]) H2.out 0 (.string (str nm)) (.slice none 0 0) rfl)
     clear HF hk hp2 hg2 H1
     go_upto_region 3 with fail
     obtain ⟨W3, hW3⟩ : ∃ P9, w2.setCell ⟨gs, 0, none⟩ (.string (str nm)) = P9 := ⟨_, rfl⟩
     rw [hW3] at H3 ⊢
     clear hW3 q0 qf0 H2
     have HF3 := Lib.hid (HF2.out.trans (nd2k wStruct [123] u2 _))
     clear HF2
     refine wp_region_held_drew (S := fun W9 => True) (by kernel_rfl) trivial (fun hHeld => ?_)
     have K4 := Lib.hid H3.out.drew
     refine heldTake (i := 0) (d := some 14) (v := ?_) rfl rfl (by kernel_rfl) (by kernel_rfl) (by kernel_rfl) (fun _ _ _ h => h) (by kernel_rfl) ?hyq_7 (by assumption) ?restq_7
     case hyq_7 => (intro W9 hSw; (try dsimp only at hSw); go_simp; try (with_reducible rfl))
     (try simp only [Act.put, nA, nB, nC])
     refine heldTake (i := 1) (d := some 15) (v := ?_) rfl rfl (by kernel_rfl) (by kernel_rfl) (by kernel_rfl) (fun _ _ _ h => h) (by kernel_rfl) ?hyq_8 (by assumption) ?restq_8
     case hyq_8 => (intro W9 hSw; (try dsimp only at hSw); go_simp; try (with_reducible rfl))
     (try simp only [Act.put, nA, nB, nC])
     refine heldTake (i := 2) (d := some 16) (v := ?_) rfl rfl (by kernel_rfl) (by kernel_rfl) (by kernel_rfl) (fun _ _ _ h => h) (by kernel_rfl) ?hyq_9 (by assumption) ?restq_9
     case hyq_9 => (intro W9 hSw; (try dsimp only at hSw); go_simp; try (with_reducible rfl))
     (try simp only [Act.put, nA, nB, nC])
     refine wpAnyH_ready (rs := [3]) (by kernel_rfl) (by simp) ?_
     refine AllReadyH.cons rfl (fun K hK => ?_) AllReadyH.nil
     go_simp
     go_at_call 35
     refine (word_any [115, 116, 114, 117, 99, 116] _).mono ?_
     rintro e9 X ⟨rfl, hbX⟩
     have K5 := Lib.hid (K4.out.below hbX)
     clear hbX
     go_wp2_with fail
     refine hK.out _ _ trivial (fun hHeld => ?_)
     clear hK K
     (try simp only [Act.put, nA, nB, nC])
     refine wpAnyH_ready (rs := [4]) (by kernel_rfl) (by simp) ?_
     refine AllReadyH.cons rfl (fun K hK => ?_) AllReadyH.nil
     go_simp
     go_at_call 58
     refine (sign_any [123] _).mono ?_
     rintro e9 X ⟨rfl, hbX⟩
     have K6 := Lib.hid (K5.out.below hbX)
     clear hbX
     go_wp2_with fail
     refine hK.out _ _ trivial (fun hHeld => ?_)
     clear hK K
     (try simp only [Act.put, nA, nB, nC])
     refine wpAnyH_ready (rs := [5]) (by kernel_rfl) (by simp) ?_
     refine AllReadyH.cons rfl (fun K hK => ?_) AllReadyH.nil
     unfold tV tS
     go_simp
     have hb9 := fun W9 : World => below_lnew W9 (.cells #[.int .u8 3, .string (str [115, 116, 114, 117, 99, 116]), .int .i64 0, .int .i64 0, .int .u8 4, .string (str [123]), .int .i64 0, .int .i64 0] 77)
     have hT9 := fun W9 : World => El.liesT_new eTo W9 [⟨3, [115, 116, 114, 117, 99, 116], 0, 0⟩, ⟨4, [123], 0, 0⟩] #[.int .u8 3, .string (str [115, 116, 114, 117, 99, 116]), .int .i64 0, .int .i64 0, .int .u8 4, .string (str [123]), .int .i64 0, .int .i64 0] (fun i v h => by simpa [eTo, tS] using h)
     have K7 := Lib.hid (K6.out.below (hb9 _))
     refine hK.out _ _ trivial (fun hHeld => ?_)
     clear hK K
     (try simp only [Act.put, nA, nB, nC])
     refine wpAnyH_ready (rs := [6]) (by kernel_rfl) (by simp) ?_
     refine AllReadyH.cons rfl (fun K hK => ?_) AllReadyH.nil
     go_simp
     go_at_call 56
     refine (need_any K7.out.p [⟨3, [115, 116, 114, 117, 99, 116], 0, 0⟩, ⟨4, [123], 0, 0⟩] (two_kdg 3 4 (by decide) (by decide) _ _) (some ⟨_, 0, none⟩) 2 (hT9 _) (by simp)).mono ?_
     rintro e9 Y8 hN8
     rcases hnd : ndP [⟨3, [115, 116, 114, 117, 99, 116], 0, 0⟩, ⟨4, [123], 0, 0⟩] _ with ⟨_, z8⟩ | z8 | _
     · rw [hnd] at hN8
       have hlz := nd2k_len hnd
       have HE8 := Lib.hid (HF3.out.trans (congrArg (fun q => R.bind q _) hnd))
       obtain ⟨rfl, hpY8, hgY8⟩ := hN8
       have H4 := Lib.hid (K7.out.step hpY8 hgY8 (by omega))
       clear hpY8 hgY8 hnd K7 K6 K5 K4
       go_wp2_with fail
       refine hK.out _ _ trivial (fun hHeld => ?_)
       clear hK K
       (try simp only [Act.put, nA, nB, nC])
       refine wpAnyH_done (by kernel_rfl) ?_ _
       clear H3 HF3
       go_wp2_with fail
       go_loopw [] (fun wr => ∃ (n : Nat) (v : Value) (fs : List (List UInt8)) (u' : List To), u'.length < n ∧ Hid (r = (fldP n u').bind fun l q => .ok ⟨nm, fs ++ l⟩ q) ∧ Hid (RwW eSr 69 (fun v => [.string (str nm), v]) (fun _ => True) w gp gs A c l v v fs wr u')) (fun wr => lft wr gp l)
       case atStart => exact ⟨z8.length + 1, _, [], z8, Nat.lt_succ_self _, HE8, H4⟩
       case round =>
        clear HE8 H4
        obtain ⟨n5, v5, fs5, u5, hn5, HR5, HW5⟩ := hrel
        obtain ⟨m5, rfl⟩ : ∃ m, n5 = m + 1 := ⟨n5 - 1, by omega⟩
        obtain ⟨w5, rfl⟩ : ∃ z, z = wr := ⟨_, rfl⟩
        have HL5 := Lib.hid HW5.out.p.lft
        go_wp2_with fail
        refine wp_region_held_drew (S := fun W9 => True) (by kernel_rfl) (trivial) (fun hHeld => ?_)
        refine heldTake (i := 0) (d := some 21) (v := ?_) rfl rfl (by kernel_rfl) (by kernel_rfl) (by kernel_rfl) (fun _ _ _ h => h) (by kernel_rfl) ?hyq_10 (by assumption) ?restq_10
        case hyq_10 => (intro W9 hSw; (try dsimp only at hSw); go_simp; try (with_reducible rfl))
        (try simp only [Act.put, nA, nB, nC])
        refine heldTake (i := 1) (d := some 22) (v := ?_) rfl rfl (by kernel_rfl) (by kernel_rfl) (by kernel_rfl) (fun _ _ _ h => h) (by kernel_rfl) ?hyq_11 (by assumption) ?restq_11
        case hyq_11 => (intro W9 hSw; (try dsimp only at hSw); go_simp; try (with_reducible rfl))
        (try simp only [Act.put, nA, nB, nC])
        refine heldTake (i := 2) (d := some 23) (v := ?_) rfl rfl (by kernel_rfl) (by kernel_rfl) (by kernel_rfl) (fun _ _ _ h => h) (by kernel_rfl) ?hyq_12 (by assumption) ?restq_12
        case hyq_12 => (intro W9 hSw; (try dsimp only at hSw); go_simp; try (with_reducible rfl))
        (try simp only [Act.put, nA, nB, nC])
        refine wpAnyH_ready (rs := [3]) (by kernel_rfl) (by simp) ?_
        refine AllReadyH.cons rfl (fun K hK => ?_) AllReadyH.nil
        go_simp
        go_at_call 58
        refine (sign_any [125] _).mono ?_
        rintro e9 X ⟨rfl, hbX⟩
        have H5x := Lib.hid (HW5.out.drew.below hbX)
        clear hbX
        go_wp2_with fail
        refine hK.out _ _ trivial (fun hHeld => ?_)
        clear hK K
        (try simp only [Act.put, nA, nB, nC])
        refine wpAnyH_ready (rs := [4]) (by kernel_rfl) (by simp) ?_
        refine AllReadyH.cons rfl (fun K hK => ?_) AllReadyH.nil
        go_simp
        go_at_call 59
        refine (takeT_any H5x.out.p 4 [125] (by decide)).mono ?_
        rintro e9 Y ⟨rfl, hpY, hgY⟩
        have H5 := Lib.hid (H5x.out.step hpY hgY (stp_len _ _ _))
        clear hpY hgY H5x
        go_wp2_with fail
        refine hK.out _ _ trivial (fun hHeld => ?_)
        clear hK K
        (try simp only [Act.put, nA, nB, nC])
        refine heldTake (i := 5) (d := some 26) (v := ?_) rfl rfl (by kernel_rfl) (by kernel_rfl) (by kernel_rfl) (fun _ _ _ h => h) (by kernel_rfl) ?hyq_13 (by assumption) ?restq_13
        case hyq_13 => (intro W9 hSw; (try dsimp only at hSw); go_simp; try (with_reducible rfl))
        (try simp only [Act.put, nA, nB, nC])
        refine wpAnyH_done (by kernel_rfl) ?_ _
        cases hq : isT 4 [125] u5
        · rw [stp_no hq] at H5
          have HF5 := Lib.hid (show r = (takeK 1 u5 fun t v => takeW wInt v fun w => takeS [59] w fun z => (fldP m5 z).bind fun l y => .ok (t.tx :: l) y).bind fun l q => .ok ⟨nm, fs5 ++ l⟩ q from by rw [HR5.out, fldP, if_neg (by show ¬ isT 4 [125] u5 = true; rw [hq]; decide)])
          clear HR5 HW5 hq
          go_upto_region 5 with fail
          obtain ⟨W5, rfl⟩ : ∃ z, z = Y := ⟨_, rfl⟩
          cases hk : isK 1 u5
          · have HE9 := Lib.hid (show r = .bad u5 by rw [HF5.out, takeK_no hk]; rfl)
            refine wp_region_held_drew (S := fun W9 => True) (by kernel_rfl) (trivial) (fun hHeld => ?_)
            have HK1 := Lib.hid H5.out.drew
            generalize W5.drew = Wd at *
            refine heldTake (i := 0) (d := some 27) (v := ?_) rfl rfl (by kernel_rfl) (by kernel_rfl) (by kernel_rfl) (fun _ _ _ h => h) (by kernel_rfl) ?hyq_14 (by assumption) ?restq_14
            case hyq_14 => (intro W9 hSw; (try dsimp only at hSw); go_simp; try (with_reducible rfl))
            (try simp only [Act.put, nA, nB, nC])
            refine heldTake (i := 2) (d := some 29) (v := ?_) rfl rfl (by kernel_rfl) (by kernel_rfl) (by kernel_rfl) (fun _ _ _ h => h) (by kernel_rfl) ?hyq_15 (by assumption) ?restq_15
            case hyq_15 => (intro W9 hSw; (try dsimp only at hSw); go_simp; try (with_reducible rfl))
            (try simp only [Act.put, nA, nB, nC])
            refine heldTake (i := 3) (d := some 30) (v := ?_) rfl rfl (by kernel_rfl) (by kernel_rfl) (by kernel_rfl) (fun _ _ _ h => h) (by kernel_rfl) ?hyq_16 (by assumption) ?restq_16
            case hyq_16 => (intro W9 hSw; (try dsimp only at hSw); go_simp; try (with_reducible rfl))
            (try simp only [Act.put, nA, nB, nC])
            refine heldTake (i := 4) (d := some 31) (v := ?_) rfl rfl (by kernel_rfl) (by kernel_rfl) (by kernel_rfl) (fun _ _ _ h => h) (by kernel_rfl) ?hyq_17 (by assumption) ?restq_17
            case hyq_17 => (intro W9 hSw; (try dsimp only at hSw); go_simp; try (with_reducible rfl))
            (try simp only [Act.put, nA, nB, nC])
            refine wpAnyH_ready (rs := [1, 5]) (by kernel_rfl) (by simp) ?_
            refine AllReadyH.cons rfl (fun K hK => ?_) (AllReadyH.cons rfl (fun K hK => ?_) AllReadyH.nil)
            · have ck2 := HK1.out.s.cell (j := 1) (by simp)
              simp only [List.getElem_cons_zero, List.getElem_cons_succ] at ck2
              go_simp
              refine hK.out _ _ (trivial) (fun hHeld => ?_)
              clear hK K
              (try simp only [Act.put, nA, nB, nC])
              clear ck2
              refine wpAnyH_ready (rs := [5]) (by kernel_rfl) (by simp) ?_
              refine AllReadyH.cons rfl (fun K hK => ?_) AllReadyH.nil
              go_simp
              go_at_call 57
              refine (name_no HK1.out.p hk).mono ?_
              rintro e9 X3 ⟨rfl, hpX, hgX⟩
              have hg9 := grown_trans HK1.out.g hgX
              go_wp2_with fail
              exact ⟨rfl, ScR.bad' HE9.out rfl hpX hg9⟩
            · go_simp
              go_at_call 57
              refine (name_no HK1.out.p hk).mono ?_
              rintro e9 X4 ⟨rfl, hpX, hgX⟩
              have hg9 := grown_trans HK1.out.g hgX
              go_wp2_with fail
              exact ⟨rfl, ScR.bad' HE9.out rfl hpX hg9⟩
          · have HF6 := Lib.hid (show r = (ndP [⟨3, [105, 110, 116], 0, 0⟩, ⟨4, [59], 0, 0⟩] u5.tail).bind fun _ z => (fldP m5 z).bind fun l q => .ok ⟨nm, (fs5 ++ [(hd u5).tx]) ++ l⟩ q from by
             rw [HF5.out, takeK_yes hk, nd2k, R.bind_assoc]
             refine bind_cong fun _ z _ => ?_
             rw [R.bind_assoc]
             refine bind_cong fun l y _ => ?_
             rw [R.bind_ok, List.append_assoc]
             rfl)
            have hl5 : fs5.length + 1 + u5.tail.length ≤ l.length := by have := H5.out.n.2.2; have := tail_len (isK_ne hk); omega
            have hxl : fs5.length ≤ 1000000 := by have := H5.out.n.2.2; have := H5.out.p.n; omega
            clear HF5
            go_cut [] from 27 to 42 (fun wx => ∃ v9, Hid (RwW eSr 69 (fun v => [.string (str nm), v]) (fun _ => True) w gp gs A c l v9 v9 (fs5 ++ [(hd u5).tx]) wx u5.tail))
            case first =>
             refine wp_region_held_drew (S := fun W9 => True) (by kernel_rfl) (trivial) (fun hHeld => ?_)
             have HK5 := Lib.hid H5.out.drew
             generalize W5.drew = Wd at *
             refine heldTake (i := 0) (d := some 27) (v := ?_) rfl rfl (by kernel_rfl) (by kernel_rfl) (by kernel_rfl) (fun _ _ _ h => h) (by kernel_rfl) ?hyq_18 (by assumption) ?restq_18
             case hyq_18 => (intro W9 hSw; (try dsimp only at hSw); go_simp; try (with_reducible rfl))
             (try simp only [Act.put, nA, nB, nC])
             refine heldTake (i := 2) (d := some 29) (v := ?_) rfl rfl (by kernel_rfl) (by kernel_rfl) (by kernel_rfl) (fun _ _ _ h => h) (by kernel_rfl) ?hyq_19 (by assumption) ?restq_19
             case hyq_19 => (intro W9 hSw; (try dsimp only at hSw); go_simp; try (with_reducible rfl))
             (try simp only [Act.put, nA, nB, nC])
             refine heldTake (i := 3) (d := some 30) (v := ?_) rfl rfl (by kernel_rfl) (by kernel_rfl) (by kernel_rfl) (fun _ _ _ h => h) (by kernel_rfl) ?hyq_20 (by assumption) ?restq_20
             case hyq_20 => (intro W9 hSw; (try dsimp only at hSw); go_simp; try (with_reducible rfl))
             (try simp only [Act.put, nA, nB, nC])
             refine heldTake (i := 4) (d := some 31) (v := ?_) rfl rfl (by kernel_rfl) (by kernel_rfl) (by kernel_rfl) (fun _ _ _ h => h) (by kernel_rfl) ?hyq_21 (by assumption) ?restq_21
             case hyq_21 => (intro W9 hSw; (try dsimp only at hSw); go_simp; try (with_reducible rfl))
             (try simp only [Act.put, nA, nB, nC])
             refine wpAnyH_ready (rs := [1, 5]) (by kernel_rfl) (by simp) ?_
             refine AllReadyH.cons rfl (fun K hK => ?_) (AllReadyH.cons rfl (fun K hK => ?_) AllReadyH.nil)
             · have ck6 := HK5.out.s.cell (j := 1) (by simp)
               simp only [List.getElem_cons_zero, List.getElem_cons_succ] at ck6
               go_simp
               refine hK.out _ _ (trivial) (fun hHeld => ?_)
               clear hK K
               (try simp only [Act.put, nA, nB, nC])
               clear ck6
               refine wpAnyH_ready (rs := [5]) (by kernel_rfl) (by simp) ?_
               refine AllReadyH.cons rfl (fun K hK => ?_) AllReadyH.nil
               go_simp
               go_at_call 57
               refine (name_yes HK5.out.p hk).mono ?_
               rintro e9 X8 ⟨rfl, hpX, hgX⟩
               have HK7 := Lib.hid (HK5.out.step hpX hgX (tail_le _))
               clear hpX hgX
               go_wp2_with fail
               refine hK.out _ _ (trivial) (fun hHeld => ?_)
               clear hK K
               (try simp only [Act.put, nA, nB, nC])
               refine wpAnyH_ready (rs := [6]) (by kernel_rfl) (by simp) ?_
               refine AllReadyH.cons rfl (fun K hK => ?_) AllReadyH.nil
               (try rw [if_pos (by kernel_rfl)])
               refine El.op_build1 eSr X8 67 (.string ⟨#[]⟩) 16 Try.underlying67 sr_info rfl (by decide) (.tmp 32) rfl (.string (str (hd u5).tx)) (hd u5).tx rfl rfl ?_
               change K (Act.put _ (some 33) (.slice (some ⟨X8.heap.size, 0, none⟩) 1 1)) (X8.alloc (.cells #[.string (str (hd u5).tx)] 9))
               have hbY := below_lnew X8 (.cells #[.string (str (hd u5).tx)] 9)
               have HB11 := Lib.hid (heap_alloc_new X8 (.cells #[.string (str (hd u5).tx)] 9))
               obtain ⟨Y10, hY⟩ : ∃ Y, X8.alloc (.cells #[.string (str (hd u5).tx)] 9) = Y := ⟨_, rfl⟩
               rw [hY] at hbY HB11 ⊢
               have HK9 := Lib.hid (HK7.out.below hbY)
               clear hY hbY
               refine hK.out _ _ (trivial) (fun hHeld => ?_)
               clear hK K
               (try simp only [Act.put, nA, nB, nC])
               refine wpAnyH_ready (rs := [7]) (by kernel_rfl) (by simp) ?_
               refine AllReadyH.cons rfl (fun K hK => ?_) AllReadyH.nil
               (try rw [if_pos (by kernel_rfl)])
               refine El.op_app1x eSr Y10 67 (.string ⟨#[]⟩) 16 Try.underlying67 sr_info rfl (by decide) (by decide) (.tmp 28) (.tmp 33) rfl w.heap.size v5 fs5 rfl HK9.out.r X8.heap.size 1 (hd u5).tx rfl 9 HB11.out hxl HK9.out.g.size ?_
               intro v9 Z12 ho9 hg9 hk9
               obtain ⟨g9, c9, rfl⟩ := El.Own.at0 ho9 (by simp)
               have hl9 : (fs5 ++ [(hd u5).tx]).length = fs5.length + 1 := by simp
               have HK13 := Lib.hid (RwW.app (X' := fun _ => True) HK9.out hg9 ho9 hl5 (trivial) (fun _ _ _ q => q))
               change K (Act.put _ (some 34) (.slice (some ⟨g9, 0, none⟩) (fs5 ++ [(hd u5).tx]).length c9)) Z12
               rw [hl9]
               rw [hl9] at HK13
               clear ho9 hg9 hk9
               refine hK.out _ _ (trivial) (fun hHeld => ?_)
               clear hK K
               (try simp only [Act.put, nA, nB, nC])
               refine heldTake (i := 8) (d := some 35) (v := ?_) rfl rfl (by kernel_rfl) (by kernel_rfl) (by kernel_rfl) (fun _ _ _ h => h) (by kernel_rfl) ?hyq_22 (by assumption) ?restq_22
               case hyq_22 => (intro W9 hSw; (try dsimp only at hSw); go_simp; try (with_reducible rfl))
               (try simp only [Act.put, nA, nB, nC])
               refine wpAnyH_ready (rs := [9]) (by kernel_rfl) (by simp) ?_
               refine AllReadyH.cons rfl (fun K hK => ?_) AllReadyH.nil
               have ck16 := HK13.out.s.cell (j := 1) (by simp)
               have ck16f := HK13.out.s.frozen 1
               simp only [List.getElem_cons_zero, List.getElem_cons_succ] at ck16
               have HK14 := Lib.hid (RwW.cell (cs' := fun v => [.string (str nm), v]) HK13.out 1 (.slice (some ⟨g9, 0, none⟩) (fs5.length + 1) c9) (.slice (some ⟨g9, 0, none⟩) (fs5.length + 1) c9) rfl)
               go_simp
               obtain ⟨P15, hP9⟩ : ∃ P9, Z12.setCell ⟨gs, 1, none⟩ (.slice (some ⟨g9, 0, none⟩) (fs5.length + 1) c9) = P9 := ⟨_, rfl⟩
               rw [hP9] at HK14 ⊢
               clear hP9 ck16 ck16f
               refine hK.out _ _ (trivial) (fun hHeld => ?_)
               clear hK K
               (try simp only [Act.put, nA, nB, nC])
               refine wpAnyH_done (by kernel_rfl) ?_ _
               go_wp2_with fail
               go_meet
               exact ⟨_, HK14⟩
             · go_simp
               go_at_call 57
               refine (name_yes HK5.out.p hk).mono ?_
               rintro e9 X18 ⟨rfl, hpX, hgX⟩
               have HK17 := Lib.hid (HK5.out.step hpX hgX (tail_le _))
               clear hpX hgX
               go_wp2_with fail
               refine hK.out _ _ (trivial) (fun hHeld => ?_)
               clear hK K
               (try simp only [Act.put, nA, nB, nC])
               refine wpAnyH_ready (rs := [1, 6]) (by kernel_rfl) (by simp) ?_
               refine AllReadyH.cons rfl (fun K hK => ?_) (AllReadyH.cons rfl (fun K hK => ?_) AllReadyH.nil)
               · have ck19 := HK17.out.s.cell (j := 1) (by simp)
                 simp only [List.getElem_cons_zero, List.getElem_cons_succ] at ck19
                 go_simp
                 refine hK.out _ _ (trivial) (fun hHeld => ?_)
                 clear hK K
                 (try simp only [Act.put, nA, nB, nC])
                 clear ck19
                 refine wpAnyH_ready (rs := [6]) (by kernel_rfl) (by simp) ?_
                 refine AllReadyH.cons rfl (fun K hK => ?_) AllReadyH.nil
                 (try rw [if_pos (by kernel_rfl)])
                 refine El.op_build1 eSr X18 67 (.string ⟨#[]⟩) 16 Try.underlying67 sr_info rfl (by decide) (.tmp 32) rfl (.string (str (hd u5).tx)) (hd u5).tx rfl rfl ?_
                 change K (Act.put _ (some 33) (.slice (some ⟨X18.heap.size, 0, none⟩) 1 1)) (X18.alloc (.cells #[.string (str (hd u5).tx)] 9))
                 have hbY := below_lnew X18 (.cells #[.string (str (hd u5).tx)] 9)
                 have HB22 := Lib.hid (heap_alloc_new X18 (.cells #[.string (str (hd u5).tx)] 9))
                 obtain ⟨Y21, hY⟩ : ∃ Y, X18.alloc (.cells #[.string (str (hd u5).tx)] 9) = Y := ⟨_, rfl⟩
                 rw [hY] at hbY HB22 ⊢
                 have HK20 := Lib.hid (HK17.out.below hbY)
                 clear hY hbY
                 refine hK.out _ _ (trivial) (fun hHeld => ?_)
                 clear hK K
                 (try simp only [Act.put, nA, nB, nC])
                 refine wpAnyH_ready (rs := [7]) (by kernel_rfl) (by simp) ?_
                 refine AllReadyH.cons rfl (fun K hK => ?_) AllReadyH.nil
                 (try rw [if_pos (by kernel_rfl)])
                 refine El.op_app1x eSr Y21 67 (.string ⟨#[]⟩) 16 Try.underlying67 sr_info rfl (by decide) (by decide) (.tmp 28) (.tmp 33) rfl w.heap.size v5 fs5 rfl HK20.out.r X18.heap.size 1 (hd u5).tx rfl 9 HB22.out hxl HK20.out.g.size ?_
                 intro v9 Z23 ho9 hg9 hk9
                 obtain ⟨g9, c9, rfl⟩ := El.Own.at0 ho9 (by simp)
                 have hl9 : (fs5 ++ [(hd u5).tx]).length = fs5.length + 1 := by simp
                 have HK24 := Lib.hid (RwW.app (X' := fun _ => True) HK20.out hg9 ho9 hl5 (trivial) (fun _ _ _ q => q))
                 change K (Act.put _ (some 34) (.slice (some ⟨g9, 0, none⟩) (fs5 ++ [(hd u5).tx]).length c9)) Z23
                 rw [hl9]
                 rw [hl9] at HK24
                 clear ho9 hg9 hk9
                 refine hK.out _ _ (trivial) (fun hHeld => ?_)
                 clear hK K
                 (try simp only [Act.put, nA, nB, nC])
                 refine heldTake (i := 8) (d := some 35) (v := ?_) rfl rfl (by kernel_rfl) (by kernel_rfl) (by kernel_rfl) (fun _ _ _ h => h) (by kernel_rfl) ?hyq_23 (by assumption) ?restq_23
                 case hyq_23 => (intro W9 hSw; (try dsimp only at hSw); go_simp; try (with_reducible rfl))
                 (try simp only [Act.put, nA, nB, nC])
                 refine wpAnyH_ready (rs := [9]) (by kernel_rfl) (by simp) ?_
                 refine AllReadyH.cons rfl (fun K hK => ?_) AllReadyH.nil
                 have ck27 := HK24.out.s.cell (j := 1) (by simp)
                 have ck27f := HK24.out.s.frozen 1
                 simp only [List.getElem_cons_zero, List.getElem_cons_succ] at ck27
                 have HK25 := Lib.hid (RwW.cell (cs' := fun v => [.string (str nm), v]) HK24.out 1 (.slice (some ⟨g9, 0, none⟩) (fs5.length + 1) c9) (.slice (some ⟨g9, 0, none⟩) (fs5.length + 1) c9) rfl)
                 go_simp
                 obtain ⟨P26, hP9⟩ : ∃ P9, Z23.setCell ⟨gs, 1, none⟩ (.slice (some ⟨g9, 0, none⟩) (fs5.length + 1) c9) = P9 := ⟨_, rfl⟩
                 rw [hP9] at HK25 ⊢
                 clear hP9 ck27 ck27f
                 refine hK.out _ _ (trivial) (fun hHeld => ?_)
                 clear hK K
                 (try simp only [Act.put, nA, nB, nC])
                 refine wpAnyH_done (by kernel_rfl) ?_ _
                 go_wp2_with fail
                 go_meet
                 exact ⟨_, HK25⟩
               · (try rw [if_pos (by kernel_rfl)])
                 refine El.op_build1 eSr X18 67 (.string ⟨#[]⟩) 16 Try.underlying67 sr_info rfl (by decide) (.tmp 32) rfl (.string (str (hd u5).tx)) (hd u5).tx rfl rfl ?_
                 change K (Act.put _ (some 33) (.slice (some ⟨X18.heap.size, 0, none⟩) 1 1)) (X18.alloc (.cells #[.string (str (hd u5).tx)] 9))
                 have hbY := below_lnew X18 (.cells #[.string (str (hd u5).tx)] 9)
                 have HB30 := Lib.hid (heap_alloc_new X18 (.cells #[.string (str (hd u5).tx)] 9))
                 obtain ⟨Y29, hY⟩ : ∃ Y, X18.alloc (.cells #[.string (str (hd u5).tx)] 9) = Y := ⟨_, rfl⟩
                 rw [hY] at hbY HB30 ⊢
                 have HK28 := Lib.hid (HK17.out.below hbY)
                 clear hY hbY
                 refine hK.out _ _ (trivial) (fun hHeld => ?_)
                 clear hK K
                 (try simp only [Act.put, nA, nB, nC])
                 refine wpAnyH_ready (rs := [1]) (by kernel_rfl) (by simp) ?_
                 refine AllReadyH.cons rfl (fun K hK => ?_) AllReadyH.nil
                 have ck31 := HK28.out.s.cell (j := 1) (by simp)
                 simp only [List.getElem_cons_zero, List.getElem_cons_succ] at ck31
                 go_simp
                 refine hK.out _ _ (trivial) (fun hHeld => ?_)
                 clear hK K
                 (try simp only [Act.put, nA, nB, nC])
                 clear ck31
                 refine wpAnyH_ready (rs := [7]) (by kernel_rfl) (by simp) ?_
                 refine AllReadyH.cons rfl (fun K hK => ?_) AllReadyH.nil
                 (try rw [if_pos (by kernel_rfl)])
                 refine El.op_app1x eSr Y29 67 (.string ⟨#[]⟩) 16 Try.underlying67 sr_info rfl (by decide) (by decide) (.tmp 28) (.tmp 33) rfl w.heap.size v5 fs5 rfl HK28.out.r X18.heap.size 1 (hd u5).tx rfl 9 HB30.out hxl HK28.out.g.size ?_
                 intro v9 Z32 ho9 hg9 hk9
                 obtain ⟨g9, c9, rfl⟩ := El.Own.at0 ho9 (by simp)
                 have hl9 : (fs5 ++ [(hd u5).tx]).length = fs5.length + 1 := by simp
                 have HK33 := Lib.hid (RwW.app (X' := fun _ => True) HK28.out hg9 ho9 hl5 (trivial) (fun _ _ _ q => q))
                 change K (Act.put _ (some 34) (.slice (some ⟨g9, 0, none⟩) (fs5 ++ [(hd u5).tx]).length c9)) Z32
                 rw [hl9]
                 rw [hl9] at HK33
                 clear ho9 hg9 hk9
                 refine hK.out _ _ (trivial) (fun hHeld => ?_)
                 clear hK K
                 (try simp only [Act.put, nA, nB, nC])
                 refine heldTake (i := 8) (d := some 35) (v := ?_) rfl rfl (by kernel_rfl) (by kernel_rfl) (by kernel_rfl) (fun _ _ _ h => h) (by kernel_rfl) ?hyq_24 (by assumption) ?restq_24
                 case hyq_24 => (intro W9 hSw; (try dsimp only at hSw); go_simp; try (with_reducible rfl))
                 (try simp only [Act.put, nA, nB, nC])
                 refine wpAnyH_ready (rs := [9]) (by kernel_rfl) (by simp) ?_
                 refine AllReadyH.cons rfl (fun K hK => ?_) AllReadyH.nil
                 have ck36 := HK33.out.s.cell (j := 1) (by simp)
                 have ck36f := HK33.out.s.frozen 1
                 simp only [List.getElem_cons_zero, List.getElem_cons_succ] at ck36
                 have HK34 := Lib.hid (RwW.cell (cs' := fun v => [.string (str nm), v]) HK33.out 1 (.slice (some ⟨g9, 0, none⟩) (fs5.length + 1) c9) (.slice (some ⟨g9, 0, none⟩) (fs5.length + 1) c9) rfl)
                 go_simp
                 obtain ⟨P35, hP9⟩ : ∃ P9, Z32.setCell ⟨gs, 1, none⟩ (.slice (some ⟨g9, 0, none⟩) (fs5.length + 1) c9) = P9 := ⟨_, rfl⟩
                 rw [hP9] at HK34 ⊢
                 clear hP9 ck36 ck36f
                 refine hK.out _ _ (trivial) (fun hHeld => ?_)
                 clear hK K
                 (try simp only [Act.put, nA, nB, nC])
                 refine wpAnyH_done (by kernel_rfl) ?_ _
                 go_wp2_with fail
                 go_meet
                 exact ⟨_, HK34⟩
            case rest =>
             obtain ⟨v9, H6⟩ := hcut
             obtain ⟨W6, rfl⟩ : ∃ q, q = wc := ⟨_, rfl⟩
             have hut := tail_len (isK_ne hk)
             clear H5 hk hl5 hxl
             go_wp2_with fail
             refine wp_region_held_drew (S := fun W9 => True) (by kernel_rfl) trivial (fun hHeld => ?_)
             have K4 := Lib.hid H6.out.drew
             refine heldTake (i := 0) (d := some 36) (v := ?_) rfl rfl (by kernel_rfl) (by kernel_rfl) (by kernel_rfl) (fun _ _ _ h => h) (by kernel_rfl) ?hyq_25 (by assumption) ?restq_25
             case hyq_25 => (intro W9 hSw; (try dsimp only at hSw); go_simp; try (with_reducible rfl))
             (try simp only [Act.put, nA, nB, nC])
             refine heldTake (i := 1) (d := some 37) (v := ?_) rfl rfl (by kernel_rfl) (by kernel_rfl) (by kernel_rfl) (fun _ _ _ h => h) (by kernel_rfl) ?hyq_26 (by assumption) ?restq_26
             case hyq_26 => (intro W9 hSw; (try dsimp only at hSw); go_simp; try (with_reducible rfl))
             (try simp only [Act.put, nA, nB, nC])
             refine heldTake (i := 2) (d := some 38) (v := ?_) rfl rfl (by kernel_rfl) (by kernel_rfl) (by kernel_rfl) (fun _ _ _ h => h) (by kernel_rfl) ?hyq_27 (by assumption) ?restq_27
             case hyq_27 => (intro W9 hSw; (try dsimp only at hSw); go_simp; try (with_reducible rfl))
             (try simp only [Act.put, nA, nB, nC])
             refine wpAnyH_ready (rs := [3]) (by kernel_rfl) (by simp) ?_
             refine AllReadyH.cons rfl (fun K hK => ?_) AllReadyH.nil
             go_simp
             go_at_call 35
             refine (word_any [105, 110, 116] _).mono ?_
             rintro e9 X ⟨rfl, hbX⟩
             have K5 := Lib.hid (K4.out.below hbX)
             clear hbX
             go_wp2_with fail
             refine hK.out _ _ trivial (fun hHeld => ?_)
             clear hK K
             (try simp only [Act.put, nA, nB, nC])
             refine wpAnyH_ready (rs := [4]) (by kernel_rfl) (by simp) ?_
             refine AllReadyH.cons rfl (fun K hK => ?_) AllReadyH.nil
             go_simp
             go_at_call 58
             refine (sign_any [59] _).mono ?_
             rintro e9 X ⟨rfl, hbX⟩
             have K6 := Lib.hid (K5.out.below hbX)
             clear hbX
             go_wp2_with fail
             refine hK.out _ _ trivial (fun hHeld => ?_)
             clear hK K
             (try simp only [Act.put, nA, nB, nC])
             refine wpAnyH_ready (rs := [5]) (by kernel_rfl) (by simp) ?_
             refine AllReadyH.cons rfl (fun K hK => ?_) AllReadyH.nil
             unfold tV tS
             go_simp
             have hb9 := fun W9 : World => below_lnew W9 (.cells #[.int .u8 3, .string (str [105, 110, 116]), .int .i64 0, .int .i64 0, .int .u8 4, .string (str [59]), .int .i64 0, .int .i64 0] 77)
             have hT9 := fun W9 : World => El.liesT_new eTo W9 [⟨3, [105, 110, 116], 0, 0⟩, ⟨4, [59], 0, 0⟩] #[.int .u8 3, .string (str [105, 110, 116]), .int .i64 0, .int .i64 0, .int .u8 4, .string (str [59]), .int .i64 0, .int .i64 0] (fun i v h => by simpa [eTo, tS] using h)
             have K7 := Lib.hid (K6.out.below (hb9 _))
             refine hK.out _ _ trivial (fun hHeld => ?_)
             clear hK K
             (try simp only [Act.put, nA, nB, nC])
             refine wpAnyH_ready (rs := [6]) (by kernel_rfl) (by simp) ?_
             refine AllReadyH.cons rfl (fun K hK => ?_) AllReadyH.nil
             go_simp
             go_at_call 56
             refine (need_any K7.out.p [⟨3, [105, 110, 116], 0, 0⟩, ⟨4, [59], 0, 0⟩] (two_kdg 3 4 (by decide) (by decide) _ _) (some ⟨_, 0, none⟩) 2 (hT9 _) (by simp)).mono ?_
             rintro e9 Y8 hN8
             rcases hnd : ndP [⟨3, [105, 110, 116], 0, 0⟩, ⟨4, [59], 0, 0⟩] _ with ⟨_, z8⟩ | z8 | _
             · rw [hnd] at hN8
               have hlz := nd2k_len hnd
               have HE8 := Lib.hid (HF6.out.trans (congrArg (fun q => R.bind q _) hnd))
               obtain ⟨rfl, hpY8, hgY8⟩ := hN8
               have H7 := Lib.hid (K7.out.step hpY8 hgY8 (by omega))
               clear hpY8 hgY8 hnd K7 K6 K5 K4
               go_wp2_with fail
               refine hK.out _ _ trivial (fun hHeld => ?_)
               clear hK K
               (try simp only [Act.put, nA, nB, nC])
               refine wpAnyH_done (by kernel_rfl) ?_ _
               have HL7 := Lib.hid H7.out.p.lft
               go_wp2_with fail
               go_roundw
               case rel =>
                exact ⟨m5, _, _, z8, by omega, HE8, H7⟩
               case measure =>
                have h1 := HL5.out
                have h2 := HL7.out
                omega
             · rw [hnd] at hN8
               have HE8 : Hid (_ = R.bad z8) := Lib.hid (HF6.out.trans (congrArg (fun q => R.bind q _) hnd))
               obtain ⟨rfl, hpY8, hgY8⟩ := hN8
               have hg9 := grown_trans K7.out.g hgY8
               go_wp2_with fail
               exact ⟨rfl, ScR.bad' HE8.out rfl hpY8 hg9⟩
             · rw [hnd] at hN8
               exact hN8.elim
        · rw [stp_yes hq] at H5
          have HE := Lib.hid (show r = .ok ⟨nm, fs5⟩ u5.tail from by rw [HR5.out, fldP, if_pos (show isS [125] u5 = true from hq), R.bind_ok, List.append_nil])
          clear HR5 HW5 hq
          obtain ⟨A9, c9, hv9, hrp⟩ := H5.out.r.rowP
          have h5 := H5.out
          rw [hv9] at h5
          have HH := Lib.hid h5
          have HRP := Lib.hid hrp
          clear H5 h5 hrp hv9
          have q0 := HH.out.s.cell (j := 0) (by simp)
          have qf0 := HH.out.s.frozen 0
          have q1 := HH.out.s.cell (j := 1) (by simp)
          have qf1 := HH.out.s.frozen 1
          simp only [List.getElem_cons_zero, List.getElem_cons_succ] at q0 q1
          have hgs := HH.out.n
          go_wp2_with fail
          exact sc_end rfl rfl HH.out HRP.out (by rw [HE.out])
     · rw [hnd] at hN8
       have HE8 : Hid (_ = R.bad z8) := Lib.hid (HF3.out.trans (congrArg (fun q => R.bind q _) hnd))
       obtain ⟨rfl, hpY8, hgY8⟩ := hN8
       have hg9 := grown_trans K7.out.g hgY8
       go_wp2_with fail
       exact ⟨rfl, ScR.bad' HE8.out rfl hpY8 hg9⟩
     · rw [hnd] at hN8
       exact hN8.elim
end
end Go.Proofs.Ytjllbacefbjjaaa
