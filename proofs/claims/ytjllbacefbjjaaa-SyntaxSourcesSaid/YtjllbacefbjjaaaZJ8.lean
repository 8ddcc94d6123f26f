/-
  Merged for a claim: SYN, KR.
-/
import Derived.Test.YtjllbacefbjjaaaZJ7
import Derived.Test.YtjllbacefbjjaaaProg
import Derived.OwnWalk
import Derived.Laws.Rows
import Derived.Laws.ResultCell
namespace Go.Proofs.Ytjllbacefbjjaaa
open Go Go.RowKit

def XR (w : World) (gp : Nat) (A : Option Addr) (c : Nat) (l : List To) (r : R Ex) (e : Ending) (w' : World) : Prop := match r with
 | .ok x v => ∃ t : XT, e = .returned (xV t) ∧ t.d = x ∧ t.Ok w' (fun g => w.heap.size ≤ g) ∧ Ps w' gp A c l v ∧ w.grownBy w' (some gp)
 | .bad v => e = .panicked misC ∧ Ps w' gp A c l v ∧ w.grownBy w' (some gp)
 | .out => False
def zE : List Value := [.int .u8 0, .int .i64 0, .string ⟨#[]⟩, .string ⟨#[]⟩, .string ⟨#[]⟩, .slice none 0 0]
structure LfW (w : World) (gp : Nat) (A : Option Addr) (c : Nat) (l : List To) (W : World) (u : List To) : Prop where
 p : Ps W gp A c l u
 z : CAt W w.heap.size 53 zE
 g : w.grownBy W (some gp)
 n : gp < w.heap.size
section
variable {w W W' : World} {gp : Nat} {A : Option Addr} {c : Nat} {l u u' : List To}
theorem LfW.new (h : Ps w gp A c l u) : LfW w gp A c l (w.alloc (.cells #[.int .u8 0, .int .i64 0, .string ⟨#[]⟩, .string ⟨#[]⟩, .string ⟨#[]⟩, .slice none 0 0] 53)) u :=
 ⟨h.next (below_lnew w _), heap_alloc_new w _, grown_below (below_lnew w _) _, h.lt⟩
theorem LfW.drew (h : LfW w gp A c l W u) : LfW w gp A c l W.drew u := ⟨h.p.next ((Below.refl _ W).drew), h.z, grown_trans h.g (grown_below ((Below.refl _ W).drew) _), h.n⟩
theorem LfW.below (h : LfW w gp A c l W u) (hb : Below W.heap.size W W') : LfW w gp A c l W' u := ⟨h.p.next hb, h.z.below hb h.z.lt, grown_trans h.g (grown_below hb _), h.n⟩
theorem LfW.step (h : LfW w gp A c l W u) (hp : Ps W' gp A c l u') (hg : W.grownBy W' (some gp)) : LfW w gp A c l W' u' :=
 ⟨hp, (hg.block _ h.z.lt (fun e => by injection e with e; have := h.n; omega)).trans h.z, grown_trans h.g hg, h.n⟩
theorem LfW.fin (h : LfW w gp A c l W u) (t : XT) (ho : t.Ok W (fun g => w.heap.size < g)) : XR w gp A c l (.ok t.d u) (.returned (xV t)) (setE W w.heap.size t) := by
 have hb := setE_below (W := W) (B := w.heap.size) (g := w.heap.size) t (Nat.le_refl _)
 exact ⟨t, rfl, rfl, XT.Ok.keep (fun g hg _ => setE_heap t (by omega)) (fun g hg => Nat.le_of_lt hg) t ho, h.p.below hb h.n, grown_new h.g hb⟩
end
theorem back_leaf {fn : Func} {gp c : Nat} {A : Option Addr} {l u : List To} {w W : World} (hf : fn.results = #[.cell 2 53]) {tmps : Array Value} (hp : tmps.getD 2 undef = .pointer (some ⟨w.heap.size, 0, none⟩)) (h : LfW w gp A c l W u) (t : XT) (ho : t.Ok W (fun g => w.heap.size < g)) (r : R Ex) (hr : r = .ok t.d u) :
 bodyPost Try.prog fn (XR w gp A c l r) .ret { tmps := tmps, defers := [] } (setE W w.heap.size t) := by
 subst hr
 exact bodyPost_ret (exp_back hf hp (setE_at t h.z)) rfl (h.fin t ho)
theorem leaf_d (kd nu : Int) (nm fl op : List UInt8) : (xLeaf kd nu nm fl op).d = .mk kd nu nm fl op [] := by
 unfold xLeaf
 rw [XT.d, xsd]
section
variable {w : World} {gp : Nat} {A : Option Addr} {c : Nat} {l u : List To}
theorem takeT_any {W : World} (h : Ps W gp A c l u) (kd : Int) (tx : List UInt8) (ht : kd ≠ 0) :
 Calls Try.prog 59 #[.pointer (some ⟨gp, 0, none⟩), tV ⟨kd, tx, 0, 0⟩] W (fun e w' => e = .returned (.bool (isT kd tx u)) ∧ Ps w' gp A c l (stp kd tx u) ∧ W.grownBy w' (some gp)) := take_any h ⟨kd, tx, 0, 0⟩ ht
set_option maxRecDepth 100000 in
set_option maxHeartbeats 4000000 in
theorem leaf_any (hP : Ps w gp A c l u) : Calls Try.prog 93 #[.pointer (some ⟨gp, 0, none⟩)] w (XR w gp A c l (leafP u)) := by
 have H0 := Lib.hid (LfW.new hP)
 have HLK := Lib.hid (look_any H0.out.p 0 (by omega))
 have hk2 := isK_hd (kd := 2) (u := u) (by decide)
 rw [List.drop_zero] at HLK
 obtain ⟨r, hr⟩ : ∃ r, leafP u = r := ⟨_, rfl⟩
 rw [hr]
 have HR := Lib.hid hr.symm
 have hf0 := tok_f0
 clear hP hr
 unfold tV tS at HLK
 go_enter Try.func93, Try.ntmps93
 go_wp2_with fail
 refine HLK.out.mono ?_
 rintro e w1 ⟨rfl, hb1⟩
 have H1 := Lib.hid (H0.out.below hb1)
 clear hb1 H0 HLK
 by_cases h2 : (hd u).kd = 2
 · have hi : isK 2 u = true := by rw [← hk2]; exact decide_eq_true h2
   have HN := Lib.hid (number_yes H1.out.p hi)
   have hz := H1.out.z
   unfold zE at hz
   have z0 := hz.cell (j := 0) (by simp)
   have zf0 := hz.frozen 0
   have z1 := hz.cell (j := 1) (by simp)
   have zf1 := hz.frozen 1
   have z2 := hz.cell (j := 2) (by simp)
   have zf2 := hz.frozen 2
   have z3 := hz.cell (j := 3) (by simp)
   have zf3 := hz.frozen 3
   have z4 := hz.cell (j := 4) (by simp)
   have zf4 := hz.frozen 4
   have z5 := hz.cell (j := 5) (by simp)
   have zf5 := hz.frozen 5
   simp only [List.getElem_cons_zero, List.getElem_cons_succ] at z0 z1 z2 z3 z4 z5
   have hzl := hz.lt
   clear hk2 hz
   go_wp2_with fail
   refine HN.out.mono ?_
   rintro e w2 ⟨rfl, hp2, hg2⟩
   have H2 := Lib.hid (H1.out.step hp2 hg2)
   have hz := H2.out.z
   unfold zE at hz
   have z0 := hz.cell (j := 0) (by simp)
   have zf0 := hz.frozen 0
   have z1 := hz.cell (j := 1) (by simp)
   have zf1 := hz.frozen 1
   have z2 := hz.cell (j := 2) (by simp)
   have zf2 := hz.frozen 2
   have z3 := hz.cell (j := 3) (by simp)
   have zf3 := hz.frozen 3
   have z4 := hz.cell (j := 4) (by simp)
   have zf4 := hz.frozen 4
   have z5 := hz.cell (j := 5) (by simp)
   have zf5 := hz.frozen 5
   simp only [List.getElem_cons_zero, List.getElem_cons_succ] at z0 z1 z2 z3 z4 z5
   clear hz hp2 hg2 HN
   go_wp2_with fail
   exact back_leaf rfl rfl H2.out (xLeaf 1 (hd u).nu [] [] []) (xLeaf_ok _ _ _ _ _ _ _) r (by rw [HR.out, leafP, if_pos hi, leaf_d]; rfl)
 · have hi : isK 2 u = false := by rw [← hk2]; exact decide_eq_false h2
   have h2b : ((hd u).kd == 2) = false := by simpa using h2
   clear hk2
   go_wp2_with fail
   refine wp_region_held_drew (S := fun W9 => True) (by kernel_rfl) (trivial) (fun hHeld => ?_)
   refine heldTake (i := 0) (d := some 17) (v := ?_) rfl rfl (by kernel_rfl) (by kernel_rfl) (by kernel_rfl) (fun _ _ _ h => h) (by kernel_rfl) ?hyq_1 (by assumption) ?restq_1
   case hyq_1 => (intro W9 hSw; (try dsimp only at hSw); go_simp; try (with_reducible rfl))
   (try simp only [Act.put, nA, nB, nC])
   refine heldTake (i := 1) (d := some 18) (v := ?_) rfl rfl (by kernel_rfl) (by kernel_rfl) (by kernel_rfl) (fun _ _ _ h => h) (by kernel_rfl) ?hyq_2 (by assumption) ?restq_2
   case hyq_2 => (intro W9 hSw; (try dsimp only at hSw); go_simp; try (with_reducible rfl))
   (try simp only [Act.put, nA, nB, nC])
   refine heldTake (i := 2) (d := some 19) (v := ?_) rfl rfl (by kernel_rfl) (by kernel_rfl) (by kernel_rfl) (fun _ _ _ h => h) (by kernel_rfl) ?hyq_3 (by assumption) ?restq_3
   case hyq_3 => (intro W9 hSw; (try dsimp only at hSw); go_simp; try (with_reducible rfl))
   (try simp only [Act.put, nA, nB, nC])
   refine wpAnyH_ready (rs := [3]) (by kernel_rfl) (by simp) ?_
   refine AllReadyH.cons rfl (fun K hK => ?_) AllReadyH.nil
   go_simp
   go_at_call 35
   refine (word_any [116, 114, 117, 101] _).mono ?_
   rintro e9 X1 ⟨rfl, hbX1⟩
   have K1x := Lib.hid (H1.out.drew.below hbX1)
   clear hbX1
   go_wp2_with fail
   refine hK.out _ _ trivial (fun hHeld => ?_)
   clear hK K
   (try simp only [Act.put, nA, nB, nC])
   refine wpAnyH_ready (rs := [4]) (by kernel_rfl) (by simp) ?_
   refine AllReadyH.cons rfl (fun K hK => ?_) AllReadyH.nil
   go_simp
   go_at_call 59
   refine (takeT_any K1x.out.p 3 [116, 114, 117, 101] (by decide)).mono ?_
   rintro e9 Y1 ⟨rfl, hpY1, hgY1⟩
   have K1 := Lib.hid (K1x.out.step hpY1 hgY1)
   clear hpY1 hgY1 K1x
   go_wp2_with fail
   refine hK.out _ _ trivial (fun hHeld => ?_)
   clear hK K
   (try simp only [Act.put, nA, nB, nC])
   refine heldTake (i := 5) (d := some 16) (v := ?_) rfl rfl (by kernel_rfl) (by kernel_rfl) (by kernel_rfl) (fun _ _ _ h => h) (by kernel_rfl) ?hyq_4 (by assumption) ?restq_4
   case hyq_4 => (intro W9 hSw; (try dsimp only at hSw); go_simp; try (with_reducible rfl))
   (try simp only [Act.put, nA, nB, nC])
   refine wpAnyH_done (by kernel_rfl) ?_ _
   cases hy : isT 3 [116, 114, 117, 101] u
   · have hu : stp 3 [116, 114, 117, 101] u = u := by unfold stp; rw [hy]; rfl
     rw [hu] at K1
     clear hu
     go_wp2_with fail
     refine wp_region_held_drew (S := fun W9 => True) (by kernel_rfl) (trivial) (fun hHeld => ?_)
     refine heldTake (i := 0) (d := some 24) (v := ?_) rfl rfl (by kernel_rfl) (by kernel_rfl) (by kernel_rfl) (fun _ _ _ h => h) (by kernel_rfl) ?hyq_5 (by assumption) ?restq_5
     case hyq_5 => (intro W9 hSw; (try dsimp only at hSw); go_simp; try (with_reducible rfl))
     (try simp only [Act.put, nA, nB, nC])
     refine heldTake (i := 1) (d := some 25) (v := ?_) rfl rfl (by kernel_rfl) (by kernel_rfl) (by kernel_rfl) (fun _ _ _ h => h) (by kernel_rfl) ?hyq_6 (by assumption) ?restq_6
     case hyq_6 => (intro W9 hSw; (try dsimp only at hSw); go_simp; try (with_reducible rfl))
     (try simp only [Act.put, nA, nB, nC])
     refine heldTake (i := 2) (d := some 26) (v := ?_) rfl rfl (by kernel_rfl) (by kernel_rfl) (by kernel_rfl) (fun _ _ _ h => h) (by kernel_rfl) ?hyq_7 (by assumption) ?restq_7
     case hyq_7 => (intro W9 hSw; (try dsimp only at hSw); go_simp; try (with_reducible rfl))
     (try simp only [Act.put, nA, nB, nC])
     refine wpAnyH_ready (rs := [3]) (by kernel_rfl) (by simp) ?_
     refine AllReadyH.cons rfl (fun K hK => ?_) AllReadyH.nil
     go_simp
     go_at_call 35
     refine (word_any [102, 97, 108, 115, 101] _).mono ?_
     rintro e9 X2 ⟨rfl, hbX2⟩
     have K2x := Lib.hid (K1.out.drew.below hbX2)
     clear hbX2
     go_wp2_with fail
     refine hK.out _ _ trivial (fun hHeld => ?_)
     clear hK K
     (try simp only [Act.put, nA, nB, nC])
     refine wpAnyH_ready (rs := [4]) (by kernel_rfl) (by simp) ?_
     refine AllReadyH.cons rfl (fun K hK => ?_) AllReadyH.nil
     go_simp
     go_at_call 59
     refine (takeT_any K2x.out.p 3 [102, 97, 108, 115, 101] (by decide)).mono ?_
     rintro e9 Y2 ⟨rfl, hpY2, hgY2⟩
     have K2 := Lib.hid (K2x.out.step hpY2 hgY2)
     clear hpY2 hgY2 K2x
     go_wp2_with fail
     refine hK.out _ _ trivial (fun hHeld => ?_)
     clear hK K
     (try simp only [Act.put, nA, nB, nC])
     refine heldTake (i := 5) (d := some 23) (v := ?_) rfl rfl (by kernel_rfl) (by kernel_rfl) (by kernel_rfl) (fun _ _ _ h => h) (by kernel_rfl) ?hyq_8 (by assumption) ?restq_8
     case hyq_8 => (intro W9 hSw; (try dsimp only at hSw); go_simp; try (with_reducible rfl))
     (try simp only [Act.put, nA, nB, nC])
     refine wpAnyH_done (by kernel_rfl) ?_ _
     cases hy2 : isT 3 [102, 97, 108, 115, 101] u
     · have hu : stp 3 [102, 97, 108, 115, 101] u = u := by unfold stp; rw [hy2]; rfl
       rw [hu] at K2
       clear hu K1
       cases hk1 : isK 1 u
       · have HN := Lib.hid (name_no K2.out.p hk1)
         go_wp2_with fail
         refine HN.out.mono ?_
         rintro e w2 ⟨rfl, hp2, hg2⟩
         have hF : r = .bad u := by rw [HR.out, leafP, if_neg (by rw [hi]; decide), if_neg (by show ¬ isT 3 wTrue u = true; rw [show wTrue = [116, 114, 117, 101] from rfl, hy]; decide), if_neg (by show ¬ isT 3 wFalse u = true; rw [show wFalse = [102, 97, 108, 115, 101] from rfl, hy2]; decide), takeK, if_neg (by rw [hk1]; decide)]
         have hg := grown_trans K2.out.g hg2
         clear K2 HN
         go_wp2_with fail
         subst hF
         exact ⟨rfl, rfl, hp2, hg⟩
       · have HN := Lib.hid (name_yes K2.out.p hk1)
         go_wp2_with fail
         refine HN.out.mono ?_
         rintro e w2 ⟨rfl, hp2, hg2⟩
         have K3 := Lib.hid (K2.out.step hp2 hg2)
         have HF := Lib.hid (show r = leafN (hd u).tx u.tail by rw [HR.out, leafP, if_neg (by rw [hi]; decide), if_neg (by show ¬ isT 3 wTrue u = true; rw [show wTrue = [116, 114, 117, 101] from rfl, hy]; decide), if_neg (by show ¬ isT 3 wFalse u = true; rw [show wFalse = [102, 97, 108, 115, 101] from rfl, hy2]; decide), takeK, if_pos hk1])
         clear K2 HN hp2 hg2 HR hy hy2 hi h2 h2b
         generalize (hd u).tx = nm at *
         generalize u.tail = v at *
         go_wp2_with fail
         refine wp_region_held_drew (S := fun W9 => True) (by kernel_rfl) (trivial) (fun hHeld => ?_)
         refine heldTake (i := 0) (d := some 34) (v := ?_) rfl rfl (by kernel_rfl) (by kernel_rfl) (by kernel_rfl) (fun _ _ _ h => h) (by kernel_rfl) ?hyq_9 (by assumption) ?restq_9
         case hyq_9 => (intro W9 hSw; (try dsimp only at hSw); go_simp; try (with_reducible rfl))
         (try simp only [Act.put, nA, nB, nC])
         refine heldTake (i := 1) (d := some 35) (v := ?_) rfl rfl (by kernel_rfl) (by kernel_rfl) (by kernel_rfl) (fun _ _ _ h => h) (by kernel_rfl) ?hyq_10 (by assumption) ?restq_10
         case hyq_10 => (intro W9 hSw; (try dsimp only at hSw); go_simp; try (with_reducible rfl))
         (try simp only [Act.put, nA, nB, nC])
         refine heldTake (i := 2) (d := some 36) (v := ?_) rfl rfl (by kernel_rfl) (by kernel_rfl) (by kernel_rfl) (fun _ _ _ h => h) (by kernel_rfl) ?hyq_11 (by assumption) ?restq_11
         case hyq_11 => (intro W9 hSw; (try dsimp only at hSw); go_simp; try (with_reducible rfl))
         (try simp only [Act.put, nA, nB, nC])
         refine wpAnyH_ready (rs := [3]) (by kernel_rfl) (by simp) ?_
         refine AllReadyH.cons rfl (fun K hK => ?_) AllReadyH.nil
         go_simp
         go_at_call 58
         refine (sign_any [46] _).mono ?_
         rintro e9 X4 ⟨rfl, hbX4⟩
         have K4x := Lib.hid (K3.out.drew.below hbX4)
         clear hbX4
         go_wp2_with fail
         refine hK.out _ _ trivial (fun hHeld => ?_)
         clear hK K
         (try simp only [Act.put, nA, nB, nC])
         refine wpAnyH_ready (rs := [4]) (by kernel_rfl) (by simp) ?_
         refine AllReadyH.cons rfl (fun K hK => ?_) AllReadyH.nil
         go_simp
         go_at_call 59
         refine (takeT_any K4x.out.p 4 [46] (by decide)).mono ?_
         rintro e9 Y4 ⟨rfl, hpY4, hgY4⟩
         have K4 := Lib.hid (K4x.out.step hpY4 hgY4)
         clear hpY4 hgY4 K4x
         go_wp2_with fail
         refine hK.out _ _ trivial (fun hHeld => ?_)
         clear hK K
         (try simp only [Act.put, nA, nB, nC])
         refine wpAnyH_done (by kernel_rfl) ?_ _
         cases hy3 : isT 4 [46] v
         · have hu : stp 4 [46] v = v := by unfold stp; rw [hy3]; rfl
           rw [hu] at K4
           have hz := K4.out.z
           unfold zE at hz
           have z0 := hz.cell (j := 0) (by simp)
           have zf0 := hz.frozen 0
           have z1 := hz.cell (j := 1) (by simp)
           have zf1 := hz.frozen 1
           have z2 := hz.cell (j := 2) (by simp)
           have zf2 := hz.frozen 2
           have z3 := hz.cell (j := 3) (by simp)
           have zf3 := hz.frozen 3
           have z4 := hz.cell (j := 4) (by simp)
           have zf4 := hz.frozen 4
           have z5 := hz.cell (j := 5) (by simp)
           have zf5 := hz.frozen 5
           simp only [List.getElem_cons_zero, List.getElem_cons_succ] at z0 z1 z2 z3 z4 z5
           clear hz hu K3
           go_wp2_with fail
           exact back_leaf rfl rfl K4.out (xLeaf 3 0 nm [] []) (xLeaf_ok _ _ _ _ _ _ _) r (by rw [HF.out, leafN, if_neg (by show ¬ isT 4 [46] v = true; rw [hy3]; decide), leaf_d]; rfl)
         · have hu : stp 4 [46] v = v.tail := by unfold stp; rw [hy3]; rfl
           rw [hu] at K4
           clear hu K3
           cases hk4 : isK 1 v.tail
           · have HN := Lib.hid (name_no K4.out.p hk4)
             go_wp2_with fail
             refine HN.out.mono ?_
             rintro e w2 ⟨rfl, hp2, hg2⟩
             have hF : r = .bad v.tail := by rw [HF.out, leafN, if_pos (show isS [46] v = true from hy3), takeK, if_neg (by rw [hk4]; decide)]
             have hg := grown_trans K4.out.g hg2
             clear K4 HN
             go_wp2_with fail
             subst hF
             exact ⟨rfl, rfl, hp2, hg⟩
           · have HN := Lib.hid (name_yes K4.out.p hk4)
             have hz := K4.out.z
             unfold zE at hz
             have z0 := hz.cell (j := 0) (by simp)
             have zf0 := hz.frozen 0
             have z1 := hz.cell (j := 1) (by simp)
             have zf1 := hz.frozen 1
             have z2 := hz.cell (j := 2) (by simp)
             have zf2 := hz.frozen 2
             have z3 := hz.cell (j := 3) (by simp)
             have zf3 := hz.frozen 3
             have z4 := hz.cell (j := 4) (by simp)
             have zf4 := hz.frozen 4
             have z5 := hz.cell (j := 5) (by simp)
             have zf5 := hz.frozen 5
             simp only [List.getElem_cons_zero, List.getElem_cons_succ] at z0 z1 z2 z3 z4 z5
             have hzl := hz.lt
             clear hz
             go_wp2_with fail
             refine HN.out.mono ?_
             rintro e w2 ⟨rfl, hp2, hg2⟩
             have K5 := Lib.hid (K4.out.step hp2 hg2)
             have hz := K5.out.z
             unfold zE at hz
             have z0 := hz.cell (j := 0) (by simp)
             have zf0 := hz.frozen 0
             have z1 := hz.cell (j := 1) (by simp)
             have zf1 := hz.frozen 1
             have z2 := hz.cell (j := 2) (by simp)
             have zf2 := hz.frozen 2
             have z3 := hz.cell (j := 3) (by simp)
             have zf3 := hz.frozen 3
             have z4 := hz.cell (j := 4) (by simp)
             have zf4 := hz.frozen 4
             have z5 := hz.cell (j := 5) (by simp)
             have zf5 := hz.frozen 5
             simp only [List.getElem_cons_zero, List.getElem_cons_succ] at z0 z1 z2 z3 z4 z5
             clear hz hp2 hg2 HN K4
             go_wp2_with fail
             exact back_leaf rfl rfl K5.out (xLeaf 5 0 nm (hd v.tail).tx []) (xLeaf_ok _ _ _ _ _ _ _) r (by rw [HF.out, leafN, if_pos (show isS [46] v = true from hy3), takeK, if_pos hk4, leaf_d]; rfl)
     · have hu : stp 3 [102, 97, 108, 115, 101] u = u.tail := by unfold stp; rw [hy2]; rfl
       rw [hu] at K2
       have hz := K2.out.z
       unfold zE at hz
       have z0 := hz.cell (j := 0) (by simp)
       have zf0 := hz.frozen 0
       have z1 := hz.cell (j := 1) (by simp)
       have zf1 := hz.frozen 1
       have z2 := hz.cell (j := 2) (by simp)
       have zf2 := hz.frozen 2
       have z3 := hz.cell (j := 3) (by simp)
       have zf3 := hz.frozen 3
       have z4 := hz.cell (j := 4) (by simp)
       have zf4 := hz.frozen 4
       have z5 := hz.cell (j := 5) (by simp)
       have zf5 := hz.frozen 5
       simp only [List.getElem_cons_zero, List.getElem_cons_succ] at z0 z1 z2 z3 z4 z5
       clear hz hu K1
       go_wp2_with fail
       exact back_leaf rfl rfl K2.out (xLeaf 2 0 [] [] []) (xLeaf_ok _ _ _ _ _ _ _) r (by rw [HR.out, leafP, if_neg (by rw [hi]; decide), if_neg (by show ¬ isT 3 wTrue u = true; rw [show wTrue = [116, 114, 117, 101] from rfl, hy]; decide), if_pos (show isW wFalse u = true from hy2), leaf_d]; rfl)
   · have hu : stp 3 [116, 114, 117, 101] u = u.tail := by unfold stp; rw [hy]; rfl
     rw [hu] at K1
     have hz := K1.out.z
     unfold zE at hz
     have z0 := hz.cell (j := 0) (by simp)
     have zf0 := hz.frozen 0
     have z1 := hz.cell (j := 1) (by simp)
     have zf1 := hz.frozen 1
     have z2 := hz.cell (j := 2) (by simp)
     have zf2 := hz.frozen 2
     have z3 := hz.cell (j := 3) (by simp)
     have zf3 := hz.frozen 3
     have z4 := hz.cell (j := 4) (by simp)
     have zf4 := hz.frozen 4
     have z5 := hz.cell (j := 5) (by simp)
     have zf5 := hz.frozen 5
     simp only [List.getElem_cons_zero, List.getElem_cons_succ] at z0 z1 z2 z3 z4 z5
     clear hz hu H1
     go_wp2_with fail
     exact back_leaf rfl rfl K1.out (xLeaf 2 1 [] [] []) (xLeaf_ok _ _ _ _ _ _ _) r (by rw [HR.out, leafP, if_neg (by rw [hi]; decide), if_pos (show isW wTrue u = true from hy), leaf_d]; rfl)
end
end Go.Proofs.Ytjllbacefbjjaaa

namespace Go.Proofs.Ytjllbacefbjjaaa
open Go

section
variable {P : Program} {fn : Func} {p u v : Tmp} {ty : TypeId}
theorem res_row_tmp (h : fn.results = #[.cell p ty, .tmp u]) (tmps : Array Value) (w : World) (g : Nat) (t : TypeId) (cs : Array Value) (fr : Nat × Nat) (d : TypeDesc)
 (hp : tmps.getD p undef = .pointer (some ⟨g, 0, none⟩)) (hg : w.heap[g]? = some (.cells cs t fr))
 (hu : P.underlying ty = some d) (hd : (match d with | .struct _ | .array _ _ => true | _ => false) = true) (hi : (P.info? ty).map (·.size) = some cs.size) :
 (results fn tmps).run P w = .ok (.tuple #[.agg cs, tmps.getD u undef]) w := by
 have hp' : tmps[p]?.getD undef = .pointer (some ⟨g, 0, none⟩) := by simpa using hp
 simp [results, h, hp', asAddr, run_loadVar_row w g t ty cs fr d hg hu hd hi]
theorem res_row_tmp2 (h : fn.results = #[.cell p ty, .tmp u, .tmp v]) (tmps : Array Value) (w : World) (g : Nat) (t : TypeId) (cs : Array Value) (fr : Nat × Nat) (d : TypeDesc)
 (hp : tmps.getD p undef = .pointer (some ⟨g, 0, none⟩)) (hg : w.heap[g]? = some (.cells cs t fr))
 (hu : P.underlying ty = some d) (hd : (match d with | .struct _ | .array _ _ => true | _ => false) = true) (hi : (P.info? ty).map (·.size) = some cs.size) :
 (results fn tmps).run P w = .ok (.tuple #[.agg cs, tmps.getD u undef, tmps.getD v undef]) w := by
 have hp' : tmps[p]?.getD undef = .pointer (some ⟨g, 0, none⟩) := by simpa using hp
 simp [results, h, hp', asAddr, run_loadVar_row w g t ty cs fr d hg hu hd hi]
end

end Go.Proofs.Ytjllbacefbjjaaa
