/-
  Merged for a claim: SYS.
-/
import Derived.Test.YtjllbacefbjjaaaZSYR
namespace Go.Proofs.Ytjllbacefbjjaaa
open Go Go.RowKit

def tyS (t : Ty) : List Value := [.int .u8 t.kd, .int .i64 t.n, .string (str t.nm)]
def tyV (t : Ty) : Value := .agg (tyS t).toArray
def zTy : List Value := [.int .u8 0, .int .i64 0, .string ⟨#[]⟩]
def TyR (w : World) (gp : Nat) (A : Option Addr) (c : Nat) (l : List To) (r : R Ty) (e : Ending) (w' : World) : Prop := match r with
 | .ok x v => e = .returned (tyV x) ∧ Ps w' gp A c l v ∧ w.grownBy w' (some gp)
 | .bad v => e = .panicked misC ∧ Ps w' gp A c l v ∧ w.grownBy w' (some gp)
 | .out => False
theorem ty_size : (Try.prog.info? 45).map (·.size) = some 3 := by kernel_rfl
theorem ty_back {fn : Func} {p : Tmp} (h : fn.results = #[.cell p 45]) {tmps : Array Value} {w : World} {g : Nat} (hp : tmps.getD p undef = .pointer (some ⟨g, 0, none⟩))
 {t : Ty} (hg : CAt w g 45 (tyS t)) : (results fn tmps).run Try.prog w = .ok (tyV t) w :=
 results_cell_row h tmps w g _ _ _ _ hp hg Try.underlying45 rfl ty_size
def setTy (W : World) (g : Nat) (t : Ty) : World := ((W.setCell ⟨g, 0, none⟩ (.int .u8 t.kd)).setCell ⟨g, 1, none⟩ (.int .i64 t.n)).setCell ⟨g, 2, none⟩ (.string (str t.nm))
theorem setTy_at {W : World} {g : Nat} {z0 z1 z2 : Value} (t : Ty) (h : CAt W g 45 [z0, z1, z2]) : CAt (setTy W g t) g 45 (tyS t) := ((h.set 0 _).set 1 _).set 2 _
theorem setTy_below {W : World} {B g : Nat} (t : Ty) (h : B ≤ g) : Below B W (setTy W g t) :=
 (((Below.refl B W).setCell (p := ⟨g, 0, none⟩) h _).setCell (p := ⟨g, 1, none⟩) h _).setCell (p := ⟨g, 2, none⟩) h _
structure TyW (w : World) (gp : Nat) (A : Option Addr) (c : Nat) (l : List To) (W : World) (u : List To) : Prop where
 p : Ps W gp A c l u
 z : CAt W w.heap.size 45 zTy
 g : w.grownBy W (some gp)
 n : gp < w.heap.size
section
variable {w W W' : World} {gp : Nat} {A : Option Addr} {c : Nat} {l u u' : List To}
theorem TyW.new (h : Ps w gp A c l u) : TyW w gp A c l (w.alloc (.cells #[.int .u8 0, .int .i64 0, .string ⟨#[]⟩] 45)) u :=
 ⟨h.next (below_lnew w _), heap_alloc_new w _, grown_below (below_lnew w _) _, h.lt⟩
theorem TyW.drew (h : TyW w gp A c l W u) : TyW w gp A c l W.drew u := ⟨h.p.next ((Below.refl _ W).drew), h.z, grown_trans h.g (grown_below ((Below.refl _ W).drew) _), h.n⟩
theorem TyW.below (h : TyW w gp A c l W u) (hb : Below W.heap.size W W') : TyW w gp A c l W' u := ⟨h.p.next hb, h.z.below hb h.z.lt, grown_trans h.g (grown_below hb _), h.n⟩
theorem TyW.step (h : TyW w gp A c l W u) (hp : Ps W' gp A c l u') (hg : W.grownBy W' (some gp)) : TyW w gp A c l W' u' :=
 ⟨hp, (hg.block _ h.z.lt (fun e => by injection e with e; have := h.n; omega)).trans h.z, grown_trans h.g hg, h.n⟩
theorem back_ty {fn : Func} (hf : fn.results = #[.cell 2 45]) {tmps : Array Value} (hp : tmps.getD 2 undef = .pointer (some ⟨w.heap.size, 0, none⟩)) (h : TyW w gp A c l W u) (t : Ty) (r : R Ty) (hr : r = .ok t u) :
 bodyPost Try.prog fn (TyR w gp A c l r) .ret { tmps := tmps, defers := [] } (setTy W w.heap.size t) := by
 subst hr
 have hb := setTy_below (W := W) (B := w.heap.size) (g := w.heap.size) t (Nat.le_refl _)
 exact bodyPost_ret (ty_back hf hp (setTy_at t h.z)) rfl ⟨rfl, h.p.below hb h.n, grown_new h.g hb⟩
theorem two_kd2 (s t : List UInt8) : ∀ x ∈ [(⟨4, s, 0, 0⟩ : To), ⟨3, t, 0, 0⟩], x.kd ≠ 0 := by
 intro x hx
 rcases List.mem_cons.1 hx with rfl | hx
 · exact (by decide : (4 : Int) ≠ 0)
 · rw [List.mem_singleton.1 hx]
   exact (by decide : (3 : Int) ≠ 0)
set_option maxRecDepth 100000 in
set_option maxHeartbeats 4000000 in
theorem kind_any (hP : Ps w gp A c l u) : Calls Try.prog 62 #[.pointer (some ⟨gp, 0, none⟩)] w (TyR w gp A c l (tyP u)) := by
 have H0 := Lib.hid (TyW.new hP)
 obtain ⟨r, hr⟩ : ∃ r, tyP u = r := ⟨_, rfl⟩
 rw [hr]
 have HR := Lib.hid hr.symm
 clear hP hr
 go_enter Try.func62, Try.ntmps62
 go_wp2_with fail
 refine wp_region_held_drew (S := fun W9 => True) (by kernel_rfl) (trivial) (fun hHeld => ?_)
 refine heldTake (i := 0) (d := some 5) (v := ?_) rfl rfl (by kernel_rfl) (by kernel_rfl) (by kernel_rfl) (fun _ _ _ h => h) (by kernel_rfl) ?hyq_1 (by assumption) ?restq_1
 case hyq_1 => (intro W9 hSw; (try dsimp only at hSw); go_simp; try (with_reducible rfl))
 (try simp only [Act.put, nA, nB, nC])
 refine heldTake (i := 1) (d := some 6) (v := ?_) rfl rfl (by kernel_rfl) (by kernel_rfl) (by kernel_rfl) (fun _ _ _ h => h) (by kernel_rfl) ?hyq_2 (by assumption) ?restq_2
 case hyq_2 => (intro W9 hSw; (try dsimp only at hSw); go_simp; try (with_reducible rfl))
 (try simp only [Act.put, nA, nB, nC])
 refine heldTake (i := 2) (d := some 7) (v := ?_) rfl rfl (by kernel_rfl) (by kernel_rfl) (by kernel_rfl) (fun _ _ _ h => h) (by kernel_rfl) ?hyq_3 (by assumption) ?restq_3
 case hyq_3 => (intro W9 hSw; (try dsimp only at hSw); go_simp; try (with_reducible rfl))
 (try simp only [Act.put, nA, nB, nC])
 refine wpAnyH_ready (rs := [3]) (by kernel_rfl) (by simp) ?_
 refine AllReadyH.cons rfl (fun K hK => ?_) AllReadyH.nil
 go_simp
 go_at_call 35
 refine (word_any [105, 110, 116] _).mono ?_
 rintro e9 X1 ⟨rfl, hbX1⟩
 have K1x := Lib.hid (H0.out.drew.below hbX1)
 clear hbX1
 go_wp2_with fail
 refine hK.out _ _ trivial (fun hHeld => ?_)
 clear hK K
 (try simp only [Act.put, nA, nB, nC])
 refine wpAnyH_ready (rs := [4]) (by kernel_rfl) (by simp) ?_
 refine AllReadyH.cons rfl (fun K hK => ?_) AllReadyH.nil
 go_simp
 go_at_call 59
 refine (takeT_any K1x.out.p 3 [105, 110, 116] (by decide)).mono ?_
 rintro e9 Y1 ⟨rfl, hpY1, hgY1⟩
 have K1 := Lib.hid (K1x.out.step hpY1 hgY1)
 clear hpY1 hgY1 K1x
 go_wp2_with fail
 refine hK.out _ _ trivial (fun hHeld => ?_)
 clear hK K
 (try simp only [Act.put, nA, nB, nC])
 refine heldTake (i := 5) (d := some 4) (v := ?_) rfl rfl (by kernel_rfl) (by kernel_rfl) (by kernel_rfl) (fun _ _ _ h => h) (by kernel_rfl) ?hyq_4 (by assumption) ?restq_4
 case hyq_4 => (intro W9 hSw; (try dsimp only at hSw); go_simp; try (with_reducible rfl))
 (try simp only [Act.put, nA, nB, nC])
 refine wpAnyH_done (by kernel_rfl) ?_ _
 cases hy1 : isT 3 [105, 110, 116] u
 · rw [show stp 3 [105, 110, 116] u = u by unfold stp; rw [hy1]; rfl] at K1
   have HN1 := Lib.hid (show ¬ isW wInt u = true by show ¬ isT 3 [105, 110, 116] u = true; rw [hy1]; decide)
   clear H0 hy1
   go_wp2_with fail
   refine wp_region_held_drew (S := fun W9 => True) (by kernel_rfl) (trivial) (fun hHeld => ?_)
   refine heldTake (i := 0) (d := some 12) (v := ?_) rfl rfl (by kernel_rfl) (by kernel_rfl) (by kernel_rfl) (fun _ _ _ h => h) (by kernel_rfl) ?hyq_5 (by assumption) ?restq_5
   case hyq_5 => (intro W9 hSw; (try dsimp only at hSw); go_simp; try (with_reducible rfl))
   (try simp only [Act.put, nA, nB, nC])
   refine heldTake (i := 1) (d := some 13) (v := ?_) rfl rfl (by kernel_rfl) (by kernel_rfl) (by kernel_rfl) (fun _ _ _ h => h) (by kernel_rfl) ?hyq_6 (by assumption) ?restq_6
   case hyq_6 => (intro W9 hSw; (try dsimp only at hSw); go_simp; try (with_reducible rfl))
   (try simp only [Act.put, nA, nB, nC])
   refine heldTake (i := 2) (d := some 14) (v := ?_) rfl rfl (by kernel_rfl) (by kernel_rfl) (by kernel_rfl) (fun _ _ _ h => h) (by kernel_rfl) ?hyq_7 (by assumption) ?restq_7
   case hyq_7 => (intro W9 hSw; (try dsimp only at hSw); go_simp; try (with_reducible rfl))
   (try simp only [Act.put, nA, nB, nC])
   refine wpAnyH_ready (rs := [3]) (by kernel_rfl) (by simp) ?_
   refine AllReadyH.cons rfl (fun K hK => ?_) AllReadyH.nil
   go_simp
   go_at_call 35
   refine (word_any [98, 111, 111, 108] _).mono ?_
   rintro e9 X2 ⟨rfl, hbX2⟩
   have K2x := Lib.hid (K1.out.drew.below hbX2)
   clear hbX2
   go_wp2_with fail
   refine hK.out _ _ trivial (fun hHeld => ?_)
   clear hK K
   (try simp only [Act.put, nA, nB, nC])
   refine wpAnyH_ready (rs := [4]) (by kernel_rfl) (by simp) ?_
   refine AllReadyH.cons rfl (fun K hK => ?_) AllReadyH.nil
   go_simp
   go_at_call 59
   refine (takeT_any K2x.out.p 3 [98, 111, 111, 108] (by decide)).mono ?_
   rintro e9 Y2 ⟨rfl, hpY2, hgY2⟩
   have K2 := Lib.hid (K2x.out.step hpY2 hgY2)
   clear hpY2 hgY2 K2x
   go_wp2_with fail
   refine hK.out _ _ trivial (fun hHeld => ?_)
   clear hK K
   (try simp only [Act.put, nA, nB, nC])
   refine heldTake (i := 5) (d := some 11) (v := ?_) rfl rfl (by kernel_rfl) (by kernel_rfl) (by kernel_rfl) (fun _ _ _ h => h) (by kernel_rfl) ?hyq_8 (by assumption) ?restq_8
   case hyq_8 => (intro W9 hSw; (try dsimp only at hSw); go_simp; try (with_reducible rfl))
   (try simp only [Act.put, nA, nB, nC])
   refine wpAnyH_done (by kernel_rfl) ?_ _
   cases hy2 : isT 3 [98, 111, 111, 108] u
   · rw [show stp 3 [98, 111, 111, 108] u = u by unfold stp; rw [hy2]; rfl] at K2
     have HN2 := Lib.hid (show ¬ isW wBool u = true by show ¬ isT 3 [98, 111, 111, 108] u = true; rw [hy2]; decide)
     clear K1 hy2
     go_wp2_with fail
     refine wp_region_held_drew (S := fun W9 => True) (by kernel_rfl) (trivial) (fun hHeld => ?_)
     refine heldTake (i := 0) (d := some 19) (v := ?_) rfl rfl (by kernel_rfl) (by kernel_rfl) (by kernel_rfl) (fun _ _ _ h => h) (by kernel_rfl) ?hyq_9 (by assumption) ?restq_9
     case hyq_9 => (intro W9 hSw; (try dsimp only at hSw); go_simp; try (with_reducible rfl))
     (try simp only [Act.put, nA, nB, nC])
     refine heldTake (i := 1) (d := some 20) (v := ?_) rfl rfl (by kernel_rfl) (by kernel_rfl) (by kernel_rfl) (fun _ _ _ h => h) (by kernel_rfl) ?hyq_10 (by assumption) ?restq_10
     case hyq_10 => (intro W9 hSw; (try dsimp only at hSw); go_simp; try (with_reducible rfl))
     (try simp only [Act.put, nA, nB, nC])
     refine heldTake (i := 2) (d := some 21) (v := ?_) rfl rfl (by kernel_rfl) (by kernel_rfl) (by kernel_rfl) (fun _ _ _ h => h) (by kernel_rfl) ?hyq_11 (by assumption) ?restq_11
     case hyq_11 => (intro W9 hSw; (try dsimp only at hSw); go_simp; try (with_reducible rfl))
     (try simp only [Act.put, nA, nB, nC])
     refine wpAnyH_ready (rs := [3]) (by kernel_rfl) (by simp) ?_
     refine AllReadyH.cons rfl (fun K hK => ?_) AllReadyH.nil
     go_simp
     go_at_call 58
     refine (sign_any [91] _).mono ?_
     rintro e9 X3 ⟨rfl, hbX3⟩
     have K3x := Lib.hid (K2.out.drew.below hbX3)
     clear hbX3
     go_wp2_with fail
     refine hK.out _ _ trivial (fun hHeld => ?_)
     clear hK K
     (try simp only [Act.put, nA, nB, nC])
     refine wpAnyH_ready (rs := [4]) (by kernel_rfl) (by simp) ?_
     refine AllReadyH.cons rfl (fun K hK => ?_) AllReadyH.nil
     go_simp
     go_at_call 59
     refine (takeT_any K3x.out.p 4 [91] (by decide)).mono ?_
     rintro e9 Y3 ⟨rfl, hpY3, hgY3⟩
     have K3 := Lib.hid (K3x.out.step hpY3 hgY3)
     clear hpY3 hgY3 K3x
     go_wp2_with fail
     refine hK.out _ _ trivial (fun hHeld => ?_)
     clear hK K
     (try simp only [Act.put, nA, nB, nC])
     refine heldTake (i := 5) (d := some 18) (v := ?_) rfl rfl (by kernel_rfl) (by kernel_rfl) (by kernel_rfl) (fun _ _ _ h => h) (by kernel_rfl) ?hyq_12 (by assumption) ?restq_12
     case hyq_12 => (intro W9 hSw; (try dsimp only at hSw); go_simp; try (with_reducible rfl))
     (try simp only [Act.put, nA, nB, nC])
     refine wpAnyH_done (by kernel_rfl) ?_ _
     cases hy3 : isT 4 [91] u
     · rw [show stp 4 [91] u = u by unfold stp; rw [hy3]; rfl] at K3
       have HF := Lib.hid (show r = takeK 1 u fun t v => .ok ⟨4, 0, t.tx⟩ v by rw [HR.out, tyP, if_neg HN1.out, if_neg HN2.out, if_neg (show ¬ isS [91] u = true by show ¬ isT 4 [91] u = true; rw [hy3]; decide)])
       clear K2 hy3
       cases hk : isK 1 u
       · have HN := Lib.hid (name_no K3.out.p hk)
         go_wp2_with fail
         refine HN.out.mono ?_
         rintro e w2 ⟨rfl, hp2, hg2⟩
         have hF : r = .bad u := by rw [HF.out, takeK, if_neg (by rw [hk]; decide)]
         have hg := grown_trans K3.out.g hg2
         clear K3 HN
         go_wp2_with fail
         subst hF
         exact ⟨rfl, rfl, hp2, hg⟩
       · have HN := Lib.hid (name_yes K3.out.p hk)
         have hz := K3.out.z
         unfold zTy at hz
         have z0 := hz.cell (j := 0) (by simp)
         have z1 := hz.cell (j := 1) (by simp)
         have z2 := hz.cell (j := 2) (by simp)
         have zf0 := hz.frozen 0
         have zf1 := hz.frozen 1
         have zf2 := hz.frozen 2
         simp only [List.getElem_cons_zero, List.getElem_cons_succ] at z0 z1 z2
         have hzl := hz.lt
         clear hz
         go_wp2_with fail
         refine HN.out.mono ?_
         rintro e w2 ⟨rfl, hp2, hg2⟩
         have K4 := Lib.hid (K3.out.step hp2 hg2)
         have hz := K4.out.z
         unfold zTy at hz
         have z0 := hz.cell (j := 0) (by simp)
         have z1 := hz.cell (j := 1) (by simp)
         have z2 := hz.cell (j := 2) (by simp)
         have zf0 := hz.frozen 0
         have zf1 := hz.frozen 1
         have zf2 := hz.frozen 2
         simp only [List.getElem_cons_zero, List.getElem_cons_succ] at z0 z1 z2
         clear hz hp2 hg2 HN K3
         go_wp2_with fail
         exact back_ty rfl rfl K4.out ⟨4, 0, (hd u).tx⟩ r (by rw [HF.out, takeK, if_pos hk])
     · rw [show stp 4 [91] u = u.tail by unfold stp; rw [hy3]; rfl] at K3
       have HF := Lib.hid (show r = takeK 2 u.tail fun t v => takeS [93] v fun w => takeW wInt w fun z => .ok ⟨3, t.nu, []⟩ z by rw [HR.out, tyP, if_neg HN1.out, if_neg HN2.out, if_pos (show isS [91] u = true from hy3)])
       clear K2 hy3
       generalize u.tail = v at *
       cases hk : isK 2 v
       · have HN := Lib.hid (number_no K3.out.p hk)
         go_wp2_with fail
         refine HN.out.mono ?_
         rintro e w2 ⟨rfl, hp2, hg2⟩
         have hF : r = .bad v := by rw [HF.out, takeK, if_neg (by rw [hk]; decide)]
         have hg := grown_trans K3.out.g hg2
         clear K3 HN
         go_wp2_with fail
         subst hF
         exact ⟨rfl, rfl, hp2, hg⟩
       · have HN := Lib.hid (number_yes K3.out.p hk)
         go_wp2_with fail
         refine HN.out.mono ?_
         rintro e w2 ⟨rfl, hp2, hg2⟩
         have K4 := Lib.hid (K3.out.step hp2 hg2)
         have HF2 := Lib.hid (show r = (ndP [⟨4, [93], 0, 0⟩, ⟨3, [105, 110, 116], 0, 0⟩] v.tail).bind fun _ z => .ok ⟨3, (hd v).nu, []⟩ z by
          rw [HF.out, takeK, if_pos hk, takeS, ndP]
          by_cases h1 : isT 4 [93] v.tail = true
          · rw [if_pos h1, if_pos (show isS [93] v.tail = true from h1), takeW, ndP]
            by_cases h2 : isT 3 [105, 110, 116] v.tail.tail = true
            · rw [if_pos h2, if_pos (show isW wInt v.tail.tail = true from h2), ndP]
              rfl
            · rw [if_neg h2, if_neg (show ¬ isW wInt v.tail.tail = true from h2)]
              rfl
          · rw [if_neg h1, if_neg (show ¬ isS [93] v.tail = true from h1)]
            rfl)
         clear hp2 hg2 HN K3 HF hk
         generalize (hd v).nu = nn at *
         generalize v.tail = v1 at *
         go_wp2_with fail
         refine wp_region_held_drew (S := fun W9 => True) (by kernel_rfl) (trivial) (fun hHeld => ?_)
         refine heldTake (i := 0) (d := some 28) (v := ?_) rfl rfl (by kernel_rfl) (by kernel_rfl) (by kernel_rfl) (fun _ _ _ h => h) (by kernel_rfl) ?hyq_13 (by assumption) ?restq_13
         case hyq_13 => (intro W9 hSw; (try dsimp only at hSw); go_simp; try (with_reducible rfl))
         (try simp only [Act.put, nA, nB, nC])
         refine heldTake (i := 1) (d := some 29) (v := ?_) rfl rfl (by kernel_rfl) (by kernel_rfl) (by kernel_rfl) (fun _ _ _ h => h) (by kernel_rfl) ?hyq_14 (by assumption) ?restq_14
         case hyq_14 => (intro W9 hSw; (try dsimp only at hSw); go_simp; try (with_reducible rfl))
         (try simp only [Act.put, nA, nB, nC])
         refine heldTake (i := 2) (d := some 30) (v := ?_) rfl rfl (by kernel_rfl) (by kernel_rfl) (by kernel_rfl) (fun _ _ _ h => h) (by kernel_rfl) ?hyq_15 (by assumption) ?restq_15
         case hyq_15 => (intro W9 hSw; (try dsimp only at hSw); go_simp; try (with_reducible rfl))
         (try simp only [Act.put, nA, nB, nC])
         refine wpAnyH_ready (rs := [3]) (by kernel_rfl) (by simp) ?_
         refine AllReadyH.cons rfl (fun K hK => ?_) AllReadyH.nil
         go_simp
         go_at_call 58
         refine (sign_any [93] _).mono ?_
         rintro e9 X ⟨rfl, hbX⟩
         have K5 := Lib.hid (K4.out.drew.below hbX)
         clear hbX
         go_wp2_with fail
         refine hK.out _ _ trivial (fun hHeld => ?_)
         clear hK K
         (try simp only [Act.put, nA, nB, nC])
         refine wpAnyH_ready (rs := [4]) (by kernel_rfl) (by simp) ?_
         refine AllReadyH.cons rfl (fun K hK => ?_) AllReadyH.nil
         go_simp
         go_at_call 35
         refine (word_any [105, 110, 116] _).mono ?_
         rintro e9 X ⟨rfl, hbX⟩
         have K6 := Lib.hid (K5.out.below hbX)
         clear hbX
         go_wp2_with fail
         refine hK.out _ _ trivial (fun hHeld => ?_)
         clear hK K
         (try simp only [Act.put, nA, nB, nC])
         refine wpAnyH_ready (rs := [5]) (by kernel_rfl) (by simp) ?_
         refine AllReadyH.cons rfl (fun K hK => ?_) AllReadyH.nil
         unfold tV tS
         go_simp
         have hb9 := fun W9 : World => below_lnew W9 (.cells #[.int .u8 4, .string (str [93]), .int .i64 0, .int .i64 0, .int .u8 3, .string (str [105, 110, 116]), .int .i64 0, .int .i64 0] 77)
         have hT9 := fun W9 : World => El.liesT_new eTo W9 [⟨4, [93], 0, 0⟩, ⟨3, [105, 110, 116], 0, 0⟩] #[.int .u8 4, .string (str [93]), .int .i64 0, .int .i64 0, .int .u8 3, .string (str [105, 110, 116]), .int .i64 0, .int .i64 0] (fun i v h => by simpa [eTo, tS] using h)
         have K7 := Lib.hid (K6.out.below (hb9 _))
         refine hK.out _ _ trivial (fun hHeld => ?_)
         clear hK K
         (try simp only [Act.put, nA, nB, nC])
         refine wpAnyH_ready (rs := [6]) (by kernel_rfl) (by simp) ?_
         refine AllReadyH.cons rfl (fun K hK => ?_) AllReadyH.nil
         go_simp
         go_at_call 56
         refine (need_any K7.out.p [⟨4, [93], 0, 0⟩, ⟨3, [105, 110, 116], 0, 0⟩] (two_kd2 _ _) (some ⟨_, 0, none⟩) 2 (hT9 _) (by simp)).mono ?_
         rintro e9 Y8 hN8
         rcases hnd : ndP [⟨4, [93], 0, 0⟩, ⟨3, [105, 110, 116], 0, 0⟩] v1 with ⟨_, z9⟩ | z9 | _
         · rw [hnd] at hN8 HF2
           obtain ⟨rfl, hpY8, hgY8⟩ := hN8
           have K8 := Lib.hid (K7.out.step hpY8 hgY8)
           go_wp2_with fail
           refine hK.out _ _ trivial (fun hHeld => ?_)
           clear hK K
           (try simp only [Act.put, nA, nB, nC])
           refine wpAnyH_done (by kernel_rfl) ?_ _
           have hz := K8.out.z
           unfold zTy at hz
           have z0 := hz.cell (j := 0) (by simp)
           have z1 := hz.cell (j := 1) (by simp)
           have z2 := hz.cell (j := 2) (by simp)
           have zf0 := hz.frozen 0
           have zf1 := hz.frozen 1
           have zf2 := hz.frozen 2
           simp only [List.getElem_cons_zero, List.getElem_cons_succ] at z0 z1 z2
           clear hz
           go_wp2_with fail
           exact back_ty rfl rfl K8.out ⟨3, nn, []⟩ r HF2.out
         · rw [hnd] at hN8 HF2
           obtain ⟨rfl, hpY8, hgY8⟩ := hN8
           have hF : r = .bad z9 := HF2.out
           have hg := grown_trans K7.out.g hgY8
           go_wp2_with fail
           subst hF
           exact ⟨rfl, rfl, hpY8, hg⟩
         · rw [hnd] at hN8
           exact hN8.elim
   · rw [show stp 3 [98, 111, 111, 108] u = u.tail by unfold stp; rw [hy2]; rfl] at K2
     have HF := Lib.hid (show r = .ok ⟨2, 0, []⟩ u.tail by rw [HR.out, tyP, if_neg HN1.out, if_pos (show isW wBool u = true from hy2)])
     have hz := K2.out.z
     unfold zTy at hz
     have z0 := hz.cell (j := 0) (by simp)
     have z1 := hz.cell (j := 1) (by simp)
     have z2 := hz.cell (j := 2) (by simp)
     have zf0 := hz.frozen 0
     have zf1 := hz.frozen 1
     have zf2 := hz.frozen 2
     simp only [List.getElem_cons_zero, List.getElem_cons_succ] at z0 z1 z2
     clear hz K1 hy2
     go_wp2_with fail
     exact back_ty rfl rfl K2.out ⟨2, 0, []⟩ r HF.out
 · rw [show stp 3 [105, 110, 116] u = u.tail by unfold stp; rw [hy1]; rfl] at K1
   have HF := Lib.hid (show r = .ok ⟨1, 0, []⟩ u.tail by rw [HR.out, tyP, if_pos (show isW wInt u = true from hy1)])
   have hz := K1.out.z
   unfold zTy at hz
   have z0 := hz.cell (j := 0) (by simp)
   have z1 := hz.cell (j := 1) (by simp)
   have z2 := hz.cell (j := 2) (by simp)
   have zf0 := hz.frozen 0
   have zf1 := hz.frozen 1
   have zf2 := hz.frozen 2
   simp only [List.getElem_cons_zero, List.getElem_cons_succ] at z0 z1 z2
   clear hz H0 hy1
   go_wp2_with fail
   exact back_ty rfl rfl K1.out ⟨1, 0, []⟩ r HF.out
end
end Go.Proofs.Ytjllbacefbjjaaa
