/-
  Merged for a claim: S3H.
-/
import Derived.Test.YtjllbacefbjjaaaZS3G
import Derived.Test.YtjllbacefbjjaaaZS1E
namespace Go.Proofs.Ytjllbacefbjjaaa
open Go Go.RowKit

structure RwD {α : Type} (K : El α) (T : TypeId) (cs : Value → List Value) (X : World → Prop) (w : World) (gp gs : Nat) (A : Option Addr) (c : Nat) (l : List To) (vc v : Value) (xs : List α) (W : World) (u : List To) (fl : Bool) : Prop where
 p : Rp W gp A c l u fl
 s : CAt W gs T (cs vc)
 r : K.Own W w.heap.size v xs
 x : X W
 g : w.grownBy W (some gp)
 n : gp < w.heap.size ∧ w.heap.size ≤ gs
 kx : ∀ W Z, FrT [64, T, K.e] W Z → X W → X Z
 t : T ≠ 64 ∧ K.e ≠ 64 ∧ K.e ≠ T
section
variable {α : Type} {K : El α} {T : TypeId} {cs cs' : Value → List Value} {X X' : World → Prop} {w W Z : World} {gp gs : Nat} {A : Option Addr} {c : Nat} {l u u' : List To} {fl f' : Bool} {vc v v9 : Value} {xs : List α} {y : α}
theorem RwD.below (h : RwD K T cs X w gp gs A c l vc v xs W u fl) (hb : Below W.heap.size W Z) : RwD K T cs X w gp gs A c l vc v xs Z u fl :=
 ⟨h.p.next hb, h.s.below hb h.s.lt, h.r.below hb, h.kx _ _ (.of_below hb) h.x, grown_trans h.g (grown_below hb _), h.n, h.kx, h.t⟩
theorem RwD.drew (h : RwD K T cs X w gp gs A c l vc v xs W u fl) : RwD K T cs X w gp gs A c l vc v xs W.drew u fl := h.below ((Below.refl _ W).drew)
theorem RwD.draws (h : RwD K T cs X w gp gs A c l vc v xs W u fl) (m : Nat) : RwD K T cs X w gp gs A c l vc v xs (W.drewN m) u fl := h.below (below_draws m)
theorem RwD.step (h : RwD K T cs X w gp gs A c l vc v xs W u fl) (hp : Rp Z gp A c l u' f') (hg : W.grownBy Z (some gp)) : RwD K T cs X w gp gs A c l vc v xs Z u' f' := by
 have hb : ButT 64 W Z := ButT.grown hg fun k e => by injection e with e; subst e; exact h.p.has
 exact ⟨hp, (hb gs _ ⟨_, _, h.s⟩ h.t.1).trans h.s, h.r.but hb h.t.2.1, h.kx _ _ (.of_but hb (by simp)) h.x, grown_trans h.g hg, h.n, h.kx, h.t⟩
theorem RwD.app (h : RwD K T cs X w gp gs A c l vc v xs W u fl) (hg : W.grownBy Z v.ownBlock) (ho : K.Own Z w.heap.size v9 (xs ++ [y])) (hx : X' Z) (hk : ∀ W Z, FrT [64, T, K.e] W Z → X' W → X' Z) : RwD K T cs X' w gp gs A c l vc v9 (xs ++ [y]) Z u fl := by
 have hb : ButT K.e W Z := ButT.grown hg fun k e => h.r.has k e
 have hn := h.n
 have hz : w.heap.size ≤ W.heap.size := h.g.size
 have hB : Below w.heap.size W Z := (Below.refl _ _).grown hg hz (fun k e => (h.r.lt k e).1)
 exact ⟨h.p.below hB hn.1, (hb gs _ ⟨_, _, h.s⟩ (fun e => h.t.2.2 e.symm)).trans h.s, ho, hx, grown_new h.g hB, hn, hk, h.t⟩
theorem RwD.frApp (h : RwD K T cs X w gp gs A c l vc v xs W u fl) (hg : W.grownBy Z v.ownBlock) : FrT [64, T, K.e] W Z := .of_but (ButT.grown hg fun k e => h.r.has k e) (by simp)
theorem RwD.cell (h : RwD K T cs X w gp gs A c l vc v xs W u fl) (j : Nat) (z vd : Value) (hs : (cs vc).set j z = cs' vd) : RwD K T cs' X w gp gs A c l vd v xs (W.setCell ⟨gs, j, none⟩ z) u fl := by
 have hn := h.n
 have hb : ButT T W (W.setCell ⟨gs, j, none⟩ z) := ButT.set (p := ⟨gs, j, none⟩) ⟨_, _, h.s⟩ z
 have hB : Below w.heap.size W (W.setCell ⟨gs, j, none⟩ z) := (Below.refl _ _).setCell (p := ⟨gs, j, none⟩) hn.2 z
 have h1 := h.s.set j z
 rw [hs] at h1
 exact ⟨h.p.below hB hn.1, h1, h.r.but hb h.t.2.2, h.kx _ _ (.of_but hb (by simp)) h.x, grown_new h.g hB, hn, h.kx, h.t⟩
theorem RwD.fl_ (h : RwD K T cs X w gp gs A c l vc v xs W u fl) : W.cell? ⟨gp, 2, none⟩ = some (.bool fl) ∧ W.frozen? ⟨gp, 2, none⟩ = false ∧ gp < W.heap.size ∧ gs < W.heap.size ∧ ¬ gp = gs ∧ ¬ gs = gp := by
 obtain ⟨k, hk, hu, hc⟩ := h.p.k
 have hn := h.n
 exact ⟨hc.cell (j := 2) (by simp), hc.frozen 2, h.p.lt, h.s.lt, by omega, by omega⟩
theorem RwD.is (h : RwD K T cs X w gp gs A c l vc v xs W u fl) (kd : Int) (tx : List UInt8) :
 Calls Try.prog 19 #[.pointer (some ⟨gp, 0, none⟩), .int .u8 kd, .string (str tx)] W (fun e W' => e = .returned (.bool (!fl && isX kd tx u)) ∧ RwD K T cs X w gp gs A c l vc v xs W' u fl) := by
 refine (ris_any h.p kd tx).mono fun e W' ⟨he, m, hm⟩ => ⟨he, ?_⟩
 rw [hm]
 exact h.draws m
theorem RwD.sign (h : RwD K T cs X w gp gs A c l vc v xs W u fl) (tx : List UInt8) (hx : tx ≠ []) :
 Calls Try.prog 22 #[.pointer (some ⟨gp, 0, none⟩), .string (str tx)] W (fun e W' => e = .returned (.tuple #[]) ∧ ∃ u' f', Hid (Ans fl u (sgR 4 tx u) () u' f') ∧ RwD K T cs X w gp gs A c l vc v xs W' u' f') :=
 (rsign_any h.p tx hx).mono fun _ _ ⟨he, u', f', ha, hp, hg⟩ => ⟨he, u', f', Lib.hid ha, h.step hp hg⟩
theorem RwD.word (h : RwD K T cs X w gp gs A c l vc v xs W u fl) (tx : List UInt8) (hx : tx ≠ []) :
 Calls Try.prog 21 #[.pointer (some ⟨gp, 0, none⟩), .string (str tx)] W (fun e W' => e = .returned (.tuple #[]) ∧ ∃ u' f', Hid (Ans fl u (sgR 3 tx u) () u' f') ∧ RwD K T cs X w gp gs A c l vc v xs W' u' f') :=
 (rword_any h.p tx hx).mono fun _ _ ⟨he, u', f', ha, hp, hg⟩ => ⟨he, u', f', Lib.hid ha, h.step hp hg⟩
theorem RwD.name (h : RwD K T cs X w gp gs A c l vc v xs W u fl) :
 Calls Try.prog 20 #[.pointer (some ⟨gp, 0, none⟩)] W (fun e W' => ∃ t u' f', e = .returned (.string (str t.tx)) ∧ Hid (Ans fl u (takeR 1 [] u) t u' f') ∧ RwD K T cs X w gp gs A c l vc v xs W' u' f') :=
 (rname_any h.p).mono fun _ _ ⟨t, u', f', he, ha, hp, hg⟩ => ⟨t, u', f', he, Lib.hid ha, h.step hp hg⟩
theorem RwD.kind (h : RwD K T cs X w gp gs A c l vc v xs W u fl) (mu : Bool) :
 Calls Try.prog 40 #[.pointer (some ⟨gp, 0, none⟩), .bool mu] W (fun e W' => ∃ t u' f', e = .returned (tyV t) ∧ Hid (Ans fl u (tyR mu u) t u' f') ∧ RwD K T cs X w gp gs A c l vc v xs W' u' f') :=
 (rkind_any h.p mu).mono fun _ _ ⟨t, u', f', he, ha, hp, hg⟩ => ⟨t, u', f', he, Lib.hid ha, h.step hp hg⟩
end
theorem comP_oneG {α : Type} (one : List To → R α) (n : Nat) (u : List To) : comP one (n + 1) u = (one u).bind fun x v => if isS [44] v = true then (comP one n v.tail).bind fun l w => .ok (x :: l) w else (sgR 4 [41] v).bind fun _ w => .ok [x] w := by
 rw [comP]
 simp only [sgS_bind]
theorem pm_eq (u : List To) : pmP u = (takeR 1 [] u).bind fun t v => (tyR true v).bind fun ty w => .ok ⟨t.tx, ty⟩ w := by
 rw [tkK_bind]
 simp only [tyR_must]
 rfl
structure PmI (r : R (List Pm)) (fl : Bool) (u : List To) (xs : List Pm) (v : List To) (f : Bool) : Prop where
 y : f = false → fl = false ∧ (xs = [] → r = lisP pmP v) ∧ (xs ≠ [] → ∃ n, v.length ≤ n ∧ r = if isS [44] v = true then (comP pmP n v.tail).bind fun l w => .ok (xs ++ l) w else (sgR 4 [41] v).bind fun _ w => .ok xs w)
 n : f = true → ∀ ys, Ans fl u r ys v true
theorem PmI.new (u : List To) (fl : Bool) : PmI (lisP pmP u) fl u [] u fl := by
 refine ⟨fun e => ⟨e, fun _ => rfl, fun q => absurd rfl q⟩, fun e ys => ?_⟩
 subst e
 exact .fail _ _ _
theorem PmI.first {r : R (List Pm)} {fl f2 : Bool} {u v v2 : List To} {y : Pm} (h : PmI r fl u [] v false) (hc : ¬ isS [41] v = true) (ha : Ans false v (pmP v) y v2 f2) : PmI r fl u [y] v2 f2 := by
 obtain ⟨rfl, h1, _⟩ := h.y rfl
 have hr := h1 rfl
 unfold lisP at hr
 rw [if_neg hc, comP_oneG] at hr
 have hl := fun q => pmP_len (u := v) (v := v2) (x := y) q
 generalize pmP v = q at *
 cases ha with
 | ok =>
  have := hl rfl
  rw [R.bind_ok] at hr
  exact ⟨fun _ => ⟨rfl, fun e => absurd e (by simp), fun _ => ⟨v.length, by omega, hr⟩⟩, fun e => (by cases e)⟩
 | bad => exact ⟨fun e => (by cases e), fun _ ys => by rw [hr, R.bind_bad]; exact .bad _ _ _⟩
theorem PmI.more {r : R (List Pm)} {fl f1 f2 : Bool} {u v v1 v2 : List To} {xs : List Pm} {y : Pm} (h : PmI r fl u xs v false) (hx : xs ≠ []) (hc : ¬ isS [41] v = true) (h1 : Ans false v (sgR 4 [44] v) () v1 f1) (ha : Ans f1 v1 (pmP v1) y v2 f2) : PmI r fl u (xs ++ [y]) v2 f2 := by
 obtain ⟨rfl, _, h2⟩ := h.y rfl
 obtain ⟨n, hn, hr⟩ := h2 hx
 by_cases hs : isS [44] v = true
 · rw [if_pos hs] at hr
   have e : sgR 4 [44] v = .ok () v.tail := by unfold sgR; rw [if_pos (show isT 4 [44] v = true from hs)]
   rw [e] at h1
   cases h1
   have ht := tail_len (isS_ne hs)
   obtain ⟨m, rfl⟩ := Nat.exists_eq_succ_of_ne_zero (show n ≠ 0 by omega)
   rw [Nat.succ_eq_add_one, comP_oneG] at hr
   have hl := fun q => pmP_len (u := v.tail) (v := v2) (x := y) q
   generalize pmP v.tail = q at *
   cases ha with
   | ok =>
    have := hl rfl
    refine ⟨fun _ => ⟨rfl, fun e => absurd e (by simp), fun _ => ⟨m, by omega, ?_⟩⟩, fun e => (by cases e)⟩
    rw [hr, R.bind_ok]
    split
    · rw [R.bind_assoc]
      congr 1
      funext l w
      rw [R.bind_ok, List.append_assoc]
      rfl
    · rw [R.bind_assoc]
      congr 1
   | bad =>
    rw [R.bind_bad, R.bind_bad] at hr
    exact ⟨fun e => (by cases e), fun _ ys => by rw [hr]; exact .bad _ _ _⟩
 · rw [if_neg hs] at hr
   have e : sgR 4 [44] v = .bad v := by unfold sgR; rw [if_neg (show ¬ isT 4 [44] v = true from hs)]
   have e2 : sgR 4 [41] v = .bad v := by unfold sgR; rw [if_neg (show ¬ isT 4 [41] v = true from hc)]
   rw [e] at h1
   rw [e2, R.bind_bad] at hr
   cases h1
   cases ha
   exact ⟨fun e => (by cases e), fun _ ys => by rw [hr]; exact .bad _ _ _⟩
theorem PmI.end_ {r : R (List Pm)} {fl f f2 : Bool} {u v v2 : List To} {xs : List Pm} (h : PmI r fl u xs v f) (hc : f = false → isS [41] v = true) (ha : Ans f v (sgR 4 [41] v) () v2 f2) : Ans fl u r xs v2 f2 := by
 cases f with
 | true =>
  cases ha
  exact h.n rfl xs
 | false =>
  obtain ⟨rfl, h1, h2⟩ := h.y rfl
  have hs := hc rfl
  by_cases hx : xs = []
  · subst hx
    have hr := h1 rfl
    unfold lisP at hr
    rw [if_pos hs] at hr
    have e : sgR 4 [41] v = .ok () v.tail := by unfold sgR; rw [if_pos (show isT 4 [41] v = true from hs)]
    rw [e] at ha
    rw [hr]
    cases ha
    exact .ok _ _ _
  · obtain ⟨n, hn, hr⟩ := h2 hx
    rw [if_neg (show ¬ isS [44] v = true from fun q => absurd (isT_text hs q) (by decide))] at hr
    rw [hr]
    exact (Ans.end_ ha fun _ => xs).re
def fnR (ln : Int) (u : List To) : R Dc := (takeR 1 [] u).bind fun t v => (sgR 4 [40] v).bind fun _ z => (lisP pmP z).bind fun ps y => (tyR false y).bind fun rs q => (blP q).bind fun b p => .ok ⟨t.tx, ln, ps, rs, b⟩ p
theorem blP_no {u : List To} (h : ¬ isS [123] u = true) : blP u = .bad u := by
 unfold blP
 rw [blkP]
 unfold takeS
 rw [if_neg h]
theorem rs_eq {α : Type} (u : List To) (f : Ty → List St → List To → R α) : ((rsP u).bind fun rs y => (blP y).bind (f rs)) = (tyR false u).bind fun rs y => (blP y).bind (f rs) := by
 unfold rsP
 by_cases h : isS [123] u = true
 · have h1 : ¬ isT 3 wInt u = true := fun q => absurd (isK_one (isT_K h) (isT_K q)) (by decide)
   have h2 : ¬ isT 3 wBool u = true := fun q => absurd (isK_one (isT_K h) (isT_K q)) (by decide)
   have h3 : ¬ isT 4 [91] u = true := fun q => absurd (isT_text h q) (by decide)
   have h4 : ¬ isK 1 u = true := fun q => absurd (isK_one (isT_K h) q) (by decide)
   rw [if_pos h, tyR, if_neg h1, if_neg h2, if_neg h3, if_neg h4, if_neg (by decide)]
 · rw [if_neg h, ← tyR_must]
   unfold tyR
   by_cases h1 : isT 3 wInt u = true
   · rw [if_pos h1, if_pos h1]
   · rw [if_neg h1, if_neg h1]
     by_cases h2 : isT 3 wBool u = true
     · rw [if_pos h2, if_pos h2]
     · rw [if_neg h2, if_neg h2]
       by_cases h3 : isT 4 [91] u = true
       · rw [if_pos h3, if_pos h3]
       · rw [if_neg h3, if_neg h3]
         by_cases h4 : isK 1 u = true
         · rw [if_pos h4, if_pos h4]
         · rw [if_neg h4, if_neg h4, if_pos rfl, if_neg (by decide), R.bind_bad, R.bind_ok, blP_no h, R.bind_bad]
theorem dc_eq (u : List To) : dcP u = (sgR 3 wFunc u).bind fun _ v => fnR (hd u).ln v := by
 rw [sgW_bind]
 unfold dcP fnR
 refine congrArg (takeW _ _) (funext fun v => ?_)
 rw [tkK_bind]
 refine congrArg (takeK _ _) (funext fun t => funext fun w => ?_)
 rw [sgS_bind]
 refine congrArg (takeS _ _) (funext fun z => ?_)
 refine bind_cong fun ps y _ => ?_
 exact rs_eq (α := Dc) y fun rs b p => .ok (⟨t.tx, (hd u).ln, ps, rs, b⟩ : Dc) p
end Go.Proofs.Ytjllbacefbjjaaa
