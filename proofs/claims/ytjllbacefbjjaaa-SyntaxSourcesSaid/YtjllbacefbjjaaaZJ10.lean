/-
  Merged for a claim: S2C, S2D, S2E.
-/
import Derived.Test.YtjllbacefbjjaaaZJ5
import Derived.Test.YtjllbacefbjjaaaZSYS
namespace Go.Proofs.Ytjllbacefbjjaaa
open Go Go.RowKit

structure Rw (w : World) (gp : Nat) (A : Option Addr) (c : Nat) (l : List To) (T : TypeId) (zs : List Value) (W : World) (u : List To) (fl : Bool) : Prop where
 p : Rp W gp A c l u fl
 z : CAt W w.heap.size T zs
 g : w.grownBy W (some gp)
 n : gp < w.heap.size
section
variable {w W W' : World} {gp : Nat} {A : Option Addr} {c : Nat} {l u u' : List To} {fl fl' : Bool} {T : TypeId} {zs : List Value}
theorem Rw.new (h : Rp w gp A c l u fl) (T : TypeId) (zs : List Value) : Rw w gp A c l T zs (w.alloc (.cells zs.toArray T)) u fl :=
 ⟨h.next (below_lnew w _), heap_alloc_new w _, grown_below (below_lnew w _) _, h.lt⟩
theorem Rw.below (h : Rw w gp A c l T zs W u fl) (hb : Below W.heap.size W W') : Rw w gp A c l T zs W' u fl := ⟨h.p.next hb, h.z.below hb h.z.lt, grown_trans h.g (grown_below hb _), h.n⟩
theorem Rw.draws (h : Rw w gp A c l T zs W u fl) (m : Nat) : Rw w gp A c l T zs (W.drewN m) u fl := h.below (below_draws m)
theorem Rw.step (h : Rw w gp A c l T zs W u fl) (hp : Rp W' gp A c l u' fl') (hg : W.grownBy W' (some gp)) : Rw w gp A c l T zs W' u' fl' :=
 ⟨hp, (hg.block _ h.z.lt (fun e => by injection e with e; have := h.n; omega)).trans h.z, grown_trans h.g hg, h.n⟩
theorem Rw.fail (h : Rw w gp A c l T zs W u fl) : Rw w gp A c l T zs (W.setCell ⟨gp, 2, none⟩ (.bool true)) u true := h.step h.p.fail (grown_set _ _ _ _)
theorem Rw.at_ (h : Rw w gp A c l T zs W u fl) : ∃ k : Nat, k ≤ 1000000 ∧ W.cell? ⟨gp, 1, none⟩ = some (.int .i64 k) ∧ W.frozen? ⟨gp, 1, none⟩ = false ∧ gp < W.heap.size ∧ w.heap.size < W.heap.size ∧ ¬ gp = w.heap.size ∧ ¬ w.heap.size = gp ∧
 Hid (u ≠ [] → Rw w gp A c l T zs (W.setCell ⟨gp, 1, none⟩ (.int .i64 ((k : Int) + 1))) u.tail fl) := by
 obtain ⟨k, hk, hu, hc⟩ := h.p.k
 have hn := h.p.n
 have hlt := h.n
 have p1 := hc.cell (j := 1) (by simp)
 exact ⟨k, by omega, p1, hc.frozen 1, h.p.lt, h.z.lt, by omega, by omega, Lib.hid fun hne => h.step (h.p.step p1 hne) (grown_set _ _ _ _)⟩
theorem Rw.fl_ (h : Rw w gp A c l T zs W u fl) : W.cell? ⟨gp, 2, none⟩ = some (.bool fl) ∧ W.frozen? ⟨gp, 2, none⟩ = false := by
 obtain ⟨k, hk, hu, hc⟩ := h.p.k
 exact ⟨hc.cell (j := 2) (by simp), hc.frozen 2⟩
theorem Rw.is (h : Rw w gp A c l T zs W u fl) (kd : Int) (tx : List UInt8) :
 Calls Try.prog 19 #[.pointer (some ⟨gp, 0, none⟩), .int .u8 kd, .string (str tx)] W (fun e W' => e = .returned (.bool (!fl && isX kd tx u)) ∧ Rw w gp A c l T zs W' u fl) := by
 refine (ris_any h.p kd tx).mono fun e W' ⟨he, m, hm⟩ => ⟨he, ?_⟩
 rw [hm]
 exact h.draws m
theorem Rw.take (h : Rw w gp A c l T zs W u fl) (kd : Int) (tx : List UInt8) :
 Calls Try.prog 39 #[.pointer (some ⟨gp, 0, none⟩), .int .u8 kd, .string (str tx)] W (fun e W' => ∃ t u' f', e = .returned (tV t) ∧ Hid (Ans fl u (takeR kd tx u) t u' f') ∧ Rw w gp A c l T zs W' u' f') :=
 (rtake_any h.p kd tx).mono fun _ _ ⟨t, u', f', he, ha, hp, hg⟩ => ⟨t, u', f', he, Lib.hid ha, h.step hp hg⟩
theorem Rw.sign (h : Rw w gp A c l T zs W u fl) (tx : List UInt8) (hx : tx ≠ []) :
 Calls Try.prog 22 #[.pointer (some ⟨gp, 0, none⟩), .string (str tx)] W (fun e W' => e = .returned (.tuple #[]) ∧ ∃ u' f', Hid (Ans fl u (sgR 4 tx u) () u' f') ∧ Rw w gp A c l T zs W' u' f') :=
 (rsign_any h.p tx hx).mono fun _ _ ⟨he, u', f', ha, hp, hg⟩ => ⟨he, u', f', Lib.hid ha, h.step hp hg⟩
theorem Rw.word (h : Rw w gp A c l T zs W u fl) (tx : List UInt8) (hx : tx ≠ []) :
 Calls Try.prog 21 #[.pointer (some ⟨gp, 0, none⟩), .string (str tx)] W (fun e W' => e = .returned (.tuple #[]) ∧ ∃ u' f', Hid (Ans fl u (sgR 3 tx u) () u' f') ∧ Rw w gp A c l T zs W' u' f') :=
 (rword_any h.p tx hx).mono fun _ _ ⟨he, u', f', ha, hp, hg⟩ => ⟨he, u', f', Lib.hid ha, h.step hp hg⟩
theorem Rw.name (h : Rw w gp A c l T zs W u fl) :
 Calls Try.prog 20 #[.pointer (some ⟨gp, 0, none⟩)] W (fun e W' => ∃ t u' f', e = .returned (.string (str t.tx)) ∧ Hid (Ans fl u (takeR 1 [] u) t u' f') ∧ Rw w gp A c l T zs W' u' f') :=
 (rname_any h.p).mono fun _ _ ⟨t, u', f', he, ha, hp, hg⟩ => ⟨t, u', f', he, Lib.hid ha, h.step hp hg⟩
end
theorem Ans.re {α : Type} {u v u' : List To} {r : R α} {x : α} {f : Bool} (h : Ans false u r x u' f) : Ans false v r x u' f := by
 cases h with
 | ok => exact .ok _ _ _
 | bad => exact .bad _ _ _
theorem Ans.then {α β : Type} {fl f1 f2 : Bool} {u u1 u2 : List To} {r : R α} {s : α → List To → R β} {x : α} {y : β} (h1 : Ans fl u r x u1 f1) (h2 : Ans f1 u1 (s x u1) y u2 f2) : Ans fl u (r.bind s) y u2 f2 := by
 cases h1 with
 | fail => cases h2; exact .fail _ _ _
 | ok =>
  rw [R.bind_ok]
  exact h2.re
 | bad => cases h2; exact .bad _ _ _
theorem Ans.end_ {α β : Type} {fl f1 : Bool} {u u1 : List To} {r : R α} {x : α} (h1 : Ans fl u r x u1 f1) (g : α → β) : Ans fl u (r.bind fun x v => .ok (g x) v) (g x) u1 f1 := by
 cases h1 with
 | fail => exact .fail _ _ _
 | ok => exact .ok _ _ _
 | bad => exact .bad _ _ _
theorem Ans.same {α : Type} (x : α) (u : List To) (fl : Bool) : Ans fl u (.ok x u) x u fl := by
 cases fl
 · exact .ok _ _ _
 · exact .fail _ _ _
theorem Ans.none {α : Type} (x : α) (u : List To) (fl : Bool) : Ans fl u (.bad u : R α) x u true := by
 cases fl
 · exact .bad _ _ _
 · exact .fail _ _ _
def tyR (mu : Bool) (u : List To) : R Ty :=
 if isT 3 wInt u = true then .ok ⟨1, 0, []⟩ u.tail
 else if isT 3 wBool u = true then .ok ⟨2, 0, []⟩ u.tail
 else if isT 4 [91] u = true then (takeR 2 [] u.tail).bind fun t v => (sgR 4 [93] v).bind fun _ z => (sgR 3 wInt z).bind fun _ y => .ok ⟨3, t.nu, []⟩ y
 else if isK 1 u = true then .ok ⟨4, 0, (hd u).tx⟩ u.tail
 else if mu = true then .bad u else .ok ty0 u
section
variable {w W W' : World} {gp : Nat} {A : Option Addr} {c : Nat} {l u u' : List To} {fl fl' : Bool}
def TkR (w : World) (gp : Nat) (A : Option Addr) (c : Nat) (l u : List To) (fl : Bool) (r : R Ty) (e : Ending) (w' : World) : Prop :=
 ∃ t u' f', e = .returned (tyV t) ∧ Ans fl u r t u' f' ∧ Rp w' gp A c l u' f' ∧ w.grownBy w' (some gp)
theorem rback_ty {fn : Func} {r : R Ty} (hf : fn.results = #[.cell 4 45]) {tmps : Array Value} (hp : tmps.getD 4 undef = .pointer (some ⟨w.heap.size, 0, none⟩)) (h : Rw w gp A c l 45 zTy W u' fl') (t : Ty) (hr : Ans fl u r t u' fl') :
 bodyPost Try.prog fn (TkR w gp A c l u fl r) .ret { tmps := tmps, defers := [] } (setTy W w.heap.size t) := by
 have hb := setTy_below (W := W) (B := w.heap.size) (g := w.heap.size) t (Nat.le_refl _)
 exact bodyPost_ret (ty_back hf hp (setTy_at t h.z)) rfl ⟨t, u', fl', rfl, hr, h.p.below hb h.n, grown_new h.g hb⟩
theorem and_not {fl P : Bool} (h : (!fl && P) = true) : fl = false ∧ P = true := by
 revert h
 cases fl <;> cases P <;> decide
theorem and_nt {fl P : Bool} (h : (!fl && P) = false) (hf : fl = false) : ¬ P = true := by
 subst hf
 revert h
 cases P <;> decide
theorem ans_K {kd : Int} {u u' : List To} {f' : Bool} {t : To} (h : Ans false u (takeR kd [] u) t u' f') (hk : isK kd u = true) : t = hd u ∧ u' = u.tail ∧ f' = false := by
 rw [takeR_K, if_pos hk] at h
 cases h
 exact ⟨rfl, rfl, rfl⟩
theorem zTy_cells (h : CAt W gp 45 zTy) : W.cell? ⟨gp, 0, none⟩ = some (.int .u8 0) ∧ W.cell? ⟨gp, 1, none⟩ = some (.int .i64 0) ∧ W.cell? ⟨gp, 2, none⟩ = some (.string ⟨#[]⟩) ∧ W.frozen? ⟨gp, 0, none⟩ = false ∧ W.frozen? ⟨gp, 1, none⟩ = false ∧ W.frozen? ⟨gp, 2, none⟩ = false :=
 ⟨h.cell (j := 0) (by simp [zTy]), h.cell (j := 1) (by simp [zTy]), h.cell (j := 2) (by simp [zTy]), h.frozen 0, h.frozen 1, h.frozen 2⟩
set_option maxRecDepth 100000 in
set_option maxHeartbeats 2000000 in
theorem rkind_any (h : Rp w gp A c l u fl) (mu : Bool) :
 Calls Try.prog 40 #[.pointer (some ⟨gp, 0, none⟩), .bool mu] w (TkR w gp A c l u fl (tyR mu u)) := by
 have H0 := Lib.hid (Rw.new h 45 zTy)
 obtain ⟨r, hr⟩ : ∃ r, tyR mu u = r := ⟨_, rfl⟩
 rw [hr]
 have HR := Lib.hid hr.symm
 clear h hr
 go_enter Try.func40, Try.ntmps40
 go_wp2_with fail
 refine (H0.out.is 3 [105, 110, 116]).mono ?_
 rintro e X1 ⟨rfl, K1⟩
 have K1 := Lib.hid K1
 clear H0
 rw [isX_T (by decide)]
 cases b1 : (!fl && isT 3 [105, 110, 116] u) with
 | true =>
  obtain ⟨k, hk, p1, f1, l1, l2, l3, l4, HI⟩ := K1.out.at_
  obtain ⟨r0, r1, r2, rf0, rf1, rf2⟩ := zTy_cells K1.out.z
  obtain ⟨hf, ht⟩ := and_not b1
  have HT1 := Lib.hid ht
  have K := Lib.hid (HI.out (isT_ne ht))
  clear ht HI
  go_wp2_with fail
  refine rback_ty rfl rfl K.out ⟨1, 0, []⟩ ?_
  subst hf
  rw [HR.out, tyR, if_pos (show isT 3 wInt u = true from HT1.out)]
  exact .ok _ _ _
 | false =>
 go_wp2_with fail
 refine (K1.out.is 3 [98, 111, 111, 108]).mono ?_
 rintro e X2 ⟨rfl, K2⟩
 have K2 := Lib.hid K2
 clear K1
 rw [isX_T (by decide)]
 cases b2 : (!fl && isT 3 [98, 111, 111, 108] u) with
 | true =>
  obtain ⟨k, hk, p1, f1, l1, l2, l3, l4, HI⟩ := K2.out.at_
  obtain ⟨r0, r1, r2, rf0, rf1, rf2⟩ := zTy_cells K2.out.z
  obtain ⟨hf, ht⟩ := and_not b2
  have HT2 := Lib.hid ht
  have K := Lib.hid (HI.out (isT_ne ht))
  clear ht HI
  go_wp2_with fail
  refine rback_ty rfl rfl K.out ⟨2, 0, []⟩ ?_
  rw [HR.out, tyR, if_neg (show ¬ isT 3 wInt u = true from and_nt b1 hf), if_pos (show isT 3 wBool u = true from HT2.out)]
  subst hf
  exact .ok _ _ _
 | false =>
 go_wp2_with fail
 refine (K2.out.is 4 [91]).mono ?_
 rintro e X3 ⟨rfl, K3⟩
 have K3 := Lib.hid K3
 clear K2
 rw [isX_T (by decide)]
 cases b3 : (!fl && isT 4 [91] u) with
 | true =>
  obtain ⟨k, hk, p1, f1, l1, l2, l3, l4, HI⟩ := K3.out.at_
  obtain ⟨hf, ht⟩ := and_not b3
  have HT3 := Lib.hid ht
  have K := Lib.hid (HI.out (isT_ne ht))
  clear ht HI
  go_wp2_with fail
  clear K3
  refine (K.out.take 2 []).mono ?_
  rintro e Y1 ⟨t, u1, g1, rfl, HA1, M1⟩
  have M1 := Lib.hid M1
  have hf2 := tok_f2
  clear K p1 f1 l1 l2
  unfold tV tS
  go_wp2_with fail
  refine (M1.out.sign [93] (by decide)).mono ?_
  rintro e Y2 ⟨rfl, u2, g2, HA2, M2⟩
  have M2 := Lib.hid M2
  clear M1
  go_wp2_with fail
  refine (M2.out.word [105, 110, 116] (by decide)).mono ?_
  rintro e Y3 ⟨rfl, u3, g3, HA3, M3⟩
  have M3 := Lib.hid M3
  clear M2
  obtain ⟨r0, r1, r2, rf0, rf1, rf2⟩ := zTy_cells M3.out.z
  go_wp2_with fail
  refine rback_ty rfl rfl M3.out ⟨3, t.nu, []⟩ ?_
  rw [HR.out, tyR, if_neg (show ¬ isT 3 wInt u = true from and_nt b1 hf), if_neg (show ¬ isT 3 wBool u = true from and_nt b2 hf), if_pos HT3.out]
  subst hf
  refine Ans.then HA1.out.re ?_
  refine Ans.then HA2.out ?_
  exact Ans.end_ HA3.out (fun _ => (⟨3, t.nu, []⟩ : Ty))
 | false =>
 go_wp2_with fail
 refine (K3.out.is 1 []).mono ?_
 rintro e X4 ⟨rfl, K4⟩
 have K4 := Lib.hid K4
 clear K3
 rw [isX_K]
 cases b4 : (!fl && isK 1 u) with
 | true =>
  obtain ⟨hf, ht⟩ := and_not b4
  have HT4 := Lib.hid ht
  clear ht
  go_wp2_with fail
  refine (K4.out.name).mono ?_
  rintro e Y1 ⟨t, u1, g1, rfl, HA1, M1⟩
  have M1 := Lib.hid M1
  clear K4
  obtain ⟨r0, r1, r2, rf0, rf1, rf2⟩ := zTy_cells M1.out.z
  go_wp2_with fail
  refine rback_ty rfl rfl M1.out ⟨4, 0, t.tx⟩ ?_
  rw [HR.out, tyR, if_neg (show ¬ isT 3 wInt u = true from and_nt b1 hf), if_neg (show ¬ isT 3 wBool u = true from and_nt b2 hf), if_neg (show ¬ isT 4 [91] u = true from and_nt b3 hf), if_pos HT4.out]
  subst hf
  obtain ⟨rfl, rfl, rfl⟩ := ans_K HA1.out HT4.out
  exact .ok _ _ _
 | false =>
 obtain ⟨q0, q1⟩ := K4.out.fl_
 obtain ⟨r0, r1, r2, rf0, rf1, rf2⟩ := zTy_cells K4.out.z
 obtain ⟨k, hk, p1, f1, l1, l2, l3, l4, _⟩ := K4.out.at_
 cases mu with
 | true =>
  go_wp2_with fail
  refine rback_ty rfl rfl K4.out.fail ty0 ?_
  by_cases hf : fl = false
  · rw [HR.out, tyR, if_neg (show ¬ isT 3 wInt u = true from and_nt b1 hf), if_neg (show ¬ isT 3 wBool u = true from and_nt b2 hf), if_neg (show ¬ isT 4 [91] u = true from and_nt b3 hf), if_neg (show ¬ isK 1 u = true from and_nt b4 hf), if_pos rfl]
    exact .none _ _ _
  · rw [show fl = true by cases fl <;> simp_all]
    exact .fail _ _ _
 | false =>
  go_wp2_with fail
  refine rback_ty rfl rfl K4.out ty0 ?_
  by_cases hf : fl = false
  · rw [HR.out, tyR, if_neg (show ¬ isT 3 wInt u = true from and_nt b1 hf), if_neg (show ¬ isT 3 wBool u = true from and_nt b2 hf), if_neg (show ¬ isT 4 [91] u = true from and_nt b3 hf), if_neg (show ¬ isK 1 u = true from and_nt b4 hf), if_neg (by decide)]
    exact .same _ _ _
  · rw [show fl = true by cases fl <;> simp_all]
    exact .fail _ _ _
theorem sgS_bind {α : Type} (tx : List UInt8) (u : List To) (f : List To → R α) : ((sgR 4 tx u).bind fun _ v => f v) = takeS tx u f := by
 unfold sgR takeS isS
 split <;> rfl
theorem sgW_bind {α : Type} (tx : List UInt8) (u : List To) (f : List To → R α) : ((sgR 3 tx u).bind fun _ v => f v) = takeW tx u f := by
 unfold sgR takeW isW
 split <;> rfl
theorem tkK_bind {α : Type} (kd : Int) (u : List To) (f : To → List To → R α) : (takeR kd [] u).bind f = takeK kd u f := by
 rw [takeR_K]
 unfold takeK
 split <;> rfl
theorem tyR_must (u : List To) : tyR true u = tyP u := by
 unfold tyR tyP
 simp only [sgS_bind, sgW_bind, tkK_bind]
 rfl
end
end Go.Proofs.Ytjllbacefbjjaaa

namespace Go.Proofs.Ytjllbacefbjjaaa
open Go Go.RowKit

def lvT : List (List (List UInt8)) := [[[124, 124]], [[38, 38]], [[61, 61], [33, 61], [60], [60, 61], [62], [62, 61]], [[43], [45]], [[42], [47], [37]]]
def lvK (k : Nat) : List (List UInt8) := lvT.getD k []
def lvV (k : Nat) : List Value := (lvK k).map fun s => .string (str s)
def LvAt (W : World) (g : Nat) : Prop := ∀ k : Nat, k < 5 → ∃ b : Nat, W.cell? ⟨g, k, none⟩ = some (.slice (some ⟨b, 0, none⟩) (lvK k).length (lvK k).length) ∧ CAt W b 9 (lvV k)
theorem cat_step (W : World) (n : Nat) (hn : W.heap.size = n) (cs : List Value) (T : TypeId) : (W.alloc (.cells cs.toArray T)).heap.size = n + 1 ∧ CAt (W.alloc (.cells cs.toArray T)) n T cs ∧ Below n W (W.alloc (.cells cs.toArray T)) := by
 subst hn
 exact ⟨by rw [World.size_alloc], heap_alloc_new W _, below_lnew W _⟩
theorem six_at (w : World) (n : Nat) (hn : w.heap.size = n) (T U : TypeId) (c1 c2 c3 c4 c5 c6 : List Value) (W : World)
 (hW : (((((w.alloc (.cells c1.toArray T)).alloc (.cells c2.toArray T)).alloc (.cells c3.toArray T)).alloc (.cells c4.toArray T)).alloc (.cells c5.toArray T)).alloc (.cells c6.toArray U) = W) :
 Below n w W ∧ CAt W n T c1 ∧ CAt W (n + 1) T c2 ∧ CAt W (n + 1 + 1) T c3 ∧ CAt W (n + 1 + 1 + 1) T c4 ∧ CAt W (n + 1 + 1 + 1 + 1) T c5 ∧ CAt W (n + 1 + 1 + 1 + 1 + 1) U c6 := by
 have h1 := cat_step w n hn c1 T
 have h2 := cat_step _ _ h1.1 c2 T
 have h3 := cat_step _ _ h2.1 c3 T
 have h4 := cat_step _ _ h3.1 c4 T
 have h5 := cat_step _ _ h4.1 c5 T
 have h6 := cat_step _ _ h5.1 c6 U
 rw [hW] at h6
 have b5 := h6.2.2
 have b4 := (h5.2.2).trans (b5.mono (by omega))
 have b3 := (h4.2.2).trans (b4.mono (by omega))
 have b2 := (h3.2.2).trans (b3.mono (by omega))
 have b1 := (h2.2.2).trans (b2.mono (by omega))
 exact ⟨h1.2.2.trans (b1.mono (by omega)), h1.2.1.below b1 (by omega), h2.2.1.below b2 (by omega), h3.2.1.below b3 (by omega), h4.2.1.below b4 (by omega), h5.2.1.below b5 (by omega), h6.2.1⟩
theorem levels_any (w : World) : Calls Try.prog 78 #[] w (fun e w' => ∃ g, e = .returned (.slice (some ⟨g, 0, none⟩) 5 5) ∧ Below w.heap.size w w' ∧ LvAt w' g) := by
 go_enter Try.func78, Try.ntmps78
 go_wp2_with fail
 go_ret
 refine ⟨_, rfl, ?_⟩
 obtain ⟨hb, h1, h2, h3, h4, h5, h6⟩ := six_at w _ rfl 9 67 (lvV 0) (lvV 1) (lvV 2) (lvV 3) (lvV 4) [.slice (some ⟨w.heap.size, 0, none⟩) 1 1, .slice (some ⟨w.heap.size + 1, 0, none⟩) 1 1, .slice (some ⟨w.heap.size + 1 + 1, 0, none⟩) 6 6, .slice (some ⟨w.heap.size + 1 + 1 + 1, 0, none⟩) 2 2, .slice (some ⟨w.heap.size + 1 + 1 + 1 + 1, 0, none⟩) 3 3] _ rfl
 refine ⟨hb, fun k hk => ?_⟩
 match k, hk with
 | 0, _ => exact ⟨_, h6.cell (j := 0) (by simp), h1⟩
 | 1, _ => exact ⟨_, h6.cell (j := 1) (by simp), h2⟩
 | 2, _ => exact ⟨_, h6.cell (j := 2) (by simp), h3⟩
 | 3, _ => exact ⟨_, h6.cell (j := 3) (by simp), h4⟩
 | 4, _ => exact ⟨_, h6.cell (j := 4) (by simp), h5⟩
def opT (k : Nat) (u : List To) : List UInt8 := if isK 4 u = true ∧ (hd u).tx ∈ lvK k then (hd u).tx else []
theorem lvK_len (k : Nat) : (lvK k).length ≤ 6 ∧ ∀ s ∈ lvK k, s ≠ [] := by
 match k with
 | 0 => decide
 | 1 => decide
 | 2 => decide
 | 3 => decide
 | 4 => decide
 | k + 5 => exact ⟨by simp [lvK, lvT], fun s h => absurd h (by simp [lvK, lvT])⟩
theorem opT_yes {k : Nat} {u : List To} {s : List UInt8} (hs : s ∈ lvK k) (h : isX 4 s u = true) : opT k u = s := by
 rw [isX_T ((lvK_len k).2 s hs)] at h
 cases u with
 | nil => cases h
 | cons t v =>
  simp [isT] at h
  unfold opT
  rw [if_pos ⟨by simp [isK, h.1], by simp [hd, h.2, hs]⟩]
  simp [hd, h.2]
theorem opT_no {k : Nat} {u : List To} (h : ∀ s ∈ lvK k, isX 4 s u = false) : opT k u = [] := by
 unfold opT
 split
 · rename_i q
   have := h _ q.2
   rw [isX_T ((lvK_len k).2 _ q.2)] at this
   cases u with
   | nil => cases q.1
   | cons t v =>
    have q1 := q.1
    simp [isT, hd, isK] at this q1
    exact absurd q1 this
 · rfl
section
variable {w : World} {gp : Nat} {A : Option Addr} {c : Nat} {l u : List To} {fl : Bool}
set_option maxRecDepth 100000 in
theorem rop_any (h : Rp w gp A c l u fl) (k : Nat) (hk : k < 5) :
 Calls Try.prog 80 #[.pointer (some ⟨gp, 0, none⟩), .int .i64 k] w (fun e w' => e = .returned (.string (str (if fl = true then [] else opT k u))) ∧ Below w.heap.size w w') := by
 obtain ⟨rr, HR⟩ : ∃ rr, Hid ((if fl = true then [] else opT k u) = rr) := ⟨_, rfl⟩
 rw [HR.out]
 have HL := Lib.hid (levels_any w)
 have H0 := Lib.hid h
 have hkk : (k : Int) < 5 := by omega
 clear h
 go_enter Try.func80, Try.ntmps80
 go_wp2_with fail
 refine HL.out.mono ?_
 rintro e X ⟨g, rfl, hb, hL⟩
 obtain ⟨b, q0, hC⟩ := hL k hk
 have HC := Lib.hid hC
 have HB := Lib.hid hb
 have hlen := (lvK_len k).1
 have HM := Lib.hid (lvK_len k).2
 have HV := Lib.hid (show lvV k = (lvK k).map fun s => .string (str s) from rfl)
 have HY := Lib.hid (fun (s : List UInt8) (hs : s ∈ lvK k) (q : isX 4 s u = true) => opT_yes hs q)
 have HN := Lib.hid (fun (q : ∀ s ∈ lvK k, isX 4 s u = false) => opT_no q)
 clear hL hC hb HL
 generalize lvK k = ss at *
 generalize opT k u = rs at *
 go_wp2_with fail
 go_loopw [6] (fun i wr => ∃ j : Nat, j ≤ ss.length ∧ i = .int .i64 j ∧ Hid (∃ m, wr = X.drewN m) ∧ Hid (∀ s ∈ ss.take j, (!fl && isX 4 s u) = false)) (fun i _ => ss.length - (intOf i).toNat)
 case atStart => exact ⟨0, by omega, rfl, Lib.hid ⟨0, rfl⟩, Lib.hid fun s q => absurd q (by simp)⟩
 case round =>
  obtain ⟨j, hj, rfl, hm, hno⟩ := hrel
  obtain ⟨m, hwm⟩ := hm.out
  have HWM := Lib.hid hwm
  have K := Lib.hid (show Rp wr gp A c l u fl by rw [hwm]; exact (H0.out.next HB.out).draws m)
  have KC := Lib.hid (show CAt wr b 9 (lvV k) by rw [hwm]; exact HC.out)
  clear hwm hm
  by_cases hlt : j < ss.length
  · have d0 : wr.cell? ⟨b, j, none⟩ = some (.string (str ss[j])) := by
     have := KC.out.cell (j := j) (by rw [HV.out, List.length_map]; exact hlt)
     rw [this]
     simp only [HV.out, List.getElem_map]
    have HS := Lib.hid (List.getElem_mem hlt)
    have HT := Lib.hid (show ss.take (j + 1) = ss.take j ++ [ss[j]] from List.take_succ_eq_append_getElem hlt)
    have hbw : b < wr.heap.size := KC.out.lt
    generalize ss[j] = sx at *
    have hji : (j : Int) < (ss.length : Int) := by omega
    go_wp2_with fail
    refine (ris_any K.out 4 sx).mono ?_
    rintro e Y ⟨rfl, m2, rfl⟩
    have d1 : (wr.drewN m2).cell? ⟨b, j, none⟩ = some (.string (str sx)) := d0
    cases hq : (!fl && isX 4 sx u) with
    | true =>
     obtain ⟨hf, hx⟩ := and_not hq
     go_wp2_with fail
     go_ret
     refine ⟨?_, ?_⟩
     · have e1 := HR.out
       rw [if_neg (by rw [hf]; decide), HY.out sx HS.out hx] at e1
       rw [← e1]
       rfl
     · rw [HWM.out]
       exact (HB.out.trans (below_draws m)).trans (below_draws m2)
    | false =>
     go_wp2_with fail
     refine ⟨⟨j + 1, by omega, by go_num, Lib.hid ⟨m + m2, by rw [HWM.out, World.drewN_drewN]⟩, Lib.hid fun s q => ?_⟩, by simp [intOf]; omega⟩
     rw [HT.out] at q
     rcases List.mem_append.1 q with q | q
     · exact hno.out s q
     · rw [List.mem_singleton.1 q]
       exact hq
  · obtain rfl : j = ss.length := by omega
    go_wp2_with fail
    go_ret
    refine ⟨?_, by rw [HWM.out]; exact HB.out.trans (below_draws m)⟩
    have e1 := HR.out
    have hn := hno.out
    rw [List.take_length] at hn
    have e2 : rr = [] := by
     rw [← e1]
     split
     · rfl
     · rename_i q
       refine HN.out fun s q2 => ?_
       have := hn s q2
       cases fl
       · simpa using this
       · exact absurd rfl q
    rw [e2]
    rfl
end
end Go.Proofs.Ytjllbacefbjjaaa

namespace Go.Proofs.Ytjllbacefbjjaaa
open Go Go.RowKit

def RX (w : World) (gp : Nat) (A : Option Addr) (c : Nat) (l u : List To) (fl : Bool) (r : R Ex) (e : Ending) (w' : World) : Prop :=
 ∃ (t : XT) (u' : List To) (f' : Bool), e = .returned (xV t) ∧ Ans fl u r t.d u' f' ∧ t.Ok w' (fun g => w.heap.size ≤ g) ∧ Rp w' gp A c l u' f' ∧ w.grownBy w' (some gp)
section
variable {w W W' : World} {gp : Nat} {A : Option Addr} {c : Nat} {l u u' : List To} {fl fl' : Bool} {T : TypeId} {zs : List Value} {P : Nat → Prop}
theorem rp_exp_ne (hp : Rp W gp A c l u fl) {g : Nat} (ht : HasT W g 53) : g ≠ gp := fun e => by
 subst e
 have := ht.one hp.has
 revert this
 decide
theorem XT.Ok.grown {t : XT} (h : t.Ok W P) (hp : Rp W gp A c l u fl) (hg : W.grownBy W' (some gp)) : t.Ok W' P :=
 XT.Ok.keep (fun g _ ht => hg.block g ht.lt (fun e => by injection e with e; exact rp_exp_ne hp ht e)) (fun _ q => q) t h
theorem loc_keep {b : Nat} {cs : List Value} (h : CAt W b 53 cs) (hp : Rp W gp A c l u fl) (hg : W.grownBy W' (some gp)) : CAt W' b 53 cs :=
 (hg.block b h.lt (fun e => by injection e with e; exact rp_exp_ne hp ⟨_, _, h⟩ e)).trans h
theorem Rw.rx (h : Rw w gp A c l T zs W u fl) {r : R Ex} {e : Ending} (hr : RX W gp A c l u fl r e W') :
 ∃ (t : XT) (u' : List To) (f' : Bool), e = .returned (xV t) ∧ Hid (Ans fl u r t.d u' f') ∧ Hid (t.Ok W' (fun g => w.heap.size < g)) ∧ Rw w gp A c l T zs W' u' f' ∧ W.grownBy W' (some gp) := by
 obtain ⟨t, u', f', he, ha, ho, hp, hg⟩ := hr
 exact ⟨t, u', f', he, Lib.hid ha, Lib.hid (ho.up fun g q => Nat.lt_of_lt_of_le h.z.lt q), h.step hp hg, hg⟩
theorem Rw.loc (h : Rw w gp A c l T zs W u fl) (t : XT) (ht : t.Ok W P) (arr : Array Value) (ha : arr = t.cs.toArray) :
 Rw w gp A c l T zs (W.alloc (.cells arr 53)) u fl ∧ t.Ok (W.alloc (.cells arr 53)) P ∧ CAt (W.alloc (.cells arr 53)) W.heap.size 53 t.cs := by
 subst ha
 exact ⟨h.below (below_lnew W _), ht.below (below_lnew W _), heap_alloc_new W _⟩
theorem many_ok (ks : List XT) (hk : xsOk W P ks) (hp : P W.heap.size) (kd nu : Int) (nm f op : List UInt8) :
 (XT.mk kd nu nm f op (some ⟨W.heap.size, 0, none⟩) ks.length ks).Ok (W.alloc (.cells (ks.flatMap XT.cs).toArray 53)) P := by
 rw [XT.Ok]
 refine ⟨⟨El.liesT_new eX W ks _ (fun i u hu => (List.getElem?_toArray).trans hu), Nat.le_refl _, fun e => absurd e (by simp), fun _ a e => ?_⟩, xsOk.keep (fun g _ hg => (below_lnew W _).block g hg.lt) (fun _ q => q) ks hk⟩
 injection e with e
 subst e
 exact hp
theorem rleaf_ok (kd nu : Int) (nm f op : List UInt8) : (xLeaf kd nu nm f op).Ok W P := by
 unfold xLeaf
 rw [XT.Ok, xsOk]
 exact ⟨⟨fun h => absurd h (by simp), by simp, fun _ => rfl, fun h => absurd h (by simp)⟩, trivial⟩
theorem rback_exp {fn : Func} {p : Tmp} {r : R Ex} (hf : fn.results = #[.cell p 53]) {tmps : Array Value} (hp : tmps.getD p undef = .pointer (some ⟨w.heap.size, 0, none⟩)) (h : Rw w gp A c l 53 zE W u' fl') (t : XT) (ho : t.Ok W (fun g => w.heap.size < g)) (hr : Ans fl u r t.d u' fl') :
 bodyPost Try.prog fn (RX w gp A c l u fl r) .ret { tmps := tmps, defers := [] } (setE W w.heap.size t) := by
 have hb := setE_below (W := W) (B := w.heap.size) (g := w.heap.size) t (Nat.le_refl _)
 exact bodyPost_ret (exp_back hf hp (setE_at t h.z)) rfl ⟨t, u', fl', rfl, hr, XT.Ok.keep (fun g hg _ => setE_heap t (by omega)) (fun g hg => Nat.le_of_lt hg) t ho, h.p.below hb h.n, grown_new h.g hb⟩
theorem setE_size (W : World) (g : Nat) (t : XT) : (setE W g t).heap.size = W.heap.size := by
 cases t
 unfold setE
 simp [World.setCell]
theorem rback_one {fn : Func} {p : Tmp} {r : R Ex} (hf : fn.results = #[.cell p 53]) {tmps : Array Value} (hp : tmps.getD p undef = .pointer (some ⟨w.heap.size, 0, none⟩)) (h : Rw w gp A c l 53 zE W u' fl') (ks : List XT) (hk : xsOk W (fun g => w.heap.size < g) ks) (n : Nat) (hn : n = ks.length)
 (kd nu : Int) (nm f op : List UInt8) (arr : Array Value) (ho : arr = (ks.flatMap XT.cs).toArray) (hr : Ans fl u r (.mk kd nu nm f op (xsd ks)) u' fl') :
 bodyPost Try.prog fn (RX w gp A c l u fl r) .ret { tmps := tmps, defers := [] } ((setE W w.heap.size (.mk kd nu nm f op (some ⟨W.heap.size, 0, none⟩) n ks)).alloc (.cells arr 53)) := by
 subst hn ho
 have hb := setE_below (W := W) (B := w.heap.size) (g := w.heap.size) (.mk kd nu nm f op (some ⟨W.heap.size, 0, none⟩) ks.length ks) (Nat.le_refl _)
 have hs := setE_size W w.heap.size (.mk kd nu nm f op (some ⟨W.heap.size, 0, none⟩) ks.length ks)
 have hz := setE_at (.mk kd nu nm f op (some ⟨W.heap.size, 0, none⟩) ks.length ks) h.z
 have hk2 : xsOk (setE W w.heap.size (.mk kd nu nm f op (some ⟨W.heap.size, 0, none⟩) ks.length ks)) (fun g => w.heap.size ≤ g) ks := xsOk.keep (fun g hg _ => setE_heap _ (by omega)) (fun g hg => Nat.le_of_lt hg) ks hk
 have hm := many_ok ks hk2 (by rw [hs]; exact Nat.le_of_lt h.z.lt) kd nu nm f op
 rw [hs] at hm
 have hd : (XT.mk kd nu nm f op (some ⟨W.heap.size, 0, none⟩) ks.length ks).d = .mk kd nu nm f op (xsd ks) := by rw [XT.d]
 exact bodyPost_ret (exp_back hf hp (CAt.below hz (below_lnew _ _) (CAt.lt hz))) rfl ⟨_, u', fl', rfl, by rw [hd]; exact hr, hm, (h.p.below hb h.n).next (below_lnew _ _), grown_trans (grown_new h.g hb) (grown_below (below_lnew _ _) _)⟩
theorem zE_cells (h : CAt W gp 53 zE) : W.cell? ⟨gp, 0, none⟩ = some (.int .u8 0) ∧ W.cell? ⟨gp, 1, none⟩ = some (.int .i64 0) ∧ W.cell? ⟨gp, 2, none⟩ = some (.string ⟨#[]⟩) ∧ W.cell? ⟨gp, 3, none⟩ = some (.string ⟨#[]⟩) ∧ W.cell? ⟨gp, 4, none⟩ = some (.string ⟨#[]⟩) ∧ W.cell? ⟨gp, 5, none⟩ = some (.slice none 0 0) ∧
 W.frozen? ⟨gp, 0, none⟩ = false ∧ W.frozen? ⟨gp, 1, none⟩ = false ∧ W.frozen? ⟨gp, 2, none⟩ = false ∧ W.frozen? ⟨gp, 3, none⟩ = false ∧ W.frozen? ⟨gp, 4, none⟩ = false ∧ W.frozen? ⟨gp, 5, none⟩ = false :=
 ⟨h.cell (j := 0) (by simp [zE]), h.cell (j := 1) (by simp [zE]), h.cell (j := 2) (by simp [zE]), h.cell (j := 3) (by simp [zE]), h.cell (j := 4) (by simp [zE]), h.cell (j := 5) (by simp [zE]), h.frozen 0, h.frozen 1, h.frozen 2, h.frozen 3, h.frozen 4, h.frozen 5⟩
end
end Go.Proofs.Ytjllbacefbjjaaa
