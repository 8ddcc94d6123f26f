/-
  Merged for a claim: S3G.
-/
import Derived.Test.YtjllbacefbjjaaaZS3F
namespace Go.Proofs.Ytjllbacefbjjaaa
open Go Go.RowKit

structure LsI (r : R (List St)) (fl : Bool) (u : List To) (N : Nat) (xs : List St) (v : List To) (f : Bool) : Prop where
 y : f = false → fl = false ∧ ∃ m, m ≤ N ∧ lstP m v ≠ .out ∧ r = (lstP m v).bind fun l w => .ok (xs ++ l) w
 n : f = true → ∀ ys, Ans fl u r ys v true
theorem blk_eq (N : Nat) (u : List To) : blkP (N + 1) u = (sgR 4 [123] u).bind fun _ v => lstP N v := by rw [blkP, sgS_bind]
theorem LsI.new {fl g : Bool} {u v : List To} {N : Nat} (h : Ans fl u (sgR 4 [123] u) () v g) (ho : fl = false → blkP (N + 1) u ≠ .out) : LsI (blkP (N + 1) u) fl u N [] v g := by
 rw [blk_eq] at ho ⊢
 generalize sgR 4 [123] u = q at *
 cases h with
 | fail => exact ⟨fun e => (by cases e), fun _ ys => .fail _ _ _⟩
 | ok =>
  have h1 := ho rfl
  rw [R.bind_ok] at h1 ⊢
  refine ⟨fun _ => ⟨rfl, N, Nat.le_refl _, h1, ?_⟩, fun e => (by cases e)⟩
  cases lstP N v <;> rfl
 | bad => exact ⟨fun e => (by cases e), fun _ ys => .bad _ _ _⟩
theorem LsI.go {r : R (List St)} {fl : Bool} {u v : List To} {xs : List St} {N : Nat} (h : LsI r fl u N xs v false) (hc : ¬ isS [125] v = true) :
 ∃ j, j + 2 ≤ N ∧ staP (j + 1) v ≠ .out ∧ ∀ y v2 f2, Ans false v (staP (j + 1) v) y v2 f2 → LsI r fl u N (xs ++ [y]) v2 f2 := by
 obtain ⟨rfl, m, hm, ho, hr⟩ := h.y rfl
 obtain ⟨k, rfl⟩ : ∃ k, m = k + 1 := ⟨m - 1, by
  rcases m with _ | m
  · exact absurd rfl ho
  · rfl⟩
 rw [lstP, if_neg hc] at ho hr
 obtain ⟨j, rfl⟩ : ∃ j, k = j + 1 := ⟨k - 1, by
  rcases k with _ | k
  · exact absurd rfl ho
  · rfl⟩
 refine ⟨j, hm, R.bind_ne ho, fun y v2 f2 ha => ?_⟩
 generalize staP (j + 1) v = q at *
 cases ha with
 | ok =>
  rw [R.bind_ok] at ho hr
  refine ⟨fun _ => ⟨rfl, j + 1, by omega, R.bind_ne ho, ?_⟩, fun e => (by cases e)⟩
  rw [hr, R.bind_assoc]
  refine bind_cong fun l w _ => ?_
  rw [R.bind_ok, List.append_assoc]
  rfl
 | bad =>
  rw [R.bind_bad, R.bind_bad] at hr
  exact ⟨fun e => (by cases e), fun _ ys => by rw [hr]; exact .bad _ _ _⟩
theorem LsI.end_ {r : R (List St)} {fl f f2 : Bool} {u v v2 : List To} {xs : List St} {N : Nat} (h : LsI r fl u N xs v f) (hc : f = false → isS [125] v = true) (ha : Ans f v (sgR 4 [125] v) () v2 f2) : Ans fl u r xs v2 f2 := by
 cases f with
 | true =>
  cases ha
  exact h.n rfl xs
 | false =>
  obtain ⟨rfl, m, hm, ho, hr⟩ := h.y rfl
  obtain ⟨k, rfl⟩ : ∃ k, m = k + 1 := ⟨m - 1, by
   rcases m with _ | m
   · exact absurd rfl ho
   · rfl⟩
  rw [lstP, if_pos (hc rfl), R.bind_ok, List.append_nil] at hr
  have e : sgR 4 [125] v = .ok () v.tail := by unfold sgR; rw [if_pos (show isT 4 [125] v = true from hc rfl)]
  rw [e] at ha
  rw [hr]
  cases ha
  exact .ok _ _ _
section
variable {w : World} {gp : Nat} {A : Option Addr} {c N : Nat} {l u : List To} {fl : Bool}
set_option maxRecDepth 100000 in
set_option maxHeartbeats 1000000 in
theorem rblock_step (HH : ∀ j, j < N → StH gp A c l j) (h : Rp w gp A c l u fl) (hne : fl = false → blkP (N + 1) u ≠ .out) : Calls Try.prog 41 #[.pointer (some ⟨gp, 0, none⟩)] w (RB w gp A c l u fl (blkP (N + 1) u)) := by
 have hlt := h.lt
 have H0 := Lib.hid h
 have HL0 := Lib.hid (fun v g (q : Ans fl u (sgR 4 [123] u) () v g) => LsI.new q hne)
 obtain ⟨r, hr⟩ : ∃ r, blkP (N + 1) u = r := ⟨_, rfl⟩
 rw [hr] at HL0 ⊢
 have HHH := Lib.hid HH
 clear h hr hne HH
 go_enter Try.func41, Try.ntmps41
 go_wp2_with fail
 refine (rsign_any H0.out [123] (by decide)).mono ?_
 rintro e W1 ⟨rfl, u1, g1, ha1, hp1, hg1⟩
 have HL := Lib.hid (HL0.out _ _ ha1)
 have HK := Lib.hid (Br.new0 hp1 hg1 hlt)
 have HN := Lib.hid (show g1 = false → u1.length ≤ l.length from fun _ => by obtain ⟨k, _, hk, _⟩ := hp1.k; rw [hk]; simp)
 clear ha1 hp1 hg1 H0 HL0
 go_wp2_with fail
 go_loopw [3] (fun v3 wr => ∃ (xs : List XS) (v : List To) (f : Bool), Hid (Br w gp A c l v3 xs wr v f) ∧ Hid (LsI r fl u N (xssd xs) v f) ∧ Hid (f = false → xs.length + v.length ≤ l.length)) (fun _ wr => lfR wr gp l)
 case atStart => exact ⟨[], u1, g1, HK, HL, Lib.hid (fun q => by have := HN.out q; simpa using this)⟩
 case round =>
  clear HK HL HN
  obtain ⟨xs, v, f, K, HL, HM⟩ := hrel
  have HME := Lib.hid K.out.p.lfR
  obtain ⟨k, hk, hu, hc⟩ := K.out.p.k
  have p2 := hc.cell (j := 2) (by simp)
  simp only [List.getElem_cons_zero, List.getElem_cons_succ] at p2
  have lg := K.out.p.lt
  clear hu hc hk
  cases f with
  | true =>
   go_wp2_with fail
   refine (rsign_any K.out.p [125] (by decide)).mono ?_
   rintro e Y3 ⟨rfl, u9, g9, ha9, hp9, hg9⟩
   have K3 := K.out.step hp9 hg9
   have HE := Lib.hid (HL.out.end_ (fun q => (by cases q)) ha9)
   clear K
   go_wp2_with fail
   go_ret
   obtain ⟨A2, c2, rfl, hrow⟩ := K3.r.rowP
   exact ⟨A2, c2, xs, u9, g9, rfl, HE.out, hrow, K3.k.keep' rfl fun _ q => q.1, K3.p, K3.g⟩
  | false =>
   go_wp2_with fail
   refine (ris_any K.out.p 4 [125]).mono ?_
   rintro e Y2 ⟨rfl, m2, hm2⟩
   have K2 := Lib.hid (show Br w gp A c l u3 xs Y2 v false by rw [hm2]; exact K.out.below (below_draws m2))
   clear hm2 K p2 lg
   rw [isX_T (by decide)]
   cases b2 : (!false && isT 4 [125] v) with
   | true =>
    go_wp2_with fail
    refine (rsign_any K2.out.p [125] (by decide)).mono ?_
    rintro e Y3 ⟨rfl, u9, g9, ha9, hp9, hg9⟩
    have K3 := K2.out.step hp9 hg9
    have HE := Lib.hid (HL.out.end_ (fun _ => (and_not b2).2) ha9)
    clear K2
    go_wp2_with fail
    go_ret
    obtain ⟨A2, c2, rfl, hrow⟩ := K3.r.rowP
    exact ⟨A2, c2, xs, u9, g9, rfl, HE.out, hrow, K3.k.keep' rfl fun _ q => q.1, K3.p, K3.g⟩
   | false =>
    obtain ⟨j, hj, hso, hgo⟩ := HL.out.go (show ¬ isS [125] v = true from and_nt b2 rfl)
    have HG := Lib.hid hgo
    have HS := Lib.hid (rstmt_any (HHH.out j (by omega)) K2.out.p (fun _ => hso))
    clear hgo hso hj
    go_wp2_with fail
    refine HS.out.mono ?_
    rintro e Z ⟨t, v2, f2, rfl, ha2, ho2, hp2, hg2⟩
    have HE := Lib.hid (show f2 = false → v2.length + 1 ≤ v.length by
     intro q
     subst q
     exact (enoughS _).1 v |>.2 _ _ ha2.ok_eq.2)
    have HL2 := Lib.hid (HG.out _ _ _ ha2)
    clear HG HS HL ha2
    obtain ⟨a0, a1, a2, a3, a4, ty, kA, kc, ks, bA, bc, bd, eA, ec, el⟩ := t
    have K4 := K2.out.step hp2 hg2
    have hob : ∀ g, u3.ownBlock = some g → g < Y2.heap.size := fun g q => (K2.out.r.lt g q).2.1
    have hbW := K2.out.g.size
    have HX := Lib.hid ((ho2.up (Q := fun g => w.heap.size ≤ g ∧ u3.ownBlock ≠ some g) fun g q => ⟨by omega, fun e => by have := hob g e; omega⟩).below (below_lnew Z (.cells #[.int .u8 a0, .int .i64 a1, .string (str a2), .string (str a3), .string (str a4), .int .u8 ty.kd, .int .i64 ty.n, .string (str ty.nm), .slice kA ks.length kc, .slice bA bd.length bc, .slice eA el.length ec] 51)))
    have K5 := Lib.hid (K4.below (below_lnew Z (.cells #[.int .u8 a0, .int .i64 a1, .string (str a2), .string (str a3), .string (str a4), .int .u8 ty.kd, .int .i64 ty.n, .string (str ty.nm), .slice kA ks.length kc, .slice bA bd.length bc, .slice eA el.length ec] 51)))
    have HB := Lib.hid (heap_alloc_new Z (.cells #[.int .u8 a0, .int .i64 a1, .string (str a2), .string (str a3), .string (str a4), .int .u8 ty.kd, .int .i64 ty.n, .string (str ty.nm), .slice kA ks.length kc, .slice bA bd.length bc, .slice eA el.length ec] 51))
    have HLn := Lib.hid (show xs.length ≤ 1000000 by have := HM.out (by trivial); have := K5.out.p.n; omega)
    have HM2 := Lib.hid (show f2 = false → (xs ++ [XS.mk a0 a1 a2 a3 a4 ty kA kc ks bA bc bd eA ec el]).length + v2.length ≤ l.length by
     intro q
     have h1 := HE.out q
     have h2 := HM.out (by trivial)
     rw [List.length_append, List.length_singleton]
     omega)
    have HLE := Lib.hid (show (if f2 = true then 0 else v2.length + 1) < v.length + 1 by
     cases f2 with
     | true => rw [if_pos rfl]; omega
     | false => rw [if_neg (by decide)]; have := HE.out rfl; omega)
    have HL3 := Lib.hid (show LsI r fl u N (xssd (xs ++ [XS.mk a0 a1 a2 a3 a4 ty kA kc ks bA bc bd eA ec el])) v2 f2 by rw [xssd_map, List.map_append, ← xssd_map]; exact HL2.out)
    clear hp2 hg2 ho2 hob hbW K4 HE HM HL2
    unfold sV XS.cs
    go_wp2_with (at_builtin; refine El.app1x eSt _ rfl 46 (.agg #[.int .u8 0, .int .i64 0, .string ⟨#[]⟩, .string ⟨#[]⟩, .string ⟨#[]⟩, .int .u8 0, .int .i64 0, .string ⟨#[]⟩, .slice none 0 0, .slice none 0 0, .slice none 0 0]) 168 Try.underlying46 st_info rfl (by decide) (by decide) (.tmp 16) (.tmp 19) rfl w.heap.size u3 xs rfl K5.out.r Z.heap.size 1 (.mk a0 a1 a2 a3 a4 ty kA kc ks bA bc bd eA ec el) rfl 51 HB.out HLn.out K5.out.g.size ?_; intro v9 Z9 ho9 hg9 hk9)
    have hR := K5.out.add HX.out hg9 ho9 hk9
    have e2 := hR.p.lfR
    refine ⟨⟨_, v2, f2, Lib.hid hR, HL3, HM2⟩, ?_⟩
    have e3 := HME.out
    rw [if_neg (by decide)] at e3
    rw [e3]
    exact Nat.lt_of_le_of_lt (Nat.le_of_eq e2) HLE.out
theorem rblock_all : ∀ n, StH gp A c l n := by
 intro n
 induction n using Nat.strongRecOn with
 | _ n ih =>
  refine ⟨fun W v f h hne => ?_⟩
  rcases n with _ | N
  · cases f with
    | false => exact absurd rfl (hne rfl)
    | true =>
     refine (rblock_step (N := 0) (fun j hj => absurd hj (by omega)) h (fun q => (by cases q))).mono fun e w' ⟨bA, bc, bs, u', f', he, ha, hr⟩ => ⟨bA, bc, bs, u', f', he, ha.cond (fun q => (by cases q)), hr⟩
  · exact rblock_step (fun j hj => ih j (by omega)) h hne
theorem rblock_any (h : Rp w gp A c l u fl) : Calls Try.prog 41 #[.pointer (some ⟨gp, 0, none⟩)] w (RB w gp A c l u fl (blP u)) := (rblock_all _).b w u fl h (fun _ => blP_ne u)
end
end Go.Proofs.Ytjllbacefbjjaaa
