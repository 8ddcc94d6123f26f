/-
  Merged for a claim: S2F.
-/
import Derived.Test.YtjllbacefbjjaaaZJ10
namespace Go.Proofs.Ytjllbacefbjjaaa
open Go Go.RowKit

theorem prim_U {n : Nat} {u : List To} (h : isU u = true) : prim (n + 1) u = (prim n u.tail).bind fun x v => .ok (eUn (hd u).tx x) v := by rw [prim, if_pos h]
theorem prim_P {n : Nat} {u : List To} (h1 : ¬ isU u = true) (h : isS [40] u = true) : prim (n + 1) u = (lev n 0 u.tail).bind fun x v => (sgR 4 [41] v).bind fun _ v2 => .ok x v2 := by
 rw [prim, if_neg h1, if_pos h]
 simp only [sgS_bind]
theorem prim_E {n : Nat} {u : List To} (h1 : ¬ isU u = true) (h2 : ¬ isS [40] u = true) (h : isE u = true) : prim (n + 1) u = (lev n 0 u.tail.tail).bind fun x v => (sgR 4 [93] v).bind fun _ v2 => .ok (eElem (hd u).tx x) v2 := by
 rw [prim, if_neg h1, if_neg h2, if_pos h]
 simp only [sgS_bind]
theorem prim_L {n : Nat} {u : List To} (h1 : ¬ isU u = true) (h2 : ¬ isS [40] u = true) (h : ¬ isE u = true) : prim (n + 1) u = leafP u := by rw [prim, if_neg h1, if_neg h2, if_neg h]
theorem isU_no {u : List To} (h1 : ¬ isT 4 [45] u = true) (h2 : ¬ isT 4 [33] u = true) : ¬ isU u = true := by
 unfold isU isS
 rw [Bool.or_eq_true]
 exact fun h => h.elim h1 h2
theorem isT_K {kd : Int} {tx : List UInt8} {u : List To} (h : isT kd tx u = true) : isK kd u = true := by
 cases u with
 | nil => cases h
 | cons t v =>
  unfold isT at h
  rw [Bool.and_eq_true] at h
  exact h.1
theorem isK_one {a b : Int} {u : List To} (h : isK a u = true) (h2 : isK b u = true) : a = b := by
 cases u with
 | nil => cases h
 | cons t v =>
  simp [isK] at h h2
  omega
theorem isE_no {kd : Int} {u : List To} (h : isK kd u = true) (hk : kd ≠ 1) : ¬ isE u = true := by
 unfold isE
 rw [Bool.and_eq_true]
 exact fun q => hk (isK_one h q.1)
theorem isE_no1 {u : List To} (h : ¬ isK 1 u = true) : ¬ isE u = true := by
 unfold isE
 rw [Bool.and_eq_true]
 exact fun q => h q.1
theorem isE_no2 {u : List To} (h : ¬ isT 4 [91] u.tail = true) : ¬ isE u = true := by
 unfold isE
 rw [Bool.and_eq_true]
 exact fun q => h q.2
theorem ans_K1 {kd : Int} {u u1 : List To} {fl : Bool} {t : To} (h : Ans fl u (takeR kd [] u) t u1 false) : fl = false ∧ isK kd u = true ∧ t = hd u ∧ u1 = u.tail := by
 rw [takeR_K] at h
 by_cases q : isK kd u = true
 · rw [if_pos q] at h
   cases h
   exact ⟨rfl, q, rfl, rfl⟩
 · rw [if_neg q] at h
   cases h
theorem ans_K0 {kd : Int} {u u1 : List To} {t : To} (h : Ans false u (takeR kd [] u) t u1 true) : ¬ isK kd u = true ∧ u1 = u := by
 rw [takeR_K] at h
 by_cases q : isK kd u = true
 · rw [if_pos q] at h
   cases h
 · rw [if_neg q] at h
   cases h
   exact ⟨q, rfl⟩
structure PrH (gp : Nat) (A : Option Addr) (c : Nat) (l : List To) (n : Nat) : Prop where
 p : ∀ (W : World) (v : List To), Rp W gp A c l v false → prim n v ≠ .out → Calls Try.prog 79 #[.pointer (some ⟨gp, 0, none⟩)] W (RX W gp A c l v false (prim n v))
 e : ∀ (W : World) (v : List To), Rp W gp A c l v false → lev n 0 v ≠ .out → Calls Try.prog 74 #[.pointer (some ⟨gp, 0, none⟩), .int .i64 0] W (RX W gp A c l v false (lev n 0 v))
section
variable {w : World} {gp : Nat} {A : Option Addr} {c : Nat} {l u : List To} {fl : Bool} {n : Nat}
set_option maxRecDepth 100000 in
set_option maxHeartbeats 2000000 in
theorem rprim_step (HH : PrH gp A c l n) (h : Rp w gp A c l u fl) (hne : fl = false → prim (n + 1) u ≠ .out) :
 Calls Try.prog 79 #[.pointer (some ⟨gp, 0, none⟩)] w (RX w gp A c l u fl (prim (n + 1) u)) := by
 have H0 := Lib.hid (Rw.new h 53 zE)
 obtain ⟨r, hr⟩ : ∃ r, prim (n + 1) u = r := ⟨_, rfl⟩
 rw [hr] at hne
 rw [hr]
 have HR := Lib.hid hr.symm
 have HO := Lib.hid hne
 have HHH := Lib.hid HH
 have hf1 := tok_f1
 have hf2 := tok_f2
 clear h hr hne HH
 go_enter Try.func79, Try.ntmps79
 go_wp2_with fail
 refine (H0.out.is 4 [45]).mono ?_
 rintro e X1 ⟨rfl, K1⟩
 have K1 := Lib.hid K1
 clear H0
 rw [isX_T (by decide)]
 cases b1 : (!fl && isT 4 [45] u) with
 | true =>
  obtain ⟨hf, ht⟩ := and_not b1
  have HT := Lib.hid ht
  clear ht
  subst hf
  have HU := Lib.hid (show isU u = true by unfold isU isS; rw [HT.out]; rfl)
  go_wp2_with fail
  refine (K1.out.take 4 []).mono ?_
  rintro e Y1 ⟨t, u1, g1, rfl, HA1, M1⟩
  obtain ⟨rfl, rfl, rfl⟩ := ans_K HA1.out (isT_K HT.out)
  have M1 := Lib.hid M1
  clear K1 HA1
  unfold tV tS
  go_wp2_with fail
  refine (HHH.out.p _ _ M1.out.p (fun q => HO.out (by trivial) (by rw [HR.out, prim_U HU.out, q]; rfl))).mono ?_
  intro e Y2 hx
  obtain ⟨t, u2, g2, rfl, HA2, HT2, M2, _⟩ := M1.out.rx hx
  have M2 := Lib.hid M2
  clear hx M1
  have HD := Lib.hid (show Ans false u r (eUn (hd u).tx t.d) u2 g2 by rw [HR.out, prim_U HU.out]; exact (Ans.end_ HA2.out fun x => eUn (hd u).tx x).re)
  clear HA2
  obtain ⟨r0, r1, r2, r3, r4, r5, rf0, rf1, rf2, rf3, rf4, rf5⟩ := zE_cells M2.out.z
  have l2 := M2.out.z.lt
  obtain ⟨kd, nu, nm, f, op, B, d, ks⟩ := t
  unfold xV XT.cs
  go_wp2_with fail
  exact rback_one rfl rfl M2.out [.mk kd nu nm f op B d ks] ⟨HT2.out, trivial⟩ 1 rfl 6 0 [] [] (hd u).tx _ rfl HD.out
 | false =>
 go_wp2_with fail
 refine (K1.out.is 4 [33]).mono ?_
 rintro e X2 ⟨rfl, K2⟩
 have K2 := Lib.hid K2
 clear K1
 rw [isX_T (by decide)]
 cases b2 : (!fl && isT 4 [33] u) with
 | true =>
  obtain ⟨hf, ht⟩ := and_not b2
  have HT := Lib.hid ht
  clear ht
  subst hf
  have HU := Lib.hid (show isU u = true by unfold isU isS; rw [HT.out]; simp)
  go_wp2_with fail
  refine (K2.out.take 4 []).mono ?_
  rintro e Y1 ⟨t, u1, g1, rfl, HA1, M1⟩
  obtain ⟨rfl, rfl, rfl⟩ := ans_K HA1.out (isT_K HT.out)
  have M1 := Lib.hid M1
  clear K2 HA1
  unfold tV tS
  go_wp2_with fail
  refine (HHH.out.p _ _ M1.out.p (fun q => HO.out (by trivial) (by rw [HR.out, prim_U HU.out, q]; rfl))).mono ?_
  intro e Y2 hx
  obtain ⟨t, u2, g2, rfl, HA2, HT2, M2, _⟩ := M1.out.rx hx
  have M2 := Lib.hid M2
  clear hx M1
  have HD := Lib.hid (show Ans false u r (eUn (hd u).tx t.d) u2 g2 by rw [HR.out, prim_U HU.out]; exact (Ans.end_ HA2.out fun x => eUn (hd u).tx x).re)
  clear HA2
  obtain ⟨r0, r1, r2, r3, r4, r5, rf0, rf1, rf2, rf3, rf4, rf5⟩ := zE_cells M2.out.z
  have l2 := M2.out.z.lt
  obtain ⟨kd, nu, nm, f, op, B, d, ks⟩ := t
  unfold xV XT.cs
  go_wp2_with fail
  exact rback_one rfl rfl M2.out [.mk kd nu nm f op B d ks] ⟨HT2.out, trivial⟩ 1 rfl 6 0 [] [] (hd u).tx _ rfl HD.out
 | false =>
 go_wp2_with fail
 refine (K2.out.is 4 [40]).mono ?_
 rintro e X3 ⟨rfl, K3⟩
 have K3 := Lib.hid K3
 clear K2
 rw [isX_T (by decide)]
 cases b3 : (!fl && isT 4 [40] u) with
 | true =>
  obtain ⟨hf, ht⟩ := and_not b3
  have HT := Lib.hid ht
  clear ht
  subst hf
  obtain ⟨k, hk, p1, f1, l1, l2, l3, l4, HI⟩ := K3.out.at_
  have K := Lib.hid (HI.out (isT_ne HT.out))
  clear HI
  have HE := Lib.hid (prim_P (n := n) (isU_no (and_nt b1 rfl) (and_nt b2 rfl)) (show isS [40] u = true from HT.out))
  clear K3
  go_wp2_with fail
  refine (HHH.out.e _ _ K.out.p (fun q => HO.out (by trivial) (by rw [HR.out, HE.out, q]; rfl))).mono ?_
  intro e Y2 hx
  obtain ⟨t, u2, g2, rfl, HA2, HT2, M2, _⟩ := K.out.rx hx
  have M2 := Lib.hid M2
  clear hx K p1 f1 l1 l2
  obtain ⟨kd, nu, nm, f, op, B, d, ks⟩ := t
  obtain ⟨L1, L2, L3⟩ := M2.out.loc (.mk kd nu nm f op B d ks) HT2.out #[.int .u8 kd, .int .i64 nu, .string (str nm), .string (str f), .string (str op), .slice B ks.length d] rfl
  have L1 := Lib.hid L1
  have L2 := Lib.hid L2
  have L3 := Lib.hid L3
  unfold xV XT.cs
  go_wp2_with fail
  refine (rsign_any L1.out.p [41] (by decide)).mono ?_
  rintro e Y3 ⟨rfl, u3, g3, ha3, hp3, hg3⟩
  have HA3 := Lib.hid ha3
  have M3 := Lib.hid (L1.out.step hp3 hg3)
  have HT3 := Lib.hid (L2.out.grown L1.out.p hg3)
  have hc3 := loc_keep L3.out L1.out.p hg3
  clear ha3 hp3 hg3 L1 L2 L3 HT2
  have c0 := hc3.cell (j := 0) (by simp [XT.cs])
  have c1 := hc3.cell (j := 1) (by simp [XT.cs])
  have c2 := hc3.cell (j := 2) (by simp [XT.cs])
  have c3 := hc3.cell (j := 3) (by simp [XT.cs])
  have c4 := hc3.cell (j := 4) (by simp [XT.cs])
  have c5 := hc3.cell (j := 5) (by simp [XT.cs])
  have l5 := hc3.lt
  simp only [XT.cs, List.getElem_cons_zero, List.getElem_cons_succ] at c0 c1 c2 c3 c4 c5
  clear hc3
  obtain ⟨r0, r1, r2, r3, r4, r5, rf0, rf1, rf2, rf3, rf4, rf5⟩ := zE_cells M3.out.z
  have l2 := M3.out.z.lt
  go_wp2_with fail
  refine rback_exp rfl rfl M3.out (XT.mk kd nu nm f op B d ks) HT3.out ?_
  rw [HR.out, HE.out]
  exact Ans.then HA2.out.re (Ans.end_ HA3.out fun _ => XT.d (.mk kd nu nm f op B d ks))
 | false =>
 go_wp2_with fail
 refine (K3.out.is 2 []).mono ?_
 rintro e X4 ⟨rfl, K4⟩
 have K4 := Lib.hid K4
 clear K3
 rw [isX_K]
 cases b4 : (!fl && isK 2 u) with
 | true =>
  obtain ⟨hf, ht⟩ := and_not b4
  have HT := Lib.hid ht
  clear ht
  subst hf
  go_wp2_with fail
  refine (K4.out.take 2 []).mono ?_
  rintro e Y1 ⟨t, u1, g1, rfl, HA1, M1⟩
  obtain ⟨rfl, rfl, rfl⟩ := ans_K HA1.out HT.out
  have M1 := Lib.hid M1
  clear K4 HA1
  obtain ⟨r0, r1, r2, r3, r4, r5, rf0, rf1, rf2, rf3, rf4, rf5⟩ := zE_cells M1.out.z
  have l2 := M1.out.z.lt
  unfold tV tS
  go_wp2_with fail
  refine rback_exp rfl rfl M1.out (xLeaf 1 (hd u).nu [] [] []) (rleaf_ok _ _ _ _ _) ?_
  rw [HR.out, prim_L (n := n) (isU_no (and_nt b1 rfl) (and_nt b2 rfl)) (show ¬ isS [40] u = true from and_nt b3 rfl) (isE_no HT.out (by decide)), leafP, if_pos HT.out, leaf_d]
  exact .ok _ _ _
 | false =>
 go_wp2_with fail
 refine (K4.out.is 3 [116, 114, 117, 101]).mono ?_
 rintro e X5 ⟨rfl, K5⟩
 have K5 := Lib.hid K5
 clear K4
 rw [isX_T (by decide)]
 cases b5 : (!fl && isT 3 [116, 114, 117, 101] u) with
 | true =>
  obtain ⟨hf, ht⟩ := and_not b5
  have HT := Lib.hid ht
  clear ht
  subst hf
  obtain ⟨k, hk, p1, f1, l1, l2, l3, l4, HI⟩ := K5.out.at_
  have K := Lib.hid (HI.out (isT_ne HT.out))
  clear HI
  obtain ⟨r0, r1, r2, r3, r4, r5, rf0, rf1, rf2, rf3, rf4, rf5⟩ := zE_cells K5.out.z
  have l7 := K5.out.z.lt
  clear K5
  go_wp2_with fail
  refine rback_exp rfl rfl K.out (xLeaf 2 1 [] [] []) (rleaf_ok _ _ _ _ _) ?_
  rw [HR.out, prim_L (n := n) (isU_no (and_nt b1 rfl) (and_nt b2 rfl)) (show ¬ isS [40] u = true from and_nt b3 rfl) (isE_no (isT_K HT.out) (by decide)), leafP, if_neg (show ¬ isK 2 u = true from and_nt b4 rfl), if_pos (show isW wTrue u = true from HT.out), leaf_d]
  exact .ok _ _ _
 | false =>
 go_wp2_with fail
 refine (K5.out.is 3 [102, 97, 108, 115, 101]).mono ?_
 rintro e X6 ⟨rfl, K6⟩
 have K6 := Lib.hid K6
 clear K5
 rw [isX_T (by decide)]
 cases b6 : (!fl && isT 3 [102, 97, 108, 115, 101] u) with
 | true =>
  obtain ⟨hf, ht⟩ := and_not b6
  have HT := Lib.hid ht
  clear ht
  subst hf
  obtain ⟨k, hk, p1, f1, l1, l2, l3, l4, HI⟩ := K6.out.at_
  have K := Lib.hid (HI.out (isT_ne HT.out))
  clear HI
  obtain ⟨r0, r1, r2, r3, r4, r5, rf0, rf1, rf2, rf3, rf4, rf5⟩ := zE_cells K6.out.z
  have l7 := K6.out.z.lt
  clear K6
  go_wp2_with fail
  refine rback_exp rfl rfl K.out (xLeaf 2 0 [] [] []) (rleaf_ok _ _ _ _ _) ?_
  rw [HR.out, prim_L (n := n) (isU_no (and_nt b1 rfl) (and_nt b2 rfl)) (show ¬ isS [40] u = true from and_nt b3 rfl) (isE_no (isT_K HT.out) (by decide)), leafP, if_neg (show ¬ isK 2 u = true from and_nt b4 rfl), if_neg (show ¬ isW wTrue u = true from and_nt b5 rfl), if_pos (show isW wFalse u = true from HT.out), leaf_d]
  exact .ok _ _ _
 | false =>
 go_wp2_with fail
 refine (K6.out.name).mono ?_
 rintro e Y1 ⟨t, u1, g1, rfl, HA1, M1⟩
 have M1 := Lib.hid M1
 clear K6
 go_wp2_with fail
 refine (M1.out.is 4 [91]).mono ?_
 rintro e X7 ⟨rfl, K7⟩
 have K7 := Lib.hid K7
 clear M1
 rw [isX_T (by decide)]
 cases b7 : (!g1 && isT 4 [91] u1) with
 | true =>
  obtain ⟨hg, ht⟩ := and_not b7
  subst hg
  obtain ⟨rfl, hk1, rfl, rfl⟩ := ans_K1 HA1.out
  have HK1 := Lib.hid hk1
  have HT := Lib.hid ht
  clear ht hk1 HA1
  obtain ⟨k, hk, p1, f1, l1, l2, l3, l4, HI⟩ := K7.out.at_
  have K := Lib.hid (HI.out (isT_ne HT.out))
  clear HI
  have HE := Lib.hid (prim_E (n := n) (isU_no (and_nt b1 rfl) (and_nt b2 rfl)) (show ¬ isS [40] u = true from and_nt b3 rfl) (show isE u = true by unfold isE; rw [HK1.out]; exact HT.out))
  clear K7
  go_wp2_with fail
  refine (HHH.out.e _ _ K.out.p (fun q => HO.out (by trivial) (by rw [HR.out, HE.out, q]; rfl))).mono ?_
  intro e Y2 hx
  obtain ⟨t, u2, g2, rfl, HA2, HT2, M2, _⟩ := K.out.rx hx
  have M2 := Lib.hid M2
  clear hx K p1 f1 l1 l2
  obtain ⟨kd, nu, nm, f, op, B, d, ks⟩ := t
  obtain ⟨L1, L2, L3⟩ := M2.out.loc (.mk kd nu nm f op B d ks) HT2.out #[.int .u8 kd, .int .i64 nu, .string (str nm), .string (str f), .string (str op), .slice B ks.length d] rfl
  have L1 := Lib.hid L1
  have L2 := Lib.hid L2
  have L3 := Lib.hid L3
  unfold xV XT.cs
  go_wp2_with fail
  refine (rsign_any L1.out.p [93] (by decide)).mono ?_
  rintro e Y3 ⟨rfl, u3, g3, ha3, hp3, hg3⟩
  have HA3 := Lib.hid ha3
  have M3 := Lib.hid (L1.out.step hp3 hg3)
  have HT3 := Lib.hid (L2.out.grown L1.out.p hg3)
  have hc3 := loc_keep L3.out L1.out.p hg3
  clear ha3 hp3 hg3 L1 L2 L3 HT2
  have c0 := hc3.cell (j := 0) (by simp [XT.cs])
  have c1 := hc3.cell (j := 1) (by simp [XT.cs])
  have c2 := hc3.cell (j := 2) (by simp [XT.cs])
  have c3 := hc3.cell (j := 3) (by simp [XT.cs])
  have c4 := hc3.cell (j := 4) (by simp [XT.cs])
  have c5 := hc3.cell (j := 5) (by simp [XT.cs])
  have l5 := hc3.lt
  simp only [XT.cs, List.getElem_cons_zero, List.getElem_cons_succ] at c0 c1 c2 c3 c4 c5
  clear hc3
  have HD := Lib.hid (show Ans false u r (eElem (hd u).tx (XT.d (.mk kd nu nm f op B d ks))) u3 g3 by rw [HR.out, HE.out]; exact Ans.then HA2.out.re (Ans.end_ HA3.out fun _ => eElem (hd u).tx (XT.d (.mk kd nu nm f op B d ks))))
  clear HA2 HA3
  obtain ⟨r0, r1, r2, r3, r4, r5, rf0, rf1, rf2, rf3, rf4, rf5⟩ := zE_cells M3.out.z
  have l2 := M3.out.z.lt
  go_wp2_with fail
  exact rback_one rfl rfl M3.out [.mk kd nu nm f op B d ks] ⟨HT3.out, trivial⟩ 1 rfl 4 0 (hd u).tx [] [] _ rfl HD.out
 | false =>
 go_wp2_with fail
 refine (K7.out.is 4 [46]).mono ?_
 rintro e X8 ⟨rfl, K8⟩
 have K8 := Lib.hid K8
 clear K7
 rw [isX_T (by decide)]
 cases b8 : (!g1 && isT 4 [46] u1) with
 | true =>
  obtain ⟨hg, ht⟩ := and_not b8
  subst hg
  obtain ⟨rfl, hk1, rfl, rfl⟩ := ans_K1 HA1.out
  have HK1 := Lib.hid hk1
  have HT := Lib.hid ht
  clear ht hk1 HA1
  obtain ⟨k, hk, p1, f1, l1, l2, l3, l4, HI⟩ := K8.out.at_
  have K := Lib.hid (HI.out (isT_ne HT.out))
  clear HI
  have HE := Lib.hid (prim_L (n := n) (isU_no (and_nt b1 rfl) (and_nt b2 rfl)) (show ¬ isS [40] u = true from and_nt b3 rfl) (isE_no2 (and_nt b7 rfl)))
  clear K8
  go_wp2_with fail
  refine (K.out.name).mono ?_
  rintro e Y2 ⟨t, u2, g2, rfl, HA2, M2⟩
  have M2 := Lib.hid M2
  clear K p1 f1 l1 l2
  obtain ⟨r0, r1, r2, r3, r4, r5, rf0, rf1, rf2, rf3, rf4, rf5⟩ := zE_cells M2.out.z
  have l2 := M2.out.z.lt
  go_wp2_with fail
  refine rback_exp rfl rfl M2.out (xLeaf 5 0 (hd u).tx t.tx []) (rleaf_ok _ _ _ _ _) ?_
  rw [HR.out, HE.out, leafP, if_neg (show ¬ isK 2 u = true from and_nt b4 rfl), if_neg (show ¬ isW wTrue u = true from and_nt b5 rfl), if_neg (show ¬ isW wFalse u = true from and_nt b6 rfl), ← tkK_bind, takeR_K, if_pos HK1.out, R.bind_ok, leafN, if_pos (show isS [46] u.tail = true from HT.out), ← tkK_bind, leaf_d]
  exact (Ans.end_ HA2.out fun t => eField (hd u).tx t.tx).re
 | false =>
 obtain ⟨r0, r1, r2, r3, r4, r5, rf0, rf1, rf2, rf3, rf4, rf5⟩ := zE_cells K8.out.z
 have l2 := K8.out.z.lt
 go_wp2_with fail
 refine rback_exp rfl rfl K8.out (xLeaf 3 0 t.tx [] []) (rleaf_ok _ _ _ _ _) ?_
 rw [HR.out, leaf_d]
 cases g1 with
 | false =>
  obtain ⟨rfl, hk1, rfl, rfl⟩ := ans_K1 HA1.out
  rw [prim_L (n := n) (isU_no (and_nt b1 rfl) (and_nt b2 rfl)) (show ¬ isS [40] u = true from and_nt b3 rfl) (isE_no2 (and_nt b7 rfl)), leafP, if_neg (show ¬ isK 2 u = true from and_nt b4 rfl), if_neg (show ¬ isW wTrue u = true from and_nt b5 rfl), if_neg (show ¬ isW wFalse u = true from and_nt b6 rfl), ← tkK_bind, takeR_K, if_pos hk1, R.bind_ok, leafN, if_neg (show ¬ isS [46] u.tail = true from and_nt b8 rfl)]
  exact .ok _ _ _
 | true =>
  cases fl with
  | true =>
   cases HA1.out
   exact .fail _ _ _
  | false =>
   obtain ⟨hk1, hu1⟩ := ans_K0 HA1.out
   rw [hu1, prim_L (n := n) (isU_no (and_nt b1 rfl) (and_nt b2 rfl)) (show ¬ isS [40] u = true from and_nt b3 rfl) (isE_no1 hk1), leafP, if_neg (show ¬ isK 2 u = true from and_nt b4 rfl), if_neg (show ¬ isW wTrue u = true from and_nt b5 rfl), if_neg (show ¬ isW wFalse u = true from and_nt b6 rfl), ← tkK_bind, takeR_K, if_neg hk1]
   exact .bad _ _ _
end
end Go.Proofs.Ytjllbacefbjjaaa
