/-
  Merged for a claim: S3F.
-/
import Derived.Test.YtjllbacefbjjaaaZJ18
namespace Go.Proofs.Ytjllbacefbjjaaa
open Go Go.RowKit

theorem Ans.if_end {α β : Type} {fl f : Bool} {u v : List To} {r : R α} {x : α} {y : β} {s : α → List To → R β} (h : Ans fl u r x v f) (hs : f = false → s x v = .ok y v) : Ans fl u (r.bind s) y v f := by
 cases h with
 | fail => exact .fail _ _ _
 | ok =>
  rw [R.bind_ok, hs rfl]
  exact .ok _ _ _
 | bad => exact .bad _ _ _
section
variable {w W : World} {gp : Nat} {A : Option Addr} {c n : Nat} {l u u' : List To} {fl f' : Bool}
set_option maxRecDepth 100000 in
set_option maxHeartbeats 2000000 in
theorem rstmt_any (HH : StH gp A c l n) (h : Rp w gp A c l u fl) (hne : fl = false → staP (n + 1) u ≠ .out) :
 Calls Try.prog 65 #[.pointer (some ⟨gp, 0, none⟩)] w (RS w gp A c l u fl (staP (n + 1) u)) := by
 rw [sta_eq] at hne ⊢
 have H0 := Lib.hid (Rw.new h 51 zSt)
 obtain ⟨r, hr⟩ : ∃ r, staR n u = r := ⟨_, rfl⟩
 rw [hr] at hne ⊢
 have HR := Lib.hid hr.symm
 have HNE := Lib.hid hne
 have HHH := Lib.hid HH
 clear h hr hne HH
 go_enter Try.func65, Try.ntmps65
 go_wp2_with fail
 refine (rline_any H0.out.p).mono ?_
 rintro e X0 ⟨rfl, m, hm⟩
 have K0 := Lib.hid (H0.out.draws m)
 rw [← hm] at K0
 clear hm H0
 have K1 := Lib.hid (Sw.new2 K0.out (hd u).ln)
 have l0 := K0.out.z.lt
 clear K0
 go_wp2_with fail
 refine (K1.out.is 3 [118, 97, 114]).mono ?_
 rintro e X2 ⟨rfl, K2⟩
 have K2 := Lib.hid K2
 clear K1
 rw [isX_T (by decide)]
 cases b1 : (!fl && isT 3 [118, 97, 114] u) with
 | true =>
  obtain ⟨k, hk, p1, f1, l1, l2, l3, l4, l5, l6, l7, HI⟩ := K2.out.at_
  obtain ⟨hf, ht⟩ := and_not b1
  subst hf
  have HT := Lib.hid ht
  have K3 := Lib.hid (HI.out (isT_ne ht))
  obtain ⟨⟨sc0, sc1, sc2, sc3, sc4, sc5, sc6, sc7, sc8, sc9, sc10⟩, sf0, sf1, sf2, sf3, sf4, sf5, sf6, sf7, sf8, sf9, sf10⟩ := K2.out.cells
  obtain ⟨⟨zc0, zc1, zc2, zc3, zc4, zc5, zc6, zc7, zc8, zc9, zc10⟩, zf0, zf1, zf2, zf3, zf4, zf5, zf6, zf7, zf8, zf9, zf10⟩ := K2.out.zeros
  clear ht HI K2
  go_wp2_with fail
  clear p1 f1
  clear sc0 sc1 sc2 sc3 sc4 sc5 sc6 sc7 sc8 sc9 sc10 sf0 sf1 sf2 sf3 sf4 sf5 sf6 sf7 sf8 sf9 sf10 zc0 zc1 zc2 zc3 zc4 zc5 zc6 zc7 zc8 zc9 zc10 zf0 zf1 zf2 zf3 zf4 zf5 zf6 zf7 zf8 zf9 zf10 l1 l2 l3 l4 l5 l6 l7
  refine (K3.out.kd_ 1).name.mono ?_
  rintro e Y1 ⟨t, v1, g1, rfl, HA1, M1⟩
  have M1 := Lib.hid M1
  clear K3
  obtain ⟨⟨sc0, sc1, sc2, sc3, sc4, sc5, sc6, sc7, sc8, sc9, sc10⟩, sf0, sf1, sf2, sf3, sf4, sf5, sf6, sf7, sf8, sf9, sf10⟩ := M1.out.cells
  obtain ⟨⟨zc0, zc1, zc2, zc3, zc4, zc5, zc6, zc7, zc8, zc9, zc10⟩, zf0, zf1, zf2, zf3, zf4, zf5, zf6, zf7, zf8, zf9, zf10⟩ := M1.out.zeros
  obtain ⟨k2, _, _, _, l1, l2, l3, l4, l5, l6, l7, _⟩ := M1.out.at_
  go_wp2_with fail
  clear sc0 sc1 sc2 sc3 sc4 sc5 sc6 sc7 sc8 sc9 sc10 sf0 sf1 sf2 sf3 sf4 sf5 sf6 sf7 sf8 sf9 sf10 zc0 zc1 zc2 zc3 zc4 zc5 zc6 zc7 zc8 zc9 zc10 zf0 zf1 zf2 zf3 zf4 zf5 zf6 zf7 zf8 zf9 zf10 l1 l2 l3 l4 l5 l6 l7
  refine ((M1.out.nm_ t.tx).kind true).mono ?_
  rintro e Y2 ⟨ty, v2, g2, rfl, HA2, M2⟩
  have M2 := Lib.hid M2
  clear M1
  obtain ⟨⟨sc0, sc1, sc2, sc3, sc4, sc5, sc6, sc7, sc8, sc9, sc10⟩, sf0, sf1, sf2, sf3, sf4, sf5, sf6, sf7, sf8, sf9, sf10⟩ := M2.out.cells
  obtain ⟨⟨zc0, zc1, zc2, zc3, zc4, zc5, zc6, zc7, zc8, zc9, zc10⟩, zf0, zf1, zf2, zf3, zf4, zf5, zf6, zf7, zf8, zf9, zf10⟩ := M2.out.zeros
  obtain ⟨k2, _, _, _, l1, l2, l3, l4, l5, l6, l7, _⟩ := M2.out.at_
  unfold tyV tyS
  go_wp2_with fail
  clear sc0 sc1 sc2 sc3 sc4 sc5 sc6 sc7 sc8 sc9 sc10 sf0 sf1 sf2 sf3 sf4 sf5 sf6 sf7 sf8 sf9 sf10 zc0 zc1 zc2 zc3 zc4 zc5 zc6 zc7 zc8 zc9 zc10 zf0 zf1 zf2 zf3 zf4 zf5 zf6 zf7 zf8 zf9 zf10 l1 l2 l3 l4 l5 l6 l7
  refine ((M2.out.ty_ ty).is 4 [61]).mono ?_
  rintro e Y3 ⟨rfl, M3⟩
  have M3 := Lib.hid M3
  clear M2
  rw [isX_T (by decide)]
  have HA := Lib.hid (fun (y : St) (v : List To) (g : Bool) (q : Ans g2 v2 ((if isS [61] v2 = true then (exP v2.tail).bind fun x z => .ok (stm 1 (hd u).ln t.tx [] [] ty [x]) z else .ok (stm 1 (hd u).ln t.tx [] [] ty []) v2 : R St).bind semi) y v g) => (show Ans false u r y v g by rw [HR.out, staR, if_pos (show isW wVar u = true from HT.out), varR]; simp only [R.bind_assoc]; exact Ans.then HA1.out.re (Ans.then HA2.out q)))
  clear HA1 HA2
  cases b2 : (!g2 && isT 4 [61] v2) with
  | true =>
   obtain ⟨k, hk, p1, f1, l1, l2, l3, l4, l5, l6, l7, HI⟩ := M3.out.at_
   obtain ⟨hf, ht⟩ := and_not b2
   subst hf
   have HT2 := Lib.hid ht
   have M4 := Lib.hid (HI.out (isT_ne ht))
   obtain ⟨⟨sc0, sc1, sc2, sc3, sc4, sc5, sc6, sc7, sc8, sc9, sc10⟩, sf0, sf1, sf2, sf3, sf4, sf5, sf6, sf7, sf8, sf9, sf10⟩ := M3.out.cells
   obtain ⟨⟨zc0, zc1, zc2, zc3, zc4, zc5, zc6, zc7, zc8, zc9, zc10⟩, zf0, zf1, zf2, zf3, zf4, zf5, zf6, zf7, zf8, zf9, zf10⟩ := M3.out.zeros
   clear ht HI M3
   go_wp2_with fail
   clear p1 f1
   clear sc0 sc1 sc2 sc3 sc4 sc5 sc6 sc7 sc8 sc9 sc10 sf0 sf1 sf2 sf3 sf4 sf5 sf6 sf7 sf8 sf9 sf10 zc0 zc1 zc2 zc3 zc4 zc5 zc6 zc7 zc8 zc9 zc10 zf0 zf1 zf2 zf3 zf4 zf5 zf6 zf7 zf8 zf9 zf10 l1 l2 l3 l4 l5 l6 l7
   refine M4.out.exp.mono ?_
   rintro e Y5 ⟨x, v3, g3, rfl, HA3, HX, M5⟩
   have M5 := Lib.hid M5
   obtain ⟨⟨sc0, sc1, sc2, sc3, sc4, sc5, sc6, sc7, sc8, sc9, sc10⟩, sf0, sf1, sf2, sf3, sf4, sf5, sf6, sf7, sf8, sf9, sf10⟩ := M5.out.cells
   obtain ⟨⟨zc0, zc1, zc2, zc3, zc4, zc5, zc6, zc7, zc8, zc9, zc10⟩, zf0, zf1, zf2, zf3, zf4, zf5, zf6, zf7, zf8, zf9, zf10⟩ := M5.out.zeros
   obtain ⟨k2, _, _, _, l1, l2, l3, l4, l5, l6, l7, _⟩ := M5.out.at_
   obtain ⟨kd, nu, nm2, f2, op, B, d, ks⟩ := x
   unfold xV XT.cs
   go_wp2_with fail
   clear sc0 sc1 sc2 sc3 sc4 sc5 sc6 sc7 sc8 sc9 sc10 sf0 sf1 sf2 sf3 sf4 sf5 sf6 sf7 sf8 sf9 sf10 zc0 zc1 zc2 zc3 zc4 zc5 zc6 zc7 zc8 zc9 zc10 zf0 zf1 zf2 zf3 zf4 zf5 zf6 zf7 zf8 zf9 zf10 l1 l2 l3 l4 l5 l6 l7
   refine ((M5.out.kids [.mk kd nu nm2 f2 op B d ks] ⟨HX.out, trivial⟩ 1 rfl #[.int .u8 kd, .int .i64 nu, .string (str nm2), .string (str f2), .string (str op), .slice B ks.length d] rfl).sign [59] (by decide)).mono ?_
   rintro e Y6 ⟨rfl, v6, g6, HA4, M6⟩
   have M6 := Lib.hid M6
   obtain ⟨⟨sc0, sc1, sc2, sc3, sc4, sc5, sc6, sc7, sc8, sc9, sc10⟩, sf0, sf1, sf2, sf3, sf4, sf5, sf6, sf7, sf8, sf9, sf10⟩ := M6.out.cells
   obtain ⟨⟨zc0, zc1, zc2, zc3, zc4, zc5, zc6, zc7, zc8, zc9, zc10⟩, zf0, zf1, zf2, zf3, zf4, zf5, zf6, zf7, zf8, zf9, zf10⟩ := M6.out.zeros
   obtain ⟨k2, _, _, _, l1, l2, l3, l4, l5, l6, l7, _⟩ := M6.out.at_
   go_wp2_with fail
   refine sw_end rfl rfl M6.out rfl ?_
   refine HA.out _ _ _ ?_
   rw [if_pos (show isS [61] v2 = true from HT2.out)]
   exact (Ans.semi (g := fun x => stm 1 (hd u).ln t.tx [] [] ty [x]) HA3.out HA4.out).re
  | false =>
   go_wp2_with fail
   refine (M3.out.sign [59] (by decide)).mono ?_
   rintro e Y6 ⟨rfl, v6, g6, HA4, M6⟩
   have M6 := Lib.hid M6
   obtain ⟨⟨sc0, sc1, sc2, sc3, sc4, sc5, sc6, sc7, sc8, sc9, sc10⟩, sf0, sf1, sf2, sf3, sf4, sf5, sf6, sf7, sf8, sf9, sf10⟩ := M6.out.cells
   obtain ⟨⟨zc0, zc1, zc2, zc3, zc4, zc5, zc6, zc7, zc8, zc9, zc10⟩, zf0, zf1, zf2, zf3, zf4, zf5, zf6, zf7, zf8, zf9, zf10⟩ := M6.out.zeros
   obtain ⟨k2, _, _, _, l1, l2, l3, l4, l5, l6, l7, _⟩ := M6.out.at_
   go_wp2_with fail
   refine sw_end rfl rfl M6.out rfl ?_
   refine HA.out _ _ _ ?_
   refine Ans.cond (r1 := semi (stm 1 (hd u).ln t.tx [] [] ty []) v2) ?_ fun hf => by subst hf; rw [if_neg (show ¬ isS [61] v2 = true from and_nt b2 rfl)]; rfl
   rw [semi_eq]
   exact Ans.end_ HA4.out fun _ => stm 1 (hd u).ln t.tx [] [] ty []
 | false =>
 go_wp2_with fail
 refine (K2.out.is 3 [105, 102]).mono ?_
 rintro e X3 ⟨rfl, K3⟩
 have K3 := Lib.hid K3
 clear K2
 rw [isX_T (by decide)]
 cases b2 : (!fl && isT 3 [105, 102] u) with
 | true =>
  obtain ⟨k, hk, p1, f1, l1, l2, l3, l4, l5, l6, l7, HI⟩ := K3.out.at_
  obtain ⟨hf, ht⟩ := and_not b2
  subst hf
  have HT := Lib.hid ht
  have K4 := Lib.hid (HI.out (isT_ne ht))
  obtain ⟨⟨sc0, sc1, sc2, sc3, sc4, sc5, sc6, sc7, sc8, sc9, sc10⟩, sf0, sf1, sf2, sf3, sf4, sf5, sf6, sf7, sf8, sf9, sf10⟩ := K3.out.cells
  obtain ⟨⟨zc0, zc1, zc2, zc3, zc4, zc5, zc6, zc7, zc8, zc9, zc10⟩, zf0, zf1, zf2, zf3, zf4, zf5, zf6, zf7, zf8, zf9, zf10⟩ := K3.out.zeros
  clear ht HI K3
  go_wp2_with fail
  clear p1 f1
  clear sc0 sc1 sc2 sc3 sc4 sc5 sc6 sc7 sc8 sc9 sc10 sf0 sf1 sf2 sf3 sf4 sf5 sf6 sf7 sf8 sf9 sf10 zc0 zc1 zc2 zc3 zc4 zc5 zc6 zc7 zc8 zc9 zc10 zf0 zf1 zf2 zf3 zf4 zf5 zf6 zf7 zf8 zf9 zf10 l1 l2 l3 l4 l5 l6 l7
  have HE := Lib.hid (HR.out.trans (show staR n u = _ by rw [staR, if_neg (show ¬ isW wVar u = true from and_nt b1 rfl), if_pos (show isW wIf u = true from HT.out)]))
  refine (K4.out.kd_ 6).exp.mono ?_
  rintro e Y1 ⟨x, v1, g1, rfl, HA1, HX, M1⟩
  have M1 := Lib.hid M1
  obtain ⟨⟨sc0, sc1, sc2, sc3, sc4, sc5, sc6, sc7, sc8, sc9, sc10⟩, sf0, sf1, sf2, sf3, sf4, sf5, sf6, sf7, sf8, sf9, sf10⟩ := M1.out.cells
  obtain ⟨⟨zc0, zc1, zc2, zc3, zc4, zc5, zc6, zc7, zc8, zc9, zc10⟩, zf0, zf1, zf2, zf3, zf4, zf5, zf6, zf7, zf8, zf9, zf10⟩ := M1.out.zeros
  obtain ⟨k2, _, _, _, l1, l2, l3, l4, l5, l6, l7, _⟩ := M1.out.at_
  obtain ⟨kd, nu, nm2, f2, op, B, d, ks⟩ := x
  unfold xV XT.cs
  go_wp2_with fail
  clear sc0 sc1 sc2 sc3 sc4 sc5 sc6 sc7 sc8 sc9 sc10 sf0 sf1 sf2 sf3 sf4 sf5 sf6 sf7 sf8 sf9 sf10 zc0 zc1 zc2 zc3 zc4 zc5 zc6 zc7 zc8 zc9 zc10 zf0 zf1 zf2 zf3 zf4 zf5 zf6 zf7 zf8 zf9 zf10 l1 l2 l3 l4 l5 l6 l7
  refine (Sw.block HHH.out (M1.out.kids [.mk kd nu nm2 f2 op B d ks] ⟨HX.out, trivial⟩ 1 rfl #[.int .u8 kd, .int .i64 nu, .string (str nm2), .string (str f2), .string (str op), .slice B ks.length d] rfl) (fun q => by subst q; have e := HA1.out.ok_eq.2; have ho := HNE.out (by trivial); rw [HE.out, e] at ho; exact R.bind_ne ho)).mono ?_
  rintro e Y2 ⟨bA2, bc2, bs2, v2, g2, rfl, HA2, HB2, M2⟩
  have M2 := Lib.hid M2
  obtain ⟨⟨sc0, sc1, sc2, sc3, sc4, sc5, sc6, sc7, sc8, sc9, sc10⟩, sf0, sf1, sf2, sf3, sf4, sf5, sf6, sf7, sf8, sf9, sf10⟩ := M2.out.cells
  obtain ⟨⟨zc0, zc1, zc2, zc3, zc4, zc5, zc6, zc7, zc8, zc9, zc10⟩, zf0, zf1, zf2, zf3, zf4, zf5, zf6, zf7, zf8, zf9, zf10⟩ := M2.out.zeros
  obtain ⟨k2, _, _, _, l1, l2, l3, l4, l5, l6, l7, _⟩ := M2.out.at_
  go_wp2_with fail
  clear sc0 sc1 sc2 sc3 sc4 sc5 sc6 sc7 sc8 sc9 sc10 sf0 sf1 sf2 sf3 sf4 sf5 sf6 sf7 sf8 sf9 sf10 zc0 zc1 zc2 zc3 zc4 zc5 zc6 zc7 zc8 zc9 zc10 zf0 zf1 zf2 zf3 zf4 zf5 zf6 zf7 zf8 zf9 zf10 l1 l2 l3 l4 l5 l6 l7
  refine ((M2.out.bd_ HB2.out).is 3 [101, 108, 115, 101]).mono ?_
  rintro e Y3 ⟨rfl, M3⟩
  have M3 := Lib.hid M3
  clear M2
  rw [isX_T (by decide)]
  cases b3 : (!g2 && isT 3 [101, 108, 115, 101] v2) with
  | true =>
   obtain ⟨k, hk, p1, f1, l1, l2, l3, l4, l5, l6, l7, HI⟩ := M3.out.at_
   obtain ⟨hf, ht⟩ := and_not b3
   subst hf
   have HT3 := Lib.hid ht
   have M4 := Lib.hid (HI.out (isT_ne ht))
   obtain ⟨⟨sc0, sc1, sc2, sc3, sc4, sc5, sc6, sc7, sc8, sc9, sc10⟩, sf0, sf1, sf2, sf3, sf4, sf5, sf6, sf7, sf8, sf9, sf10⟩ := M3.out.cells
   obtain ⟨⟨zc0, zc1, zc2, zc3, zc4, zc5, zc6, zc7, zc8, zc9, zc10⟩, zf0, zf1, zf2, zf3, zf4, zf5, zf6, zf7, zf8, zf9, zf10⟩ := M3.out.zeros
   clear ht HI M3
   go_wp2_with fail
   clear p1 f1
   clear sc0 sc1 sc2 sc3 sc4 sc5 sc6 sc7 sc8 sc9 sc10 sf0 sf1 sf2 sf3 sf4 sf5 sf6 sf7 sf8 sf9 sf10 zc0 zc1 zc2 zc3 zc4 zc5 zc6 zc7 zc8 zc9 zc10 zf0 zf1 zf2 zf3 zf4 zf5 zf6 zf7 zf8 zf9 zf10 l1 l2 l3 l4 l5 l6 l7
   refine (Sw.block HHH.out M4.out (fun q => by have e2 := HA2.out.ok_eq; have e := HA1.out; rw [e2.1] at e; have ho := HNE.out (by trivial); rw [HE.out, e.ok_eq.2, R.bind_ok, e2.2, R.bind_ok, if_pos (show isW wElse v2 = true from HT3.out)] at ho; exact R.bind_ne ho)).mono ?_
   rintro e Y5 ⟨bA5, bc5, bs5, v5, g5, rfl, HA3, HB5, M5⟩
   have M5 := Lib.hid M5
   obtain ⟨⟨sc0, sc1, sc2, sc3, sc4, sc5, sc6, sc7, sc8, sc9, sc10⟩, sf0, sf1, sf2, sf3, sf4, sf5, sf6, sf7, sf8, sf9, sf10⟩ := M5.out.cells
   obtain ⟨⟨zc0, zc1, zc2, zc3, zc4, zc5, zc6, zc7, zc8, zc9, zc10⟩, zf0, zf1, zf2, zf3, zf4, zf5, zf6, zf7, zf8, zf9, zf10⟩ := M5.out.zeros
   obtain ⟨k2, _, _, _, l1, l2, l3, l4, l5, l6, l7, _⟩ := M5.out.at_
   go_wp2_with fail
   clear sc0 sc1 sc2 sc3 sc4 sc5 sc6 sc7 sc8 sc9 sc10 sf0 sf1 sf2 sf3 sf4 sf5 sf6 sf7 sf8 sf9 sf10 zc0 zc1 zc2 zc3 zc4 zc5 zc6 zc7 zc8 zc9 zc10 zf0 zf1 zf2 zf3 zf4 zf5 zf6 zf7 zf8 zf9 zf10 l1 l2 l3 l4 l5 l6 l7
   have M6 := Lib.hid (M5.out.el_ HB5.out)
   obtain ⟨⟨sc0, sc1, sc2, sc3, sc4, sc5, sc6, sc7, sc8, sc9, sc10⟩, sf0, sf1, sf2, sf3, sf4, sf5, sf6, sf7, sf8, sf9, sf10⟩ := M6.out.cells
   obtain ⟨⟨zc0, zc1, zc2, zc3, zc4, zc5, zc6, zc7, zc8, zc9, zc10⟩, zf0, zf1, zf2, zf3, zf4, zf5, zf6, zf7, zf8, zf9, zf10⟩ := M6.out.zeros
   obtain ⟨k2, _, _, _, l1, l2, l3, l4, l5, l6, l7, _⟩ := M6.out.at_
   go_wp2_with fail
   refine sw_end rfl rfl M6.out rfl ?_
   rw [HE.out]
   refine Ans.then HA1.out.re ?_
   refine Ans.then HA2.out ?_
   rw [if_pos (show isW wElse v2 = true from HT3.out)]
   exact (Ans.end_ HA3.out fun e => (.mk 6 (hd u).ln [] [] [] ty0 [XT.d (.mk kd nu nm2 f2 op B d ks)] (xssd bs2) e : St)).re
  | false =>
   obtain ⟨⟨sc0, sc1, sc2, sc3, sc4, sc5, sc6, sc7, sc8, sc9, sc10⟩, sf0, sf1, sf2, sf3, sf4, sf5, sf6, sf7, sf8, sf9, sf10⟩ := M3.out.cells
   obtain ⟨⟨zc0, zc1, zc2, zc3, zc4, zc5, zc6, zc7, zc8, zc9, zc10⟩, zf0, zf1, zf2, zf3, zf4, zf5, zf6, zf7, zf8, zf9, zf10⟩ := M3.out.zeros
   obtain ⟨k2, _, _, _, l1, l2, l3, l4, l5, l6, l7, _⟩ := M3.out.at_
   go_wp2_with fail
   refine sw_end rfl rfl M3.out rfl ?_
   rw [HE.out]
   refine Ans.then HA1.out.re ?_
   exact HA2.out.if_end fun hf => by rw [if_neg (show ¬ isW wElse v2 = true from and_nt b3 hf)]; rfl
 | false =>
 go_wp2_with fail
 refine (K3.out.is 3 [102, 111, 114]).mono ?_
 rintro e X4 ⟨rfl, K4⟩
 have K4 := Lib.hid K4
 clear K3
 rw [isX_T (by decide)]
 cases b3 : (!fl && isT 3 [102, 111, 114] u) with
 | true =>
  obtain ⟨k, hk, p1, f1, l1, l2, l3, l4, l5, l6, l7, HI⟩ := K4.out.at_
  obtain ⟨hf, ht⟩ := and_not b3
  subst hf
  have HT := Lib.hid ht
  have K5 := Lib.hid (HI.out (isT_ne ht))
  obtain ⟨⟨sc0, sc1, sc2, sc3, sc4, sc5, sc6, sc7, sc8, sc9, sc10⟩, sf0, sf1, sf2, sf3, sf4, sf5, sf6, sf7, sf8, sf9, sf10⟩ := K4.out.cells
  obtain ⟨⟨zc0, zc1, zc2, zc3, zc4, zc5, zc6, zc7, zc8, zc9, zc10⟩, zf0, zf1, zf2, zf3, zf4, zf5, zf6, zf7, zf8, zf9, zf10⟩ := K4.out.zeros
  clear ht HI K4
  go_wp2_with fail
  clear p1 f1
  clear sc0 sc1 sc2 sc3 sc4 sc5 sc6 sc7 sc8 sc9 sc10 sf0 sf1 sf2 sf3 sf4 sf5 sf6 sf7 sf8 sf9 sf10 zc0 zc1 zc2 zc3 zc4 zc5 zc6 zc7 zc8 zc9 zc10 zf0 zf1 zf2 zf3 zf4 zf5 zf6 zf7 zf8 zf9 zf10 l1 l2 l3 l4 l5 l6 l7
  have HE := Lib.hid (HR.out.trans (show staR n u = _ by rw [staR, if_neg (show ¬ isW wVar u = true from and_nt b1 rfl), if_neg (show ¬ isW wIf u = true from and_nt b2 rfl), if_pos (show isW wFor u = true from HT.out)]))
  refine (K5.out.kd_ 7).exp.mono ?_
  rintro e Y1 ⟨x, v1, g1, rfl, HA1, HX, M1⟩
  have M1 := Lib.hid M1
  obtain ⟨⟨sc0, sc1, sc2, sc3, sc4, sc5, sc6, sc7, sc8, sc9, sc10⟩, sf0, sf1, sf2, sf3, sf4, sf5, sf6, sf7, sf8, sf9, sf10⟩ := M1.out.cells
  obtain ⟨⟨zc0, zc1, zc2, zc3, zc4, zc5, zc6, zc7, zc8, zc9, zc10⟩, zf0, zf1, zf2, zf3, zf4, zf5, zf6, zf7, zf8, zf9, zf10⟩ := M1.out.zeros
  obtain ⟨k2, _, _, _, l1, l2, l3, l4, l5, l6, l7, _⟩ := M1.out.at_
  obtain ⟨kd, nu, nm2, f2, op, B, d, ks⟩ := x
  unfold xV XT.cs
  go_wp2_with fail
  clear sc0 sc1 sc2 sc3 sc4 sc5 sc6 sc7 sc8 sc9 sc10 sf0 sf1 sf2 sf3 sf4 sf5 sf6 sf7 sf8 sf9 sf10 zc0 zc1 zc2 zc3 zc4 zc5 zc6 zc7 zc8 zc9 zc10 zf0 zf1 zf2 zf3 zf4 zf5 zf6 zf7 zf8 zf9 zf10 l1 l2 l3 l4 l5 l6 l7
  refine (Sw.block HHH.out (M1.out.kids [.mk kd nu nm2 f2 op B d ks] ⟨HX.out, trivial⟩ 1 rfl #[.int .u8 kd, .int .i64 nu, .string (str nm2), .string (str f2), .string (str op), .slice B ks.length d] rfl) (fun q => by subst q; have e := HA1.out.ok_eq.2; have ho := HNE.out (by trivial); rw [HE.out, e] at ho; exact R.bind_ne ho)).mono ?_
  rintro e Y2 ⟨bA2, bc2, bs2, v2, g2, rfl, HA2, HB2, M2⟩
  have M2 := Lib.hid M2
  obtain ⟨⟨sc0, sc1, sc2, sc3, sc4, sc5, sc6, sc7, sc8, sc9, sc10⟩, sf0, sf1, sf2, sf3, sf4, sf5, sf6, sf7, sf8, sf9, sf10⟩ := M2.out.cells
  obtain ⟨⟨zc0, zc1, zc2, zc3, zc4, zc5, zc6, zc7, zc8, zc9, zc10⟩, zf0, zf1, zf2, zf3, zf4, zf5, zf6, zf7, zf8, zf9, zf10⟩ := M2.out.zeros
  obtain ⟨k2, _, _, _, l1, l2, l3, l4, l5, l6, l7, _⟩ := M2.out.at_
  go_wp2_with fail
  clear sc0 sc1 sc2 sc3 sc4 sc5 sc6 sc7 sc8 sc9 sc10 sf0 sf1 sf2 sf3 sf4 sf5 sf6 sf7 sf8 sf9 sf10 zc0 zc1 zc2 zc3 zc4 zc5 zc6 zc7 zc8 zc9 zc10 zf0 zf1 zf2 zf3 zf4 zf5 zf6 zf7 zf8 zf9 zf10 l1 l2 l3 l4 l5 l6 l7
  have M3 := Lib.hid (M2.out.bd_ HB2.out)
  obtain ⟨⟨sc0, sc1, sc2, sc3, sc4, sc5, sc6, sc7, sc8, sc9, sc10⟩, sf0, sf1, sf2, sf3, sf4, sf5, sf6, sf7, sf8, sf9, sf10⟩ := M3.out.cells
  obtain ⟨⟨zc0, zc1, zc2, zc3, zc4, zc5, zc6, zc7, zc8, zc9, zc10⟩, zf0, zf1, zf2, zf3, zf4, zf5, zf6, zf7, zf8, zf9, zf10⟩ := M3.out.zeros
  obtain ⟨k2, _, _, _, l1, l2, l3, l4, l5, l6, l7, _⟩ := M3.out.at_
  go_wp2_with fail
  refine sw_end rfl rfl M3.out rfl ?_
  rw [HE.out]
  refine Ans.then HA1.out.re ?_
  exact Ans.end_ HA2.out fun b => (.mk 7 (hd u).ln [] [] [] ty0 [XT.d (.mk kd nu nm2 f2 op B d ks)] b [] : St)
 | false =>
 go_wp2_with fail
 refine (K4.out.is 3 [112, 114, 105, 110, 116]).mono ?_
 rintro e X5 ⟨rfl, K5⟩
 have K5 := Lib.hid K5
 clear K4
 rw [isX_T (by decide)]
 cases b4 : (!fl && isT 3 [112, 114, 105, 110, 116] u) with
 | true =>
  obtain ⟨k, hk, p1, f1, l1, l2, l3, l4, l5, l6, l7, HI⟩ := K5.out.at_
  obtain ⟨hf, ht⟩ := and_not b4
  subst hf
  have HT := Lib.hid ht
  have K6 := Lib.hid (HI.out (isT_ne ht))
  obtain ⟨⟨sc0, sc1, sc2, sc3, sc4, sc5, sc6, sc7, sc8, sc9, sc10⟩, sf0, sf1, sf2, sf3, sf4, sf5, sf6, sf7, sf8, sf9, sf10⟩ := K5.out.cells
  obtain ⟨⟨zc0, zc1, zc2, zc3, zc4, zc5, zc6, zc7, zc8, zc9, zc10⟩, zf0, zf1, zf2, zf3, zf4, zf5, zf6, zf7, zf8, zf9, zf10⟩ := K5.out.zeros
  clear ht HI K5
  go_wp2_with fail
  clear p1 f1
  clear sc0 sc1 sc2 sc3 sc4 sc5 sc6 sc7 sc8 sc9 sc10 sf0 sf1 sf2 sf3 sf4 sf5 sf6 sf7 sf8 sf9 sf10 zc0 zc1 zc2 zc3 zc4 zc5 zc6 zc7 zc8 zc9 zc10 zf0 zf1 zf2 zf3 zf4 zf5 zf6 zf7 zf8 zf9 zf10 l1 l2 l3 l4 l5 l6 l7
  refine ((K6.out.kd_ 8).sign [40] (by decide)).mono ?_
  rintro e Y1 ⟨rfl, v1, g1, HA1, M1⟩
  have M1 := Lib.hid M1
  go_wp2_with fail
  refine M1.out.exp.mono ?_
  rintro e Y2 ⟨x, v2, g2, rfl, HA2, HX, M2⟩
  have M2 := Lib.hid M2
  obtain ⟨⟨sc0, sc1, sc2, sc3, sc4, sc5, sc6, sc7, sc8, sc9, sc10⟩, sf0, sf1, sf2, sf3, sf4, sf5, sf6, sf7, sf8, sf9, sf10⟩ := M2.out.cells
  obtain ⟨⟨zc0, zc1, zc2, zc3, zc4, zc5, zc6, zc7, zc8, zc9, zc10⟩, zf0, zf1, zf2, zf3, zf4, zf5, zf6, zf7, zf8, zf9, zf10⟩ := M2.out.zeros
  obtain ⟨k2, _, _, _, l1, l2, l3, l4, l5, l6, l7, _⟩ := M2.out.at_
  obtain ⟨kd, nu, nm2, f2, op, B, d, ks⟩ := x
  unfold xV XT.cs
  go_wp2_with fail
  clear sc0 sc1 sc2 sc3 sc4 sc5 sc6 sc7 sc8 sc9 sc10 sf0 sf1 sf2 sf3 sf4 sf5 sf6 sf7 sf8 sf9 sf10 zc0 zc1 zc2 zc3 zc4 zc5 zc6 zc7 zc8 zc9 zc10 zf0 zf1 zf2 zf3 zf4 zf5 zf6 zf7 zf8 zf9 zf10 l1 l2 l3 l4 l5 l6 l7
  refine ((M2.out.kids [.mk kd nu nm2 f2 op B d ks] ⟨HX.out, trivial⟩ 1 rfl #[.int .u8 kd, .int .i64 nu, .string (str nm2), .string (str f2), .string (str op), .slice B ks.length d] rfl).sign [41] (by decide)).mono ?_
  rintro e Y3 ⟨rfl, v3, g3, HA3, M3⟩
  have M3 := Lib.hid M3
  go_wp2_with fail
  refine (M3.out.sign [59] (by decide)).mono ?_
  rintro e Y4 ⟨rfl, v4, g4, HA4, M4⟩
  have M4 := Lib.hid M4
  obtain ⟨⟨sc0, sc1, sc2, sc3, sc4, sc5, sc6, sc7, sc8, sc9, sc10⟩, sf0, sf1, sf2, sf3, sf4, sf5, sf6, sf7, sf8, sf9, sf10⟩ := M4.out.cells
  obtain ⟨⟨zc0, zc1, zc2, zc3, zc4, zc5, zc6, zc7, zc8, zc9, zc10⟩, zf0, zf1, zf2, zf3, zf4, zf5, zf6, zf7, zf8, zf9, zf10⟩ := M4.out.zeros
  obtain ⟨k2, _, _, _, l1, l2, l3, l4, l5, l6, l7, _⟩ := M4.out.at_
  go_wp2_with fail
  refine sw_end rfl rfl M4.out rfl ?_
  rw [HR.out, staR, if_neg (show ¬ isW wVar u = true from and_nt b1 rfl), if_neg (show ¬ isW wIf u = true from and_nt b2 rfl), if_neg (show ¬ isW wFor u = true from and_nt b3 rfl), if_pos (show isW wPrint u = true from HT.out)]
  refine Ans.then HA1.out.re ?_
  refine Ans.then HA2.out ?_
  refine Ans.then HA3.out ?_
  rw [semi_eq]
  exact Ans.end_ HA4.out fun _ => stm 8 (hd u).ln [] [] [] ty0 [XT.d (.mk kd nu nm2 f2 op B d ks)]
 | false =>
 go_wp2_with fail
 refine (K5.out.is 3 [114, 101, 116, 117, 114, 110]).mono ?_
 rintro e X6 ⟨rfl, K6⟩
 have K6 := Lib.hid K6
 clear K5
 rw [isX_T (by decide)]
 cases b5 : (!fl && isT 3 [114, 101, 116, 117, 114, 110] u) with
 | true =>
  obtain ⟨k, hk, p1, f1, l1, l2, l3, l4, l5, l6, l7, HI⟩ := K6.out.at_
  obtain ⟨hf, ht⟩ := and_not b5
  subst hf
  have HT := Lib.hid ht
  have K7 := Lib.hid (HI.out (isT_ne ht))
  obtain ⟨⟨sc0, sc1, sc2, sc3, sc4, sc5, sc6, sc7, sc8, sc9, sc10⟩, sf0, sf1, sf2, sf3, sf4, sf5, sf6, sf7, sf8, sf9, sf10⟩ := K6.out.cells
  obtain ⟨⟨zc0, zc1, zc2, zc3, zc4, zc5, zc6, zc7, zc8, zc9, zc10⟩, zf0, zf1, zf2, zf3, zf4, zf5, zf6, zf7, zf8, zf9, zf10⟩ := K6.out.zeros
  clear ht HI K6
  go_wp2_with fail
  clear p1 f1
  clear sc0 sc1 sc2 sc3 sc4 sc5 sc6 sc7 sc8 sc9 sc10 sf0 sf1 sf2 sf3 sf4 sf5 sf6 sf7 sf8 sf9 sf10 zc0 zc1 zc2 zc3 zc4 zc5 zc6 zc7 zc8 zc9 zc10 zf0 zf1 zf2 zf3 zf4 zf5 zf6 zf7 zf8 zf9 zf10 l1 l2 l3 l4 l5 l6 l7
  have HE := Lib.hid (HR.out.trans (show staR n u = _ by rw [staR, if_neg (show ¬ isW wVar u = true from and_nt b1 rfl), if_neg (show ¬ isW wIf u = true from and_nt b2 rfl), if_neg (show ¬ isW wFor u = true from and_nt b3 rfl), if_neg (show ¬ isW wPrint u = true from and_nt b4 rfl), if_pos (show isW wReturn u = true from HT.out)]))
  refine ((K7.out.kd_ 10).is 4 [59]).mono ?_
  rintro e Y1 ⟨rfl, M1⟩
  have M1 := Lib.hid M1
  clear K7
  rw [isX_T (by decide)]
  cases b6 : (!false && isT 4 [59] u.tail) with
  | true =>
   go_wp2_with fail
   refine (M1.out.sign [59] (by decide)).mono ?_
   rintro e Y2 ⟨rfl, v2, g2, HA1, M2⟩
   have M2 := Lib.hid M2
   obtain ⟨⟨sc0, sc1, sc2, sc3, sc4, sc5, sc6, sc7, sc8, sc9, sc10⟩, sf0, sf1, sf2, sf3, sf4, sf5, sf6, sf7, sf8, sf9, sf10⟩ := M2.out.cells
   obtain ⟨⟨zc0, zc1, zc2, zc3, zc4, zc5, zc6, zc7, zc8, zc9, zc10⟩, zf0, zf1, zf2, zf3, zf4, zf5, zf6, zf7, zf8, zf9, zf10⟩ := M2.out.zeros
   obtain ⟨k2, _, _, _, l1, l2, l3, l4, l5, l6, l7, _⟩ := M2.out.at_
   go_wp2_with fail
   refine sw_end rfl rfl M2.out rfl ?_
   rw [HE.out, if_pos (show isS [59] u.tail = true from (and_not b6).2), semi_eq]
   exact (Ans.end_ HA1.out fun _ => stm 10 (hd u).ln [] [] [] ty0 []).re
  | false =>
   go_wp2_with fail
   refine M1.out.exp.mono ?_
   rintro e Y2 ⟨x, v2, g2, rfl, HA1, HX, M2⟩
   have M2 := Lib.hid M2
   obtain ⟨⟨sc0, sc1, sc2, sc3, sc4, sc5, sc6, sc7, sc8, sc9, sc10⟩, sf0, sf1, sf2, sf3, sf4, sf5, sf6, sf7, sf8, sf9, sf10⟩ := M2.out.cells
   obtain ⟨⟨zc0, zc1, zc2, zc3, zc4, zc5, zc6, zc7, zc8, zc9, zc10⟩, zf0, zf1, zf2, zf3, zf4, zf5, zf6, zf7, zf8, zf9, zf10⟩ := M2.out.zeros
   obtain ⟨k2, _, _, _, l1, l2, l3, l4, l5, l6, l7, _⟩ := M2.out.at_
   obtain ⟨kd, nu, nm2, f2, op, B, d, ks⟩ := x
   unfold xV XT.cs
   go_wp2_with fail
   clear sc0 sc1 sc2 sc3 sc4 sc5 sc6 sc7 sc8 sc9 sc10 sf0 sf1 sf2 sf3 sf4 sf5 sf6 sf7 sf8 sf9 sf10 zc0 zc1 zc2 zc3 zc4 zc5 zc6 zc7 zc8 zc9 zc10 zf0 zf1 zf2 zf3 zf4 zf5 zf6 zf7 zf8 zf9 zf10 l1 l2 l3 l4 l5 l6 l7
   refine ((M2.out.kids [.mk kd nu nm2 f2 op B d ks] ⟨HX.out, trivial⟩ 1 rfl #[.int .u8 kd, .int .i64 nu, .string (str nm2), .string (str f2), .string (str op), .slice B ks.length d] rfl).sign [59] (by decide)).mono ?_
   rintro e Y3 ⟨rfl, v3, g3, HA2, M3⟩
   have M3 := Lib.hid M3
   obtain ⟨⟨sc0, sc1, sc2, sc3, sc4, sc5, sc6, sc7, sc8, sc9, sc10⟩, sf0, sf1, sf2, sf3, sf4, sf5, sf6, sf7, sf8, sf9, sf10⟩ := M3.out.cells
   obtain ⟨⟨zc0, zc1, zc2, zc3, zc4, zc5, zc6, zc7, zc8, zc9, zc10⟩, zf0, zf1, zf2, zf3, zf4, zf5, zf6, zf7, zf8, zf9, zf10⟩ := M3.out.zeros
   obtain ⟨k2, _, _, _, l1, l2, l3, l4, l5, l6, l7, _⟩ := M3.out.at_
   go_wp2_with fail
   refine sw_end rfl rfl M3.out rfl ?_
   rw [HE.out, if_neg (show ¬ isS [59] u.tail = true from and_nt b6 rfl)]
   refine Ans.then HA1.out.re ?_
   rw [semi_eq]
   exact Ans.end_ HA2.out fun _ => stm 10 (hd u).ln [] [] [] ty0 [XT.d (.mk kd nu nm2 f2 op B d ks)]
 | false =>
 obtain ⟨⟨sc0, sc1, sc2, sc3, sc4, sc5, sc6, sc7, sc8, sc9, sc10⟩, sf0, sf1, sf2, sf3, sf4, sf5, sf6, sf7, sf8, sf9, sf10⟩ := K6.out.cells
 obtain ⟨⟨zc0, zc1, zc2, zc3, zc4, zc5, zc6, zc7, zc8, zc9, zc10⟩, zf0, zf1, zf2, zf3, zf4, zf5, zf6, zf7, zf8, zf9, zf10⟩ := K6.out.zeros
 obtain ⟨k2, _, _, _, l1, l2, l3, l4, l5, l6, l7, _⟩ := K6.out.at_
 go_wp2_with fail
 clear sc0 sc1 sc2 sc3 sc4 sc5 sc6 sc7 sc8 sc9 sc10 sf0 sf1 sf2 sf3 sf4 sf5 sf6 sf7 sf8 sf9 sf10 zc0 zc1 zc2 zc3 zc4 zc5 zc6 zc7 zc8 zc9 zc10 zf0 zf1 zf2 zf3 zf4 zf5 zf6 zf7 zf8 zf9 zf10 l1 l2 l3 l4 l5 l6 l7
 refine (rnamed_any K6.out.p (hd u).ln).mono ?_
 rintro e Y2 ⟨t', v2, g2, rfl, ha, ho, hp, hg⟩
 have HA := Lib.hid ha
 have M2 := Lib.hid (K6.out.step hp hg)
 have HO := Lib.hid (XS.Ok.up ho (Q := fun g => w.heap.size ≤ g ∧ g ≠ X0.heap.size ∧ g ≠ w.heap.size) fun _ q => K6.out.new_ok q)
 clear ha ho hp hg K6
 obtain ⟨kd', ln', nm', f2, cl', ty', kA', kc', ks', bA', bc', bd', eA', ec', el'⟩ := t'
 unfold sV XS.cs
 obtain ⟨⟨sc0, sc1, sc2, sc3, sc4, sc5, sc6, sc7, sc8, sc9, sc10⟩, sf0, sf1, sf2, sf3, sf4, sf5, sf6, sf7, sf8, sf9, sf10⟩ := M2.out.cells
 obtain ⟨⟨zc0, zc1, zc2, zc3, zc4, zc5, zc6, zc7, zc8, zc9, zc10⟩, zf0, zf1, zf2, zf3, zf4, zf5, zf6, zf7, zf8, zf9, zf10⟩ := M2.out.zeros
 obtain ⟨k2, _, _, _, l1, l2, l3, l4, l5, l6, l7, _⟩ := M2.out.at_
 go_wp2_with fail
 refine sw_end2 rfl rfl M2.out HO.out rfl ?_
 refine Ans.cond HA.out fun hf => ?_
 subst hf
 rw [HR.out, staR, if_neg (show ¬ isW wVar u = true from and_nt b1 rfl), if_neg (show ¬ isW wIf u = true from and_nt b2 rfl), if_neg (show ¬ isW wFor u = true from and_nt b3 rfl), if_neg (show ¬ isW wPrint u = true from and_nt b4 rfl), if_neg (show ¬ isW wReturn u = true from and_nt b5 rfl)]
end
end Go.Proofs.Ytjllbacefbjjaaa
