/-
  Merged for a claim: S3B, S3C.
-/
import Derived.Test.YtjllbacefbjjaaaZJ16
import Derived.BigQuiet
import Derived.Deep.CutBlock
import Derived.Test.YtjllbacefbjjaaaZJ12
namespace Go.Proofs.Ytjllbacefbjjaaa
open Go Go.RowKit

theorem argR_C {u : List To} (h : isC u = true) : argR u.tail = argP u.tail.tail := by
 unfold argR
 rw [sgS_bind, takeS_yes (isC_K h).2]
section
variable {w W : World} {gp : Nat} {A : Option Addr} {c : Nat} {l u : List To} {fl : Bool} {b z : Nat} {s : XS}
theorem Sw.next (h : Sw w gp A c l b z s W u fl) : ∃ k : Nat, k ≤ 1000000 ∧ l.length ≤ 1000000 ∧ W.cell? ⟨gp, 0, none⟩ = some (.slice A l.length c) ∧ W.cell? ⟨gp, 1, none⟩ = some (.int .i64 k) ∧ u.tail = l.drop (k + 1) := by
 obtain ⟨k, h1, rfl, hc⟩ := h.p.k
 exact ⟨k, by have := h.p.n; omega, h.p.n, hc.cell (j := 0) (by simp), hc.cell (j := 1) (by simp), by rw [List.tail_drop]⟩
set_option maxRecDepth 100000 in
set_option maxHeartbeats 1000000 in
theorem rset_any (h : Rp w gp A c l u fl) (ln : Int) (nm : List UInt8) :
 Calls Try.prog 82 #[.pointer (some ⟨gp, 0, none⟩), sV (.mk 0 ln nm [] [] ty0 none 0 [] none 0 [] none 0 [])] w (RS w gp A c l u fl (setP ln nm u)) := by
 have H0 := Lib.hid (Sw.new1 h ln nm)
 obtain ⟨r, hr⟩ : ∃ r, setP ln nm u = r := ⟨_, rfl⟩
 rw [hr]
 have HR := Lib.hid hr.symm
 clear h hr
 unfold sV XS.cs
 go_enter Try.func82, Try.ntmps82
 go_wp2_with fail
 refine (H0.out.is 3 [105, 110, 112, 117, 116]).mono ?_
 rintro e X1 ⟨rfl, K1⟩
 have K1 := Lib.hid K1
 clear H0
 rw [isX_T (by decide)]
 cases b1 : (!fl && isT 3 [105, 110, 112, 117, 116] u) with
 | true =>
  obtain ⟨k, hk, p1, f1, l1, l2, l3, l4, l5, l6, l7, HI⟩ := K1.out.at_
  obtain ⟨hf, ht⟩ := and_not b1
  subst hf
  have HT1 := Lib.hid ht
  have K2 := Lib.hid (HI.out (isT_ne ht))
  clear ht HI K1
  go_wp2_with fail
  clear p1 f1 l1 l2 l3 l4 l5 l6 l7
  refine (K2.out.sign [40] (by decide)).mono ?_
  rintro e Y1 ⟨rfl, v1, g1, HA1, M1⟩
  have M1 := Lib.hid M1
  clear K2
  go_wp2_with fail
  refine (M1.out.sign [41] (by decide)).mono ?_
  rintro e Y2 ⟨rfl, v2, g2, HA2, M2⟩
  have M2 := Lib.hid M2
  clear M1
  obtain ⟨⟨sc0, sc1, sc2, sc3, sc4, sc5, sc6, sc7, sc8, sc9, sc10⟩, sf0, sf1, sf2, sf3, sf4, sf5, sf6, sf7, sf8, sf9, sf10⟩ := M2.out.cells
  obtain ⟨⟨zc0, zc1, zc2, zc3, zc4, zc5, zc6, zc7, zc8, zc9, zc10⟩, zf0, zf1, zf2, zf3, zf4, zf5, zf6, zf7, zf8, zf9, zf10⟩ := M2.out.zeros
  obtain ⟨k2, _, _, _, l1, l2, l3, l4, l5, l6, l7, _⟩ := M2.out.at_
  go_wp2_with fail
  refine sw_end rfl rfl (M2.out.kd_ 9) rfl ?_
  rw [HR.out, setP, if_pos (show isW wInput u = true from HT1.out), ← sgS_bind]
  simp only [← sgS_bind]
  refine Ans.then HA1.out.re ?_
  exact Ans.end_ HA2.out fun _ => stm 9 ln nm [] [] ty0 []
 | false =>
 have HQ := Lib.hid (fun n => ris_any (K1.out.p.draws n) 1 [])
 rw [show str ([] : List UInt8) = ⟨#[]⟩ from rfl] at HQ
 simp only [isX_K] at HQ
 obtain ⟨k, hk, hn, p0, p1, ht⟩ := K1.out.next
 have lg := K1.out.p.lt
 go_upto_region 7 with fail
 go_cut [64] from 20 to 65 (fun v wx => v = .bool (!fl && isC u) ∧ Hid (Sw w gp A c l w.heap.size (w.heap.size + 1) (.mk 0 ln nm [] [] ty0 none 0 [] none 0 [] none 0 []) wx u fl))
 case first =>
  cases b2 : (!fl && isK 1 u) with
  | false =>
   simp only [b2] at HQ
   have e : (!fl && isC u) = false := by unfold isC; rw [← Bool.and_assoc, b2]; rfl
   have HE := Lib.hid e
   clear e p0 p1
   go_quiet ((go_at_call 19; exact Calls.quiet_of (HQ.out _)))
   go_wp2_with fail
   go_meet
   exact ⟨by rw [HE.out], Lib.hid (K1.out.draws _)⟩
  | true =>
   simp only [b2] at HQ
   have e : (!fl && isC u) = isS [40] u.tail := by unfold isC; rw [← Bool.and_assoc, b2, Bool.true_and]
   rw [ht] at e
   have HE1 := Lib.hid e
   clear e
   by_cases hin : k + 1 < l.length
   · obtain ⟨g, o, rfl, hg, hcell⟩ := K1.out.p.t.at_ hin
     have e : isS [40] (l.drop (k + 1)) = (decide ((l[k + 1]).kd = 4) && decide ((l[k + 1]).tx = [40])) := by rw [List.drop_eq_getElem_cons hin]; rfl
     have HE2 := Lib.hid (HE1.out.trans e)
     clear HE1
     generalize l[k + 1] = t at *
     have d0 := hcell 0 _ rfl
     have d1 := hcell 1 _ rfl
     simp only [Nat.add_zero, show eTo.sz = 4 from rfl] at d0 d1
     have hgw : g < X1.heap.size := by omega
     have E2 := Lib.hid (show ((str t.tx).toList == [40]) = decide (t.tx = [40]) by rw [str_toList]; by_cases q : t.tx = [40] <;> simp [q])
     have hki : (k : Int) + 1 < (l.length : Int) := by omega
     clear hcell e
     obtain ⟨tk, tt, tn, tl⟩ := t
     dsimp only at *
     by_cases hkd : tk = 4
     · subst hkd
       have HE := Lib.hid (show (!fl && isC u) = decide (tt = [40]) by rw [HE2.out, decide_eq_true rfl, Bool.true_and])
       clear HE2
       go_quiet ((go_at_call 19; exact Calls.quiet_of (HQ.out _)))
       go_wp2_with fail
       go_meet
       exact ⟨by rw [HE.out, ← E2.out], Lib.hid (K1.out.draws _)⟩
     · have HE := Lib.hid (show (!fl && isC u) = false by rw [HE2.out, decide_eq_false hkd, Bool.false_and])
       clear E2 d1
       have hb1 : (tk == 4) = false := beq_eq_false_iff_ne.2 hkd
       have hb2 : decide (tk = 4) = false := decide_eq_false hkd
       go_quiet ((go_at_call 19; exact Calls.quiet_of (HQ.out _)))
       go_wp2_with fail
       go_meet
       exact ⟨by rw [HE.out], Lib.hid (K1.out.draws _)⟩
   · have e : isS [40] (l.drop (k + 1)) = false := by rw [List.drop_eq_nil_of_le (by omega)]; rfl
     have HE := Lib.hid (HE1.out.trans e)
     have hki : decide ((k : Int) + 1 < (l.length : Int)) = false := decide_eq_false (by omega)
     have hkj : ¬ ((k : Int) + 1 < (l.length : Int)) := by omega
     clear e
     go_quiet ((go_at_call 19; exact Calls.quiet_of (HQ.out _)))
     go_wp2_with fail
     go_meet
     exact ⟨by rw [HE.out], Lib.hid (K1.out.draws _)⟩
 case rest =>
  obtain ⟨rfl, K2⟩ := hcut
  clear HQ K1 p0 p1
  cases b2 : (!fl && isC u) with
  | true =>
   obtain ⟨hf, ht⟩ := and_not b2
   subst hf
   have HC := Lib.hid ht
   clear ht
   obtain ⟨⟨sc0, sc1, sc2, sc3, sc4, sc5, sc6, sc7, sc8, sc9, sc10⟩, sf0, sf1, sf2, sf3, sf4, sf5, sf6, sf7, sf8, sf9, sf10⟩ := K2.out.cells
   obtain ⟨⟨zc0, zc1, zc2, zc3, zc4, zc5, zc6, zc7, zc8, zc9, zc10⟩, zf0, zf1, zf2, zf3, zf4, zf5, zf6, zf7, zf8, zf9, zf10⟩ := K2.out.zeros
   obtain ⟨k2, _, _, _, l1, l2, l3, l4, l5, l6, l7, _⟩ := K2.out.at_
   go_wp2_with fail
   clear sc0 sc1 sc2 sc3 sc4 sc5 sc6 sc7 sc8 sc9 sc10 sf0 sf1 sf2 sf3 sf4 sf5 sf6 sf7 sf8 sf9 sf10 zc0 zc1 zc2 zc3 zc4 zc5 zc6 zc7 zc8 zc9 zc10 zf0 zf1 zf2 zf3 zf4 zf5 zf6 zf7 zf8 zf9 zf10 l1 l2 l3 l4 l5 l6 l7
   refine (K2.out.kd_ 5).name.mono ?_
   rintro e Y1 ⟨t, u1, g1, rfl, HA1, M1⟩
   have M1 := Lib.hid M1
   clear K2
   obtain ⟨⟨sc0, sc1, sc2, sc3, sc4, sc5, sc6, sc7, sc8, sc9, sc10⟩, sf0, sf1, sf2, sf3, sf4, sf5, sf6, sf7, sf8, sf9, sf10⟩ := M1.out.cells
   obtain ⟨⟨zc0, zc1, zc2, zc3, zc4, zc5, zc6, zc7, zc8, zc9, zc10⟩, zf0, zf1, zf2, zf3, zf4, zf5, zf6, zf7, zf8, zf9, zf10⟩ := M1.out.zeros
   obtain ⟨k2, _, _, _, l1, l2, l3, l4, l5, l6, l7, _⟩ := M1.out.at_
   go_wp2_with fail
   clear sc0 sc1 sc2 sc3 sc4 sc5 sc6 sc7 sc8 sc9 sc10 sf0 sf1 sf2 sf3 sf4 sf5 sf6 sf7 sf8 sf9 sf10 zc0 zc1 zc2 zc3 zc4 zc5 zc6 zc7 zc8 zc9 zc10 zf0 zf1 zf2 zf3 zf4 zf5 zf6 zf7 zf8 zf9 zf10 l1 l2 l3 l4 l5 l6 l7
   refine (M1.out.cl_ t.tx).args.mono ?_
   rintro e Y2 ⟨kA, kc, xs, u2, g2, rfl, HA2, HX, M2⟩
   have M2 := Lib.hid M2
   clear M1
   obtain ⟨⟨sc0, sc1, sc2, sc3, sc4, sc5, sc6, sc7, sc8, sc9, sc10⟩, sf0, sf1, sf2, sf3, sf4, sf5, sf6, sf7, sf8, sf9, sf10⟩ := M2.out.cells
   obtain ⟨⟨zc0, zc1, zc2, zc3, zc4, zc5, zc6, zc7, zc8, zc9, zc10⟩, zf0, zf1, zf2, zf3, zf4, zf5, zf6, zf7, zf8, zf9, zf10⟩ := M2.out.zeros
   obtain ⟨k2, _, _, _, l1, l2, l3, l4, l5, l6, l7, _⟩ := M2.out.at_
   go_wp2_with fail
   refine sw_end rfl rfl (M2.out.ks_ HX.out) rfl ?_
   rw [HR.out, setP, if_neg (show ¬ isW wInput u = true from and_nt b1 rfl), if_pos HC.out, ← argR_C HC.out]
   obtain ⟨rfl, rfl, rfl⟩ := ans_K HA1.out (isC_K HC.out).1
   exact (Ans.end_ HA2.out fun x => stm 5 ln nm [] (hd u).tx ty0 x).re
  | false =>
   obtain ⟨⟨sc0, sc1, sc2, sc3, sc4, sc5, sc6, sc7, sc8, sc9, sc10⟩, sf0, sf1, sf2, sf3, sf4, sf5, sf6, sf7, sf8, sf9, sf10⟩ := K2.out.cells
   obtain ⟨⟨zc0, zc1, zc2, zc3, zc4, zc5, zc6, zc7, zc8, zc9, zc10⟩, zf0, zf1, zf2, zf3, zf4, zf5, zf6, zf7, zf8, zf9, zf10⟩ := K2.out.zeros
   obtain ⟨k2, _, _, _, l1, l2, l3, l4, l5, l6, l7, _⟩ := K2.out.at_
   go_wp2_with fail
   clear sc0 sc1 sc2 sc3 sc4 sc5 sc6 sc7 sc8 sc9 sc10 sf0 sf1 sf2 sf3 sf4 sf5 sf6 sf7 sf8 sf9 sf10 zc0 zc1 zc2 zc3 zc4 zc5 zc6 zc7 zc8 zc9 zc10 zf0 zf1 zf2 zf3 zf4 zf5 zf6 zf7 zf8 zf9 zf10 l1 l2 l3 l4 l5 l6 l7
   refine (K2.out.kd_ 2).exp.mono ?_
   rintro e Y1 ⟨t, u1, g1, rfl, HA1, HT, M1⟩
   have M1 := Lib.hid M1
   clear K2
   obtain ⟨⟨sc0, sc1, sc2, sc3, sc4, sc5, sc6, sc7, sc8, sc9, sc10⟩, sf0, sf1, sf2, sf3, sf4, sf5, sf6, sf7, sf8, sf9, sf10⟩ := M1.out.cells
   obtain ⟨⟨zc0, zc1, zc2, zc3, zc4, zc5, zc6, zc7, zc8, zc9, zc10⟩, zf0, zf1, zf2, zf3, zf4, zf5, zf6, zf7, zf8, zf9, zf10⟩ := M1.out.zeros
   obtain ⟨k2, _, _, _, l1, l2, l3, l4, l5, l6, l7, _⟩ := M1.out.at_
   obtain ⟨kd, nu, nm2, f2, op, B, d, ks⟩ := t
   unfold xV XT.cs
   go_wp2_with fail
   have hz9 := M1.out.z.lt
   refine sw_end_kids rfl rfl (M1.out.kids [.mk kd nu nm2 f2 op B d ks] ⟨HT.out, trivial⟩ 1 rfl #[.int .u8 kd, .int .i64 nu, .string (str nm2), .string (str f2), .string (str op), .slice B ks.length d] rfl) (by simp [World.setCell]; exact hz9) rfl ?_
   refine Ans.cond (Ans.end_ HA1.out fun x => stm 2 ln nm [] [] ty0 [x]) fun hf => ?_
   subst hf
   rw [HR.out, setP, if_neg (show ¬ isW wInput u = true from and_nt b1 rfl), if_neg (and_nt b2 rfl)]
end
end Go.Proofs.Ytjllbacefbjjaaa

namespace Go.Proofs.Ytjllbacefbjjaaa
open Go.ChangeShapes Go.WideShapes Go.ChangeAt Go.Deep
open Go Go.RowKit

namespace El
variable {α : Type} {ops : Array Oper} {o : Oper} {a : Act} {Q : Exit → Act → World → Prop} {C : Act → World → Prop}
theorem op_build2 (K : El α) (w : World) (sl : TypeId) (z : Value) (by_ : Nat) (hu : Try.prog.underlying sl = some (.slice K.e)) (hi : (Try.prog.info? K.e).map (fun i => (i.zero, i.size, i.bytes)) = some (some z, K.sz, by_)) (hzc : z.cells.size = K.sz) (hsz : K.sz ≤ 100)
 (x x2 : Operand) (ho : o.op = .buildSlice sl 2 #[(0, x), (1, x2)]) (v v2 : Value) (y y2 : α) (hx : a.eval x = v) (hx2 : a.eval x2 = v2) (hv : v.cells.toList = K.f y) (hv2 : v2.cells.toList = K.f y2)
 (h : C (a.put o.dst (.slice (some ⟨w.heap.size, 0, none⟩) 2 2)) (w.alloc (.cells ([y, y2].flatMap K.f).toArray K.e))) : Oper.wp Try.prog o a w C Q := by
 obtain ⟨i0, hi0, hz0, hz1, hz2⟩ := info_parts hi
 have hp := K.pos
 have hvs : v.cells.size = K.sz := by rw [← Array.length_toList, hv, K.len]
 have hvs2 : v2.cells.size = K.sz := by rw [← Array.length_toList, hv2, K.len]
 refine wp_buildSlice sl K.e 2 _ ho ([y, y2].flatMap K.f).toArray i0 z hu hi0 hz0 (by rw [hz1]; omega) (by rw [hz1]; omega) ?_ h
 have := Great.fill_whole (s := K.sz) hp [v, v2] ((Array.range (2 * K.sz)).map (z.cells[· % z.cells.size]!)) (fun u hu => by rcases List.mem_cons.1 hu with rfl | hu; exact hvs; rw [List.mem_singleton.1 hu]; exact hvs2) (by simp)
 rw [hz1]
 have e : ([v, v2].flatMap fun v => v.cells.toList).toArray = ([y, y2].flatMap K.f).toArray := by simp [hv, hv2]
 rw [e] at this
 simp only [List.map_toArray, List.map_cons, List.map_nil, hx, hx2]
 exact this
end El
def nmdA (ln : Int) (t : To) (v : List To) : R St :=
 if isS [40] v = true then (argR v).bind fun l w => .ok (stm 5 ln [] [] t.tx ty0 l) w
 else if isS [91] v = true then (exP v.tail).bind fun x w => (sgR 4 [93] w).bind fun _ z => (sgR 4 [61] z).bind fun _ y => (exP y).bind fun e q => .ok (stm 3 ln t.tx [] [] ty0 [x, e]) q
 else if isS [46] v = true then (takeR 1 [] v.tail).bind fun f w => (sgR 4 [61] w).bind fun _ z => (exP z).bind fun x q => .ok (stm 4 ln t.tx f.tx [] ty0 [x]) q
 else (sgR 4 [61] v).bind fun _ w => setP ln t.tx w
theorem nmd_eq (ln : Int) (u : List To) : nmdP ln u = (takeR 1 [] u).bind (nmdA ln) := by
 rw [tkK_bind]
 unfold nmdP
 by_cases hc : isC u = true
 · rw [if_pos hc, takeK_yes (isC_K hc).1]
   unfold nmdA
   rw [if_pos (isC_K hc).2, argR_C hc]
 · rw [if_neg hc]
   by_cases hk : isK 1 u = true
   · rw [takeK_yes hk, takeK_yes hk]
     have hs : ¬ isS [40] u.tail = true := fun q => hc (by unfold isC; rw [hk, q]; rfl)
     unfold nmdA
     rw [if_neg hs]
     simp only [sgS_bind, tkK_bind]
   · unfold takeK
     rw [if_neg hk, if_neg hk]
theorem semi_eq (s : St) (u : List To) : semi s u = (sgR 4 [59] u).bind fun _ v => .ok s v := by
 rw [sgS_bind]
 rfl
theorem Ans.semi {α : Type} {fl f1 f2 : Bool} {u u1 u2 : List To} {r : R α} {x : α} {g : α → St} (h1 : Ans fl u r x u1 f1) (h2 : Ans f1 u1 (sgR 4 [59] u1) () u2 f2) : Ans fl u ((r.bind fun x v => .ok (g x) v).bind Go.Proofs.Ytjllbacefbjjaaa.semi) (g x) u2 f2 := by
 refine Ans.then (s := Go.Proofs.Ytjllbacefbjjaaa.semi) (h1.end_ g) ?_
 rw [semi_eq]
 exact Ans.end_ h2 fun _ => g x
section
variable {w W Z : World} {gp : Nat} {A : Option Addr} {c : Nat} {l u u' : List To} {fl f' : Bool} {b z bx : Nat} {s : XS} {x : XT}
theorem Sw.signG (h : Sw w gp A c l b z s W u fl) (tx : List UInt8) (hx : tx ≠ []) :
 Calls Try.prog 22 #[.pointer (some ⟨gp, 0, none⟩), .string (str tx)] W (fun e W' => e = .returned (.tuple #[]) ∧ ∃ u' f', Hid (Ans fl u (sgR 4 tx u) () u' f') ∧ Sw w gp A c l b z s W' u' f' ∧ W.grownBy W' (some gp)) :=
 (rsign_any h.p tx hx).mono fun _ _ ⟨he, u', f', ha, hp, hg⟩ => ⟨he, u', f', Lib.hid ha, h.step hp hg, hg⟩
structure Sx (w : World) (gp : Nat) (A : Option Addr) (c : Nat) (l : List To) (b0 z0 bx : Nat) (s0 : XS) (x0 : XT) (W : World) (u : List To) (fl : Bool) : Prop where
 s : Sw w gp A c l b0 z0 s0 W u fl
 x : CAt W bx 53 x0.cs
 o : x0.Ok W (fun g => w.heap.size ≤ g ∧ g ≠ b0 ∧ g ≠ z0)
 n : w.heap.size ≤ bx
theorem Sx.below (h : Sx w gp A c l b z bx s x W u fl) (hb : Below W.heap.size W Z) : Sx w gp A c l b z bx s x Z u fl :=
 ⟨h.s.below hb, h.x.below hb h.x.lt, h.o.below hb, h.n⟩
theorem Sx.drew (h : Sx w gp A c l b z bx s x W u fl) : Sx w gp A c l b z bx s x W.drew u fl := h.below ((Below.refl _ W).drew)
theorem Sx.grown (h : Sx w gp A c l b z bx s x W u fl) (hs : Sw w gp A c l b z s Z u' f') (hg : W.grownBy Z (some gp)) : Sx w gp A c l b z bx s x Z u' f' := by
 have hn := h.s.n
 have h1 := h.n
 exact ⟨hs, (hg.block bx h.x.lt (fun e => by injection e with e; omega)).trans h.x, XT.Ok.keep (fun g q t => hg.block g t.lt (fun e => by injection e with e; omega)) (fun _ q => q) x h.o, h1⟩
theorem Sx.sign (h : Sx w gp A c l b z bx s x W u fl) (tx : List UInt8) (hx : tx ≠ []) :
 Calls Try.prog 22 #[.pointer (some ⟨gp, 0, none⟩), .string (str tx)] W (fun e W' => e = .returned (.tuple #[]) ∧ ∃ u' f', Hid (Ans fl u (sgR 4 tx u) () u' f') ∧ Sx w gp A c l b z bx s x W' u' f') :=
 (h.s.signG tx hx).mono fun _ _ ⟨he, u', f', ha, hs, hg⟩ => ⟨he, u', f', ha, h.grown hs hg⟩
theorem Sx.new (h : Sw w gp A c l b z s W u fl) (t : XT) (ht : t.Ok W (fun g => w.heap.size ≤ g ∧ g ≠ b ∧ g ≠ z)) (arr : Array Value) (ha : arr = t.cs.toArray) : Sx w gp A c l b z W.heap.size s t (W.alloc (.cells arr 53)) u fl := by
 subst ha
 exact ⟨h.below (below_lnew W _), heap_alloc_new W _, ht.below (below_lnew W _), h.g.size⟩
theorem Sx.exp (h : Sx w gp A c l b z bx s x W u fl) :
 Calls Try.prog 74 #[.pointer (some ⟨gp, 0, none⟩), .int .i64 0] W (fun e W' => ∃ t u' f', e = .returned (xV t) ∧ Hid (Ans fl u (exP u) t.d u' f') ∧ Hid (t.Ok W' (fun g => w.heap.size ≤ g ∧ g ≠ b ∧ g ≠ z)) ∧ Sx w gp A c l b z bx s x W' u' f') :=
 (rexp_any h.s.p).mono fun _ _ ⟨t, u', f', he, ha, ho, hp, hg⟩ => ⟨t, u', f', he, Lib.hid ha, Lib.hid (ho.up fun _ q => h.s.new_ok q), h.grown (h.s.step hp hg) hg⟩
theorem Sx.kd {kd ln : Int} {nm f cl : List UInt8} {ty : Ty} {kA bA eA : Option Addr} {kc bc ec : Nat} {ks : List XT} {bd el : List XS} (h : Sx w gp A c l b z bx (.mk kd ln nm f cl ty kA kc ks bA bc bd eA ec el) x W u fl) (k : Int) : Sx w gp A c l b z bx (.mk k ln nm f cl ty kA kc ks bA bc bd eA ec el) x (W.setCell ⟨b, 0, none⟩ (.int .u8 k)) u fl := by
 have hb : ButT 51 W (W.setCell ⟨b, 0, none⟩ (.int .u8 k)) := ButT.set (p := ⟨b, 0, none⟩) ⟨_, _, h.s.s⟩ _
 have key : ∀ g, g ≠ b → (W.setCell ⟨b, 0, none⟩ (.int .u8 k)).heap[g]? = W.heap[g]? := fun g hg => Below.heap_setCell _ _ _ g hg
 exact ⟨h.s.kd_ k, (hb bx _ ⟨_, _, h.x⟩ (by decide)).trans h.x, XT.Ok.keep (fun g q _ => key g q.2.1) (fun _ q => q) x h.o, h.n⟩
theorem two_ok (h : Sw w gp A c l b z s W u fl) (ks : List XT) (hk : xsOk W (fun g => w.heap.size ≤ g ∧ g ≠ b ∧ g ≠ z) ks) : RowP eX (W.alloc (.cells (ks.flatMap XT.cs).toArray 53)) (fun g => w.heap.size ≤ g ∧ g ≠ b ∧ g ≠ z) (some ⟨W.heap.size, 0, none⟩) ks.length ks ∧ xsOk (W.alloc (.cells (ks.flatMap XT.cs).toArray 53)) (fun g => w.heap.size ≤ g ∧ g ≠ b ∧ g ≠ z) ks := by
 have hm := many_ok (W := W) (P := fun g => w.heap.size ≤ g ∧ g ≠ b ∧ g ≠ z) ks hk (h.new_ok (Nat.le_refl _)) 0 0 [] [] []
 rw [XT.Ok] at hm
 exact hm
end
end Go.Proofs.Ytjllbacefbjjaaa
