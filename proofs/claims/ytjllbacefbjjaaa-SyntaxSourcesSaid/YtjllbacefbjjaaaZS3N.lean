/-
  Merged for a claim: S3N.
-/
import Derived.Test.YtjllbacefbjjaaaZJ22
import Derived.Deep.CutRange
namespace Go.Proofs.Ytjllbacefbjjaaa
open Go.ChangeShapes Go.WideShapes Go.ChangeAt Go.Deep
open Go Go.RowKit

section
variable {w W : World}
theorem rpar_end {fn : Func} {r : Pg × Int × Int} {a b : Int} {z : Nat} (hf : fn.results = #[.cell 2 27, .tmp 3, .tmp 4]) {tmps : Array Value} (hp : tmps.getD 2 undef = .pointer (some ⟨z, 0, none⟩)) (h3 : tmps.getD 3 undef = .int .i64 a) (h4 : tmps.getD 4 undef = .int .i64 b)
 (m : PgM) (hc : CAt W z 27 m.cs) (hO : m.Ok W (fun g => w.heap.size ≤ g)) (hB : Below w.heap.size w W) (hr : r = (m.d, a, b)) : bodyPost Try.prog fn (PaR w r) .ret { tmps := tmps, defers := [] } W := by
 subst hr
 have e := res_row_tmp2 hf tmps W z _ _ _ _ hp hc Try.underlying27 rfl pg_size
 rw [h3, h4] at e
 exact bodyPost_ret e rfl ⟨m, rfl, rfl, hO, hB⟩
theorem rp_new (l : List To) (A : Option Addr) (c : Nat) (hT : eTo.Lies w w.heap.size A l) (hn : l.length ≤ 1000000) :
 Rp ((w.alloc (.cells #[.slice none 0 0, .slice none 0 0] 27)).alloc (.cells #[.slice A l.length c, .int .i64 0, .bool false] 64)) (w.heap.size + 1) A c l l false
 ∧ CAt ((w.alloc (.cells #[.slice none 0 0, .slice none 0 0] 27)).alloc (.cells #[.slice A l.length c, .int .i64 0, .bool false] 64)) w.heap.size 27 [.slice none 0 0, .slice none 0 0]
 ∧ Below w.heap.size w ((w.alloc (.cells #[.slice none 0 0, .slice none 0 0] 27)).alloc (.cells #[.slice A l.length c, .int .i64 0, .bool false] 64)) := by
 have b1 := below_lnew w (.cells #[.slice none 0 0, .slice none 0 0] 27)
 have c1 : CAt (w.alloc (.cells #[.slice none 0 0, .slice none 0 0] 27)) w.heap.size 27 [.slice none 0 0, .slice none 0 0] := heap_alloc_new w _
 have s1 : (w.alloc (.cells #[.slice none 0 0, .slice none 0 0] 27)).heap.size = w.heap.size + 1 := by rw [World.size_alloc]
 obtain ⟨W1, h1⟩ : ∃ W1, w.alloc (.cells #[.slice none 0 0, .slice none 0 0] 27) = W1 := ⟨_, rfl⟩
 rw [h1] at b1 c1 s1 ⊢
 have b2 := below_lnew W1 (.cells #[.slice A l.length c, .int .i64 0, .bool false] 64)
 have c2 : CAt (W1.alloc (.cells #[.slice A l.length c, .int .i64 0, .bool false] 64)) W1.heap.size 64 [.slice A l.length c, .int .i64 0, .bool false] := heap_alloc_new W1 _
 rw [s1] at c2
 have hb := b1.trans (b2.mono b1.size)
 refine ⟨⟨⟨0, Nat.zero_le _, by simp, c2⟩, fun hl => ?_, hn⟩, CAt.below c1 b2 (CAt.lt c1), hb⟩
 obtain ⟨g, o, e, hg, hc⟩ := hT hl
 exact ⟨g, o, e, by omega, fun j hj f u hu => (hb.cell (p := ⟨g, _, none⟩) hg).trans (hc j hj f u hu)⟩
theorem pgd_ok {w0 W : World} {gp gs : Nat} {A A1 A2 : Option Addr} {c c1 c2 : Nat} {l u : List To} {fl : Bool} {ss : List ScM} {fs : List DcM} (h : PgD w0 gp gs A c l (.slice A1 ss.length c1) ss (.slice A2 fs.length c2) fs W u fl) : (PgM.mk A1 c1 ss A2 c2 fs).Ok W (fun g => w0.heap.size ≤ g) := by
 obtain ⟨A3, c3, e3, r1⟩ := h.rS.rowP
 obtain ⟨A4, c4, e4, r2⟩ := h.rF.rowP
 injection e3 with e3 _ e5
 injection e4 with e4 _ e6
 subst e3 e4 e5 e6
 exact ⟨r1, r2, h.oS, h.oF⟩
set_option maxRecDepth 100000 in
set_option maxHeartbeats 1000000 in
theorem rparse_any (A : Option Addr) (c : Nat) (l : List To) (hT : eTo.Lies w w.heap.size A l) (hn : l.length ≤ 1000000) :
 Calls Try.prog 8 #[.slice A l.length c] w (PaR w (parP l)) := by
 have hgp : w.heap.size + 1 < w.heap.size + 2 := by omega
 obtain ⟨hP, hZ, hB⟩ := rp_new l A c hT hn
 obtain ⟨r, hr⟩ : ∃ r, parP l = r := ⟨_, rfl⟩
 rw [hr]
 have HR := Lib.hid hr.symm
 clear hr hT
 go_enter Try.func8, Try.ntmps8
 go_upto_region 2 with fail
 obtain ⟨W0, hW0⟩ : ∃ W0, (w.alloc (.cells #[.slice none 0 0, .slice none 0 0] 27)).alloc (.cells #[.slice A l.length c, .int .i64 0, .bool false] 64) = W0 := ⟨_, rfl⟩
 rw [hW0] at hP hZ hB ⊢
 clear hW0
 obtain ⟨gp, hgpe⟩ : ∃ gp, w.heap.size + 1 = gp := ⟨_, rfl⟩
 have hgpw : w.heap.size < gp := by omega
 rw [hgpe] at hP ⊢
 clear hgp hgpe
 have K0 := Lib.hid (PgD.new hP)
 have HZ := Lib.hid hZ
 have HB := Lib.hid hB
 have lz := hZ.lt
 have lgp := hP.lt
 clear hP hZ hB
 go_wp2_with fail
 have HI := Lib.hid (PgI.new l)
 go_loopw [] (fun wr => ∃ (ss : List ScM) (vS : Value) (fs : List DcM) (vF : Value) (v : List To) (f : Bool), Hid (PgD W0 gp W0.heap.size A c l vS ss vF fs wr v f) ∧ Hid (PgI (proP l) ⟨ss.map ScM.d, fs.map DcM.d⟩ v f) ∧ Hid (f = false → ss.length + fs.length + v.length ≤ l.length)) (fun wr => lfR wr gp l)
 case atStart => exact ⟨[], _, [], _, l, false, K0, HI, Lib.hid (fun _ => by simp)⟩
 case round =>
  clear K0 HI
  obtain ⟨ss, vS, fs, vF, v, f, K, HI, HM⟩ := hrel
  obtain ⟨A1, c1, rfl, _⟩ := K.out.rS.rowP
  obtain ⟨A2, c2, rfl, _⟩ := K.out.rF.rowP
  have HME := Lib.hid K.out.p.lfR
  obtain ⟨k, hk, hu, hc⟩ := K.out.p.k
  have p0 := hc.cell (j := 0) (by simp)
  have p1 := hc.cell (j := 1) (by simp)
  have p2 := hc.cell (j := 2) (by simp)
  have pf1 := hc.frozen 1
  simp only [List.getElem_cons_zero, List.getElem_cons_succ] at p0 p1 p2
  have lg := K.out.p.lt
  have hkn : k ≤ 1000000 := by have := K.out.p.n; omega
  have hln := K.out.p.n
  cases f with
  | true =>
   go_wp2_with fail
   have K9 := Lib.hid K.out
   have HZ2 := Lib.hid (show CAt wr w.heap.size 27 [.slice none 0 0, .slice none 0 0] from (K9.out.g.block _ lz (fun e => by injection e with e; omega)).trans HZ.out)
   have zc0 := HZ2.out.cell (j := 0) (by simp)
   have zc1 := HZ2.out.cell (j := 1) (by simp)
   have zf0 := HZ2.out.frozen 0
   have zf1 := HZ2.out.frozen 1
   simp only [List.getElem_cons_zero, List.getElem_cons_succ] at zc0 zc1
   have lzz := HZ2.out.lt
   go_region
   go_wp2_with fail
   have HBz := Lib.hid (HB.out.trans ((Below.refl w.heap.size W0).grown K9.out.g (Nat.le_of_lt lz) (fun q e => by injection e with e; omega)))
   have hs9 := (HZ2.out.set 0 (.slice none 0 0)).set 1 (.slice none 0 0)
   have hq9 := CAt.below hs9 ((Below.refl _ _).drew) (CAt.lt hs9)
   refine rpar_end (a := k) (b := 7) rfl rfl rfl rfl pgZ hq9 (pgZ_ok _ _) ((((HBz.out.setCell (p := ⟨w.heap.size, 0, none⟩) (Nat.le_refl _) (.slice none 0 0)).setCell (p := ⟨w.heap.size, 1, none⟩) (Nat.le_refl _) (.slice none 0 0))).drew) ?_
   rw [HR.out, parP, HI.out.n rfl]
   have e : (l.length : Int) - v.length = k := by rw [hu, List.length_drop]; omega
   show _ = ((⟨[], []⟩ : Pg), (k : Int), (7 : Int))
   rw [← e]
  | false =>
   by_cases hin : k < l.length
   · have hki : (k : Int) < (l.length : Int) := by omega
     have HNE := Lib.hid (show v ≠ [] by intro e; rw [hu] at e; have := congrArg List.length e; rw [List.length_drop] at this; simp at this; omega)
     clear hu hc
     go_wp2_with fail
     refine (ris_any K.out.p 3 [116, 121, 112, 101]).mono ?_
     rintro e X1 ⟨rfl, m1, hm1⟩
     have K1 := Lib.hid (K.out.draws m1)
     rw [← hm1] at K1
     clear hm1 K p0 p1 p2 pf1 lg hk hki hkn hin
     rw [isX_T (by decide)]
     cases b1 : (!false && isT 3 [116, 121, 112, 101] v) with
     | true =>
      have HT := Lib.hid (and_not b1).2
      obtain ⟨k, hk, hu, hc⟩ := K1.out.p.k
      have p1 := hc.cell (j := 1) (by simp)
      have pf1 := hc.frozen 1
      simp only [List.getElem_cons_zero, List.getElem_cons_succ] at p1
      have lg := K1.out.p.lt
      have hkn : k ≤ 1000000 := by have := K1.out.p.n; omega
      have K2 := Lib.hid (K1.out.step (K1.out.p.step p1 (isT_ne HT.out)) (grown_set _ _ _ _))
      clear hu hc K1
      go_wp2_with fail
      clear p1 pf1 lg
      refine (rname_any K2.out.p).mono ?_
      rintro e Wa ⟨tn, v1, f1, rfl, ha1, hp1, hg1⟩
      have HA1 := Lib.hid ha1
      have K3 := Lib.hid (K2.out.step hp1 hg1)
      have S1 := Lib.hid (StW.new (nm := tn.tx) hp1)
      clear ha1 hp1 hg1 K2
      go_wp2_with fail
      refine (S1.out.word [115, 116, 114, 117, 99, 116] (by decide)).mono ?_
      rintro e X3 ⟨rfl, v2, f2, HA2, S2⟩
      have S2 := Lib.hid S2
      clear S1
      go_wp2_with fail
      refine (S2.out.sign [123] (by decide)).mono ?_
      rintro e X4 ⟨rfl, v3, f3, HA3, S3⟩
      have S3 := Lib.hid S3
      clear S2
      go_wp2_with fail
      have HF := Lib.hid (FlI.new v3 f3)
      have HN3 := Lib.hid (show v3.length ≤ l.length by obtain ⟨k, _, hk, _⟩ := S3.out.p.k; rw [hk]; simp)
      go_loopw [] (fun wr => ∃ (xs : List (List UInt8)) (vn : Value) (v5 : List To) (f5 : Bool), Hid (StW Wa gp Wa.heap.size A c l tn.tx vn xs wr v5 f5) ∧ Hid (FlI (fldP (v3.length + 1) v3) f3 v3 xs v5 f5) ∧ Hid (f5 = false → xs.length + v5.length ≤ l.length)) (fun wr => lfR wr gp l)
      case atStart => exact ⟨[], _, v3, f3, S3, HF, Lib.hid (fun _ => by simpa using HN3.out)⟩
      case round =>
       clear S3 HF HN3
       obtain ⟨xs, vn, v5, f5, S4, HF, HM5⟩ := hrel
       obtain ⟨nA, nc, rfl, _⟩ := S4.out.r.rowP
       have HME5 := Lib.hid S4.out.p.lfR
       obtain ⟨p2, pf2, lg, _, _, _⟩ := S4.out.fl_
       cases f5 with
       | true =>
        go_wp2_with fail
        refine (S4.out.sign [125] (by decide)).mono ?_
        rintro e X6 ⟨rfl, v6, f6, HA6, S6⟩
        have S6 := Lib.hid S6
        have K6 := Lib.hid (K3.out.step S6.out.p S6.out.g)
        have HSc := Lib.hid (show Ans false v (scP v) (ScM.d (ScM.mk tn.tx nA nc xs)) v6 f6 by rw [sc_eq (show isW wType v = true from HT.out)]; exact Ans.then HA1.out.re (Ans.then HA2.out (Ans.then HA3.out (Ans.end_ (HF.out.end_ (fun q => (by cases q)) HA6.out) fun l => (⟨tn.tx, l⟩ : Sc)))))
        have HOk := Lib.hid (show ScM.Ok X6 (fun g => W0.heap.size ≤ g) (ScM.mk tn.tx nA nc xs) by
         obtain ⟨A8, c8, e8, hrow⟩ := S6.out.r.rowP
         injection e8 with e8 _ e9
         subst e8 e9
         exact hrow.keep (fun _ _ _ => rfl) (fun _ q => Nat.le_trans K3.out.g.size q))
        have K7 := Lib.hid (XS1.moreD K6.out.toS HOk.out)
        have q0 := K7.out.s.cell (j := 0) (by simp)
        have q1 := K7.out.s.cell (j := 1) (by simp)
        have s0 := S6.out.s.cell (j := 0) (by simp)
        have s1 := S6.out.s.cell (j := 1) (by simp)
        simp only [List.getElem_cons_zero, List.getElem_cons_succ] at q0 q1 s0 s1
        have lgs := K7.out.s.lt
        have lst := S6.out.s.lt
        have K8 := Lib.hid (K7.out.below (below_lnew X6 (.cells #[.string (str tn.tx), .slice nA xs.length nc] 69)))
        have HBn := Lib.hid (heap_alloc_new X6 (.cells #[.string (str tn.tx), .slice nA xs.length nc] 69))
        have HLn := Lib.hid (show ss.length ≤ 1000000 by have := HM.out (by trivial); have := K6.out.p.n; omega)
        have HIx := Lib.hid (HI.out.sc (show isW wType v = true from HT.out) HSc.out)
        have HLx := Lib.hid (show f6 = false → v6.length + 1 ≤ v.length from fun q => by subst q; exact scP_len HSc.out.ok_eq.2)
        clear HA6 HSc HF S6 K6 K7 HA1 HA2 HA3
        go_wp2_with (at_builtin; refine El.app1x eSc _ rfl 24 (.agg #[.string ⟨#[]⟩, .slice none 0 0]) 40 Try.underlying24 sc_info rfl (by decide) (by decide) (.tmp 66) (.tmp 68) rfl W0.heap.size (.slice A1 ss.length c1) ss rfl K8.out.r X6.heap.size 1 (ScM.mk tn.tx nA nc xs) rfl 69 HBn.out HLn.out K8.out.g.size ?_; intro v9 Z9 ho9 hg9 hk9; obtain ⟨g9, c9, rfl⟩ := El.Own.at0 ho9 (by simp); have hl9 : (ss ++ [(ScM.mk tn.tx nA nc xs)]).length = ss.length + 1 := (by simp); have K10 := Lib.hid (RwD.app (X' := _) K8.out hg9 ho9 (K8.out.kx _ _ (K8.out.frApp hg9) K8.out.x) K8.out.kx); (try rw [hl9] at K10); (try rw [hl9]); have r0 := K10.out.s.cell (j := 0) (by simp); have r0f := K10.out.s.frozen 0; have lrs := K10.out.s.lt; simp only [List.getElem_cons_zero] at r0)
        have K11 := Lib.hid (PgD.ofS (RwD.cell (cs' := fun v => [v, .slice A2 fs.length c2]) K10.out 0 (.slice (some ⟨g9, 0, none⟩) (ss.length + 1) c9) (.slice (some ⟨g9, 0, none⟩) (ss.length + 1) c9) rfl))
        go_roundw
        case rel => exact ⟨ss ++ [(ScM.mk tn.tx nA nc xs)], _, fs, _, v6, f6, K11, Lib.hid (by rw [List.map_append]; exact HIx.out), Lib.hid (fun q => by have h1 := HLx.out q; have h2 := HM.out (by trivial); rw [List.length_append, List.length_singleton]; omega)⟩
        case measure =>
         have h1 := K11.out.p.lfR
         have h2 := HME.out
         rw [if_neg (by decide)] at h2
         rw [h1, h2]
         cases f6 with
         | true => rw [if_pos rfl]; omega
         | false => rw [if_neg (by decide)]; have := HLx.out rfl; omega
       | false =>
        go_wp2_with fail
        refine (S4.out.is 4 [125]).mono ?_
        rintro e X5 ⟨rfl, S5⟩
        have S5 := Lib.hid S5
        clear S4 p2 pf2 lg
        rw [isX_T (by decide)]
        cases b2 : (!false && isT 4 [125] v5) with
        | true =>
         go_wp2_with fail
         refine (S5.out.sign [125] (by decide)).mono ?_
         rintro e X6 ⟨rfl, v6, f6, HA6, S6⟩
         have S6 := Lib.hid S6
         have K6 := Lib.hid (K3.out.step S6.out.p S6.out.g)
         have HSc := Lib.hid (show Ans false v (scP v) (ScM.d (ScM.mk tn.tx nA nc xs)) v6 f6 by rw [sc_eq (show isW wType v = true from HT.out)]; exact Ans.then HA1.out.re (Ans.then HA2.out (Ans.then HA3.out (Ans.end_ (HF.out.end_ (fun _ => (and_not b2).2) HA6.out) fun l => (⟨tn.tx, l⟩ : Sc)))))
         have HOk := Lib.hid (show ScM.Ok X6 (fun g => W0.heap.size ≤ g) (ScM.mk tn.tx nA nc xs) by
          obtain ⟨A8, c8, e8, hrow⟩ := S6.out.r.rowP
          injection e8 with e8 _ e9
          subst e8 e9
          exact hrow.keep (fun _ _ _ => rfl) (fun _ q => Nat.le_trans K3.out.g.size q))
         have K7 := Lib.hid (XS1.moreD K6.out.toS HOk.out)
         have q0 := K7.out.s.cell (j := 0) (by simp)
         have q1 := K7.out.s.cell (j := 1) (by simp)
         have s0 := S6.out.s.cell (j := 0) (by simp)
         have s1 := S6.out.s.cell (j := 1) (by simp)
         simp only [List.getElem_cons_zero, List.getElem_cons_succ] at q0 q1 s0 s1
         have lgs := K7.out.s.lt
         have lst := S6.out.s.lt
         have K8 := Lib.hid (K7.out.below (below_lnew X6 (.cells #[.string (str tn.tx), .slice nA xs.length nc] 69)))
         have HBn := Lib.hid (heap_alloc_new X6 (.cells #[.string (str tn.tx), .slice nA xs.length nc] 69))
         have HLn := Lib.hid (show ss.length ≤ 1000000 by have := HM.out (by trivial); have := K6.out.p.n; omega)
         have HIx := Lib.hid (HI.out.sc (show isW wType v = true from HT.out) HSc.out)
         have HLx := Lib.hid (show f6 = false → v6.length + 1 ≤ v.length from fun q => by subst q; exact scP_len HSc.out.ok_eq.2)
         clear HA6 HSc HF S6 K6 K7 HA1 HA2 HA3
         go_wp2_with (at_builtin; refine El.app1x eSc _ rfl 24 (.agg #[.string ⟨#[]⟩, .slice none 0 0]) 40 Try.underlying24 sc_info rfl (by decide) (by decide) (.tmp 66) (.tmp 68) rfl W0.heap.size (.slice A1 ss.length c1) ss rfl K8.out.r X6.heap.size 1 (ScM.mk tn.tx nA nc xs) rfl 69 HBn.out HLn.out K8.out.g.size ?_; intro v9 Z9 ho9 hg9 hk9; obtain ⟨g9, c9, rfl⟩ := El.Own.at0 ho9 (by simp); have hl9 : (ss ++ [(ScM.mk tn.tx nA nc xs)]).length = ss.length + 1 := (by simp); have K10 := Lib.hid (RwD.app (X' := _) K8.out hg9 ho9 (K8.out.kx _ _ (K8.out.frApp hg9) K8.out.x) K8.out.kx); (try rw [hl9] at K10); (try rw [hl9]); have r0 := K10.out.s.cell (j := 0) (by simp); have r0f := K10.out.s.frozen 0; have lrs := K10.out.s.lt; simp only [List.getElem_cons_zero] at r0)
         have K11 := Lib.hid (PgD.ofS (RwD.cell (cs' := fun v => [v, .slice A2 fs.length c2]) K10.out 0 (.slice (some ⟨g9, 0, none⟩) (ss.length + 1) c9) (.slice (some ⟨g9, 0, none⟩) (ss.length + 1) c9) rfl))
         go_roundw
         case rel => exact ⟨ss ++ [(ScM.mk tn.tx nA nc xs)], _, fs, _, v6, f6, K11, Lib.hid (by rw [List.map_append]; exact HIx.out), Lib.hid (fun q => by have h1 := HLx.out q; have h2 := HM.out (by trivial); rw [List.length_append, List.length_singleton]; omega)⟩
         case measure =>
          have h1 := K11.out.p.lfR
          have h2 := HME.out
          rw [if_neg (by decide)] at h2
          rw [h1, h2]
          cases f6 with
          | true => rw [if_pos rfl]; omega
          | false => rw [if_neg (by decide)]; have := HLx.out rfl; omega
        | false =>
         have hxl : xs.length ≤ 1000000 := by have := HM5.out (by trivial); have := S5.out.p.n; omega
         go_upto_region 10 with fail
         go_cut [] from 42 to 62 (fun wx => ∃ (t9 : To) (z9 : List To) (q9 : Bool) (v9 : Value), Hid (Ans false v5 (takeR 1 [] v5) t9 z9 q9) ∧ Hid (StW Wa gp Wa.heap.size A c l tn.tx v9 (xs ++ [t9.tx]) wx z9 q9))
         case first =>
          refine wp_region_held_drew (S := fun W9 => True) (by kernel_rfl) (trivial) (fun hHeld => ?_)
          have HK1 := Lib.hid S5.out.drew
          generalize X5.drew = Wd at *
          refine heldTake (i := 0) (d := some 52) (v := ?_) rfl rfl (by kernel_rfl) (by kernel_rfl) (by kernel_rfl) (fun _ _ _ h => h) (by kernel_rfl) ?hyq_1 (by assumption) ?restq_1
          case hyq_1 => (intro W9 hSw; (try dsimp only at hSw); go_simp; try (with_reducible rfl))
          (try simp only [Act.put, nA, nB, nC])
          refine heldTake (i := 2) (d := some 54) (v := ?_) rfl rfl (by kernel_rfl) (by kernel_rfl) (by kernel_rfl) (fun _ _ _ h => h) (by kernel_rfl) ?hyq_2 (by assumption) ?restq_2
          case hyq_2 => (intro W9 hSw; (try dsimp only at hSw); go_simp; try (with_reducible rfl))
          (try simp only [Act.put, nA, nB, nC])
          refine wpAnyH_ready (rs := [1, 3]) (by kernel_rfl) (by simp) ?_
          refine AllReadyH.cons rfl (fun K hK => ?_) (AllReadyH.cons rfl (fun K hK => ?_) AllReadyH.nil)
          · have ck2 := HK1.out.s.cell (j := 1) (by simp)
            simp only [List.getElem_cons_zero, List.getElem_cons_succ] at ck2
            go_simp
            refine hK.out _ _ (trivial) (fun hHeld => ?_)
            clear hK K
            (try simp only [Act.put, nA, nB, nC])
            clear ck2
            refine wpAnyH_ready (rs := [3]) (by kernel_rfl) (by simp) ?_
            refine AllReadyH.cons rfl (fun K hK => ?_) AllReadyH.nil
            go_simp
            go_at_call 20
            refine (HK1.out.name).mono ?_
            rintro e9 X4 ⟨t9, z9, q9, rfl, HA9, HK3⟩
            have HK3 := Lib.hid HK3
            go_wp2_with fail
            refine hK.out _ _ (trivial) (fun hHeld => ?_)
            clear hK K
            (try simp only [Act.put, nA, nB, nC])
            refine wpAnyH_ready (rs := [4]) (by kernel_rfl) (by simp) ?_
            refine AllReadyH.cons rfl (fun K hK => ?_) AllReadyH.nil
            (try rw [if_pos (by kernel_rfl)])
            refine El.op_build1 eSr X4 67 (.string ⟨#[]⟩) 16 Try.underlying67 sr_info rfl (by decide) (.tmp 55) rfl (.string (str t9.tx)) t9.tx rfl rfl ?_
            change K (Act.put _ (some 56) (.slice (some ⟨X4.heap.size, 0, none⟩) 1 1)) (X4.alloc (.cells #[.string (str t9.tx)] 9))
            have hbY := below_lnew X4 (.cells #[.string (str t9.tx)] 9)
            have HB7 := Lib.hid (heap_alloc_new X4 (.cells #[.string (str t9.tx)] 9))
            obtain ⟨Y6, hY⟩ : ∃ Y, X4.alloc (.cells #[.string (str t9.tx)] 9) = Y := ⟨_, rfl⟩
            rw [hY] at hbY HB7 ⊢
            have HK5 := Lib.hid (HK3.out.below hbY)
            clear hY hbY
            refine hK.out _ _ (trivial) (fun hHeld => ?_)
            clear hK K
            (try simp only [Act.put, nA, nB, nC])
            refine wpAnyH_ready (rs := [5]) (by kernel_rfl) (by simp) ?_
            refine AllReadyH.cons rfl (fun K hK => ?_) AllReadyH.nil
            (try rw [if_pos (by kernel_rfl)])
            refine El.op_app1x eSr Y6 67 (.string ⟨#[]⟩) 16 Try.underlying67 sr_info rfl (by decide) (by decide) (.tmp 53) (.tmp 56) rfl Wa.heap.size (.slice nA xs.length nc) xs rfl HK5.out.r X4.heap.size 1 t9.tx rfl 9 HB7.out hxl HK5.out.g.size ?_
            intro v9 Z8 ho9 hg9 hk9
            obtain ⟨g9, c9, rfl⟩ := El.Own.at0 ho9 (by simp)
            have hl9 : (xs ++ [t9.tx]).length = xs.length + 1 := by simp
            have HK9 := Lib.hid (RwD.app (X' := fun _ => True) HK5.out hg9 ho9 (trivial) (fun _ _ _ _ => trivial))
            change K (Act.put _ (some 57) (.slice (some ⟨g9, 0, none⟩) (xs ++ [t9.tx]).length c9)) Z8
            rw [hl9]
            rw [hl9] at HK9
            clear ho9 hg9 hk9
            refine hK.out _ _ (trivial) (fun hHeld => ?_)
            clear hK K
            (try simp only [Act.put, nA, nB, nC])
            refine heldTake (i := 6) (d := some 58) (v := ?_) rfl rfl (by kernel_rfl) (by kernel_rfl) (by kernel_rfl) (fun _ _ _ h => h) (by kernel_rfl) ?hyq_3 (by assumption) ?restq_3
            case hyq_3 => (intro W9 hSw; (try dsimp only at hSw); go_simp; try (with_reducible rfl))
            (try simp only [Act.put, nA, nB, nC])
            refine wpAnyH_ready (rs := [7]) (by kernel_rfl) (by simp) ?_
            refine AllReadyH.cons rfl (fun K hK => ?_) AllReadyH.nil
            have ck12 := HK9.out.s.cell (j := 1) (by simp)
            have ck12f := HK9.out.s.frozen 1
            simp only [List.getElem_cons_zero, List.getElem_cons_succ] at ck12
            have HK10 := Lib.hid (RwD.cell (cs' := fun v => [.string (str tn.tx), v]) HK9.out 1 (.slice (some ⟨g9, 0, none⟩) (xs.length + 1) c9) (.slice (some ⟨g9, 0, none⟩) (xs.length + 1) c9) rfl)
            go_simp
            obtain ⟨P11, hP9⟩ : ∃ P9, Z8.setCell ⟨Wa.heap.size, 1, none⟩ (.slice (some ⟨g9, 0, none⟩) (xs.length + 1) c9) = P9 := ⟨_, rfl⟩
            rw [hP9] at HK10 ⊢
            clear hP9 ck12 ck12f
            refine hK.out _ _ (trivial) (fun hHeld => ?_)
            clear hK K
            (try simp only [Act.put, nA, nB, nC])
            refine wpAnyH_done (by kernel_rfl) ?_ _
            go_wp2_with fail
            go_meet
            exact ⟨_, _, _, _, HA9, HK10⟩
          · go_simp
            go_at_call 20
            refine (HK1.out.name).mono ?_
            rintro e9 X14 ⟨t9, z9, q9, rfl, HA9, HK13⟩
            have HK13 := Lib.hid HK13
            go_wp2_with fail
            refine hK.out _ _ (trivial) (fun hHeld => ?_)
            clear hK K
            (try simp only [Act.put, nA, nB, nC])
            refine wpAnyH_ready (rs := [1, 4]) (by kernel_rfl) (by simp) ?_
            refine AllReadyH.cons rfl (fun K hK => ?_) (AllReadyH.cons rfl (fun K hK => ?_) AllReadyH.nil)
            · have ck15 := HK13.out.s.cell (j := 1) (by simp)
              simp only [List.getElem_cons_zero, List.getElem_cons_succ] at ck15
              go_simp
              refine hK.out _ _ (trivial) (fun hHeld => ?_)
              clear hK K
              (try simp only [Act.put, nA, nB, nC])
              clear ck15
              refine wpAnyH_ready (rs := [4]) (by kernel_rfl) (by simp) ?_
              refine AllReadyH.cons rfl (fun K hK => ?_) AllReadyH.nil
              (try rw [if_pos (by kernel_rfl)])
              refine El.op_build1 eSr X14 67 (.string ⟨#[]⟩) 16 Try.underlying67 sr_info rfl (by decide) (.tmp 55) rfl (.string (str t9.tx)) t9.tx rfl rfl ?_
              change K (Act.put _ (some 56) (.slice (some ⟨X14.heap.size, 0, none⟩) 1 1)) (X14.alloc (.cells #[.string (str t9.tx)] 9))
              have hbY := below_lnew X14 (.cells #[.string (str t9.tx)] 9)
              have HB18 := Lib.hid (heap_alloc_new X14 (.cells #[.string (str t9.tx)] 9))
              obtain ⟨Y17, hY⟩ : ∃ Y, X14.alloc (.cells #[.string (str t9.tx)] 9) = Y := ⟨_, rfl⟩
              rw [hY] at hbY HB18 ⊢
              have HK16 := Lib.hid (HK13.out.below hbY)
              clear hY hbY
              refine hK.out _ _ (trivial) (fun hHeld => ?_)
              clear hK K
              (try simp only [Act.put, nA, nB, nC])
              refine wpAnyH_ready (rs := [5]) (by kernel_rfl) (by simp) ?_
              refine AllReadyH.cons rfl (fun K hK => ?_) AllReadyH.nil
              (try rw [if_pos (by kernel_rfl)])
              refine El.op_app1x eSr Y17 67 (.string ⟨#[]⟩) 16 Try.underlying67 sr_info rfl (by decide) (by decide) (.tmp 53) (.tmp 56) rfl Wa.heap.size (.slice nA xs.length nc) xs rfl HK16.out.r X14.heap.size 1 t9.tx rfl 9 HB18.out hxl HK16.out.g.size ?_
              intro v9 Z19 ho9 hg9 hk9
              obtain ⟨g9, c9, rfl⟩ := El.Own.at0 ho9 (by simp)
              have hl9 : (xs ++ [t9.tx]).length = xs.length + 1 := by simp
              have HK20 := Lib.hid (RwD.app (X' := fun _ => True) HK16.out hg9 ho9 (trivial) (fun _ _ _ _ => trivial))
              change K (Act.put _ (some 57) (.slice (some ⟨g9, 0, none⟩) (xs ++ [t9.tx]).length c9)) Z19
              rw [hl9]
              rw [hl9] at HK20
              clear ho9 hg9 hk9
              refine hK.out _ _ (trivial) (fun hHeld => ?_)
              clear hK K
              (try simp only [Act.put, nA, nB, nC])
              refine heldTake (i := 6) (d := some 58) (v := ?_) rfl rfl (by kernel_rfl) (by kernel_rfl) (by kernel_rfl) (fun _ _ _ h => h) (by kernel_rfl) ?hyq_4 (by assumption) ?restq_4
              case hyq_4 => (intro W9 hSw; (try dsimp only at hSw); go_simp; try (with_reducible rfl))
              (try simp only [Act.put, nA, nB, nC])
              refine wpAnyH_ready (rs := [7]) (by kernel_rfl) (by simp) ?_
              refine AllReadyH.cons rfl (fun K hK => ?_) AllReadyH.nil
              have ck23 := HK20.out.s.cell (j := 1) (by simp)
              have ck23f := HK20.out.s.frozen 1
              simp only [List.getElem_cons_zero, List.getElem_cons_succ] at ck23
              have HK21 := Lib.hid (RwD.cell (cs' := fun v => [.string (str tn.tx), v]) HK20.out 1 (.slice (some ⟨g9, 0, none⟩) (xs.length + 1) c9) (.slice (some ⟨g9, 0, none⟩) (xs.length + 1) c9) rfl)
              go_simp
              obtain ⟨P22, hP9⟩ : ∃ P9, Z19.setCell ⟨Wa.heap.size, 1, none⟩ (.slice (some ⟨g9, 0, none⟩) (xs.length + 1) c9) = P9 := ⟨_, rfl⟩
              rw [hP9] at HK21 ⊢
              clear hP9 ck23 ck23f
              refine hK.out _ _ (trivial) (fun hHeld => ?_)
              clear hK K
              (try simp only [Act.put, nA, nB, nC])
              refine wpAnyH_done (by kernel_rfl) ?_ _
              go_wp2_with fail
              go_meet
              exact ⟨_, _, _, _, HA9, HK21⟩
            · (try rw [if_pos (by kernel_rfl)])
              refine El.op_build1 eSr X14 67 (.string ⟨#[]⟩) 16 Try.underlying67 sr_info rfl (by decide) (.tmp 55) rfl (.string (str t9.tx)) t9.tx rfl rfl ?_
              change K (Act.put _ (some 56) (.slice (some ⟨X14.heap.size, 0, none⟩) 1 1)) (X14.alloc (.cells #[.string (str t9.tx)] 9))
              have hbY := below_lnew X14 (.cells #[.string (str t9.tx)] 9)
              have HB26 := Lib.hid (heap_alloc_new X14 (.cells #[.string (str t9.tx)] 9))
              obtain ⟨Y25, hY⟩ : ∃ Y, X14.alloc (.cells #[.string (str t9.tx)] 9) = Y := ⟨_, rfl⟩
              rw [hY] at hbY HB26 ⊢
              have HK24 := Lib.hid (HK13.out.below hbY)
              clear hY hbY
              refine hK.out _ _ (trivial) (fun hHeld => ?_)
              clear hK K
              (try simp only [Act.put, nA, nB, nC])
              refine wpAnyH_ready (rs := [1]) (by kernel_rfl) (by simp) ?_
              refine AllReadyH.cons rfl (fun K hK => ?_) AllReadyH.nil
              have ck27 := HK24.out.s.cell (j := 1) (by simp)
              simp only [List.getElem_cons_zero, List.getElem_cons_succ] at ck27
              go_simp
              refine hK.out _ _ (trivial) (fun hHeld => ?_)
              clear hK K
              (try simp only [Act.put, nA, nB, nC])
              clear ck27
              refine wpAnyH_ready (rs := [5]) (by kernel_rfl) (by simp) ?_
              refine AllReadyH.cons rfl (fun K hK => ?_) AllReadyH.nil
              (try rw [if_pos (by kernel_rfl)])
              refine El.op_app1x eSr Y25 67 (.string ⟨#[]⟩) 16 Try.underlying67 sr_info rfl (by decide) (by decide) (.tmp 53) (.tmp 56) rfl Wa.heap.size (.slice nA xs.length nc) xs rfl HK24.out.r X14.heap.size 1 t9.tx rfl 9 HB26.out hxl HK24.out.g.size ?_
              intro v9 Z28 ho9 hg9 hk9
              obtain ⟨g9, c9, rfl⟩ := El.Own.at0 ho9 (by simp)
              have hl9 : (xs ++ [t9.tx]).length = xs.length + 1 := by simp
              have HK29 := Lib.hid (RwD.app (X' := fun _ => True) HK24.out hg9 ho9 (trivial) (fun _ _ _ _ => trivial))
              change K (Act.put _ (some 57) (.slice (some ⟨g9, 0, none⟩) (xs ++ [t9.tx]).length c9)) Z28
              rw [hl9]
              rw [hl9] at HK29
              clear ho9 hg9 hk9
              refine hK.out _ _ (trivial) (fun hHeld => ?_)
              clear hK K
              (try simp only [Act.put, nA, nB, nC])
              refine heldTake (i := 6) (d := some 58) (v := ?_) rfl rfl (by kernel_rfl) (by kernel_rfl) (by kernel_rfl) (fun _ _ _ h => h) (by kernel_rfl) ?hyq_5 (by assumption) ?restq_5
              case hyq_5 => (intro W9 hSw; (try dsimp only at hSw); go_simp; try (with_reducible rfl))
              (try simp only [Act.put, nA, nB, nC])
              refine wpAnyH_ready (rs := [7]) (by kernel_rfl) (by simp) ?_
              refine AllReadyH.cons rfl (fun K hK => ?_) AllReadyH.nil
              have ck32 := HK29.out.s.cell (j := 1) (by simp)
              have ck32f := HK29.out.s.frozen 1
              simp only [List.getElem_cons_zero, List.getElem_cons_succ] at ck32
              have HK30 := Lib.hid (RwD.cell (cs' := fun v => [.string (str tn.tx), v]) HK29.out 1 (.slice (some ⟨g9, 0, none⟩) (xs.length + 1) c9) (.slice (some ⟨g9, 0, none⟩) (xs.length + 1) c9) rfl)
              go_simp
              obtain ⟨P31, hP9⟩ : ∃ P9, Z28.setCell ⟨Wa.heap.size, 1, none⟩ (.slice (some ⟨g9, 0, none⟩) (xs.length + 1) c9) = P9 := ⟨_, rfl⟩
              rw [hP9] at HK30 ⊢
              clear hP9 ck32 ck32f
              refine hK.out _ _ (trivial) (fun hHeld => ?_)
              clear hK K
              (try simp only [Act.put, nA, nB, nC])
              refine wpAnyH_done (by kernel_rfl) ?_ _
              go_wp2_with fail
              go_meet
              exact ⟨_, _, _, _, HA9, HK30⟩
         case rest =>
          obtain ⟨t9, z9, q9, v9, HA9, S7⟩ := hcut
          clear S5
          go_wp2_with fail
          refine (S7.out.word [105, 110, 116] (by decide)).mono ?_
          rintro e X7 ⟨rfl, v7, f7, HA7, S8⟩
          have S8 := Lib.hid S8
          clear S7
          go_wp2_with fail
          refine (S8.out.sign [59] (by decide)).mono ?_
          rintro e X8 ⟨rfl, v8, f8, HA8, S9⟩
          have S9 := Lib.hid S9
          clear S8
          have HO := Lib.hid (show Ans false v5 (oneF v5) t9.tx v8 f8 from Ans.then HA9.out (Ans.then HA7.out (Ans.end_ HA8.out fun _ => t9.tx)))
          have HF2 := Lib.hid (HF.out.more (and_nt b2 rfl) HO.out)
          have HLx := Lib.hid (show f8 = false → v8.length + 1 ≤ v5.length from fun q => by subst q; exact oneF_len HO.out.ok_eq.2)
          clear HA9 HA7 HA8 HO HF
          go_wp2_with fail
          go_roundw
          case rel => exact ⟨xs ++ [t9.tx], v9, v8, f8, S9, HF2, Lib.hid (fun q => by have h1 := HLx.out q; have h2 := HM5.out (by trivial); rw [List.length_append, List.length_singleton]; omega)⟩
          case measure =>
           have h1 := S9.out.p.lfR
           have h2 := HME5.out
           rw [if_neg (by decide)] at h2
           rw [h1, h2]
           cases f8 with
           | true => rw [if_pos rfl]; omega
           | false => rw [if_neg (by decide)]; have := HLx.out rfl; omega
     | false =>
      go_wp2_with fail
      refine (rline_any K1.out.p).mono ?_
      rintro e X2 ⟨rfl, m2, hm2⟩
      have K2 := Lib.hid (K1.out.draws m2)
      rw [← hm2] at K2
      clear hm2 K1
      go_wp2_with fail
      refine (rword_any K2.out.p [102, 117, 110, 99] (by decide)).mono ?_
      rintro e X3 ⟨rfl, v3, f3, ha3, hp3, hg3⟩
      have K3 := Lib.hid (K2.out.step hp3 hg3)
      have HDC := Lib.hid (show ∀ d z q, Ans f3 v3 (fnR (hd v).ln v3) d z q → Ans false v (dcP v) d z q from fun d z q h => by rw [dc_eq]; exact Ans.then ha3 h)
      clear ha3 hp3 hg3 K2
      go_wp2_with fail
      have K4 := Lib.hid K3.out.toF
      have hxl : fs.length ≤ 1000000 := by have := HM.out (by trivial); have := K3.out.p.n; omega
      clear K3
      refine wp_region_held_drew (S := fun W9 => True) (by kernel_rfl) (trivial) (fun hHeld => ?_)
      have HK33 := Lib.hid K4.out.drew
      generalize X3.drew = Wd at *
      refine heldTake (i := 0) (d := some 75) (v := ?_) rfl rfl (by kernel_rfl) (by kernel_rfl) (by kernel_rfl) (fun _ _ _ h => h) (by kernel_rfl) ?hyq_6 (by assumption) ?restq_6
      case hyq_6 => (intro W9 hSw; (try dsimp only at hSw); go_simp; try (with_reducible rfl))
      (try simp only [Act.put, nA, nB, nC])
      refine heldTake (i := 2) (d := some 77) (v := ?_) rfl rfl (by kernel_rfl) (by kernel_rfl) (by kernel_rfl) (fun _ _ _ h => h) (by kernel_rfl) ?hyq_7 (by assumption) ?restq_7
      case hyq_7 => (intro W9 hSw; (try dsimp only at hSw); go_simp; try (with_reducible rfl))
      (try simp only [Act.put, nA, nB, nC])
      refine heldTake (i := 3) (d := some 78) (v := ?_) rfl rfl (by kernel_rfl) (by kernel_rfl) (by kernel_rfl) (fun _ _ _ h => h) (by kernel_rfl) ?hyq_8 (by assumption) ?restq_8
      case hyq_8 => (intro W9 hSw; (try dsimp only at hSw); go_simp; try (with_reducible rfl))
      (try simp only [Act.put, nA, nB, nC])
      refine wpAnyH_ready (rs := [1, 4]) (by kernel_rfl) (by simp) ?_
      refine AllReadyH.cons rfl (fun K hK => ?_) (AllReadyH.cons rfl (fun K hK => ?_) AllReadyH.nil)
      · have ck34 := HK33.out.s.cell (j := 1) (by simp)
        simp only [List.getElem_cons_zero, List.getElem_cons_succ] at ck34
        go_simp
        refine hK.out _ _ (trivial) (fun hHeld => ?_)
        clear hK K
        (try simp only [Act.put, nA, nB, nC])
        clear ck34
        refine wpAnyH_ready (rs := [4]) (by kernel_rfl) (by simp) ?_
        refine AllReadyH.cons rfl (fun K hK => ?_) AllReadyH.nil
        go_simp
        go_at_call 24
        refine (rfunction_any HK33.out.p (hd v).ln).mono ?_
        rintro e9 X36 ⟨⟨nm9, ln9, pA9, pc9, ps9, ⟨tk9, tn9, tm9⟩, bA9, bc9, bd9⟩, z9, q9, rfl, ha9, ho9, hp9, hg9⟩
        have HA9 := Lib.hid ha9
        have HK35 := Lib.hid (XF1.moreD (HK33.out.step hp9 hg9) (ho9.keep (fun _ _ _ => rfl) (fun _ _ _ => rfl) (fun _ _ _ => rfl) (fun g q => Nat.le_trans HK33.out.g.size q)))
        clear ha9 ho9 hp9 hg9
        unfold DcM.cs
        dsimp only
        go_wp2_with fail
        refine hK.out _ _ (trivial) (fun hHeld => ?_)
        clear hK K
        (try simp only [Act.put, nA, nB, nC])
        refine wpAnyH_ready (rs := [5]) (by kernel_rfl) (by simp) ?_
        refine AllReadyH.cons rfl (fun K hK => ?_) AllReadyH.nil
        (try rw [if_pos (by kernel_rfl)])
        refine El.op_build1 eDc X36 25 (.agg #[.string ⟨#[]⟩, .int .i64 0, .slice none 0 0, .int .u8 0, .int .i64 0, .string ⟨#[]⟩, .slice none 0 0]) 104 Try.underlying25 dc_info rfl (by decide) (.tmp 79) rfl (.agg #[.string (str nm9), .int .i64 ln9, .slice pA9 ps9.length pc9, .int .u8 tk9, .int .i64 tn9, .string (str tm9), .slice bA9 bd9.length bc9]) (DcM.mk nm9 ln9 pA9 pc9 ps9 ⟨tk9, tn9, tm9⟩ bA9 bc9 bd9) rfl rfl ?_
        change K (Act.put _ (some 80) (.slice (some ⟨X36.heap.size, 0, none⟩) 1 1)) (X36.alloc (.cells #[.string (str nm9), .int .i64 ln9, .slice pA9 ps9.length pc9, .int .u8 tk9, .int .i64 tn9, .string (str tm9), .slice bA9 bd9.length bc9] 48))
        have hbY := below_lnew X36 (.cells #[.string (str nm9), .int .i64 ln9, .slice pA9 ps9.length pc9, .int .u8 tk9, .int .i64 tn9, .string (str tm9), .slice bA9 bd9.length bc9] 48)
        have HB39 := Lib.hid (heap_alloc_new X36 (.cells #[.string (str nm9), .int .i64 ln9, .slice pA9 ps9.length pc9, .int .u8 tk9, .int .i64 tn9, .string (str tm9), .slice bA9 bd9.length bc9] 48))
        obtain ⟨Y38, hY⟩ : ∃ Y, X36.alloc (.cells #[.string (str nm9), .int .i64 ln9, .slice pA9 ps9.length pc9, .int .u8 tk9, .int .i64 tn9, .string (str tm9), .slice bA9 bd9.length bc9] 48) = Y := ⟨_, rfl⟩
        rw [hY] at hbY HB39 ⊢
        have HK37 := Lib.hid (HK35.out.below hbY)
        clear hY hbY
        refine hK.out _ _ (trivial) (fun hHeld => ?_)
        clear hK K
        (try simp only [Act.put, nA, nB, nC])
        refine wpAnyH_ready (rs := [6]) (by kernel_rfl) (by simp) ?_
        refine AllReadyH.cons rfl (fun K hK => ?_) AllReadyH.nil
        (try rw [if_pos (by kernel_rfl)])
        refine El.op_app1x eDc Y38 25 (.agg #[.string ⟨#[]⟩, .int .i64 0, .slice none 0 0, .int .u8 0, .int .i64 0, .string ⟨#[]⟩, .slice none 0 0]) 104 Try.underlying25 dc_info rfl (by decide) (by decide) (.tmp 76) (.tmp 80) rfl W0.heap.size (.slice A2 fs.length c2) fs rfl HK37.out.r X36.heap.size 1 (DcM.mk nm9 ln9 pA9 pc9 ps9 ⟨tk9, tn9, tm9⟩ bA9 bc9 bd9) rfl 48 HB39.out hxl HK37.out.g.size ?_
        intro v9 Z40 ho9 hg9 hk9
        obtain ⟨g9, c9, rfl⟩ := El.Own.at0 ho9 (by simp)
        have hl9 : (fs ++ [(DcM.mk nm9 ln9 pA9 pc9 ps9 ⟨tk9, tn9, tm9⟩ bA9 bc9 bd9)]).length = fs.length + 1 := by simp
        have HK41 := Lib.hid (RwD.app (X' := _) HK37.out hg9 ho9 (HK37.out.kx _ _ (HK37.out.frApp hg9) HK37.out.x) (HK37.out.kx))
        change K (Act.put _ (some 81) (.slice (some ⟨g9, 0, none⟩) (fs ++ [(DcM.mk nm9 ln9 pA9 pc9 ps9 ⟨tk9, tn9, tm9⟩ bA9 bc9 bd9)]).length c9)) Z40
        rw [hl9]
        rw [hl9] at HK41
        clear ho9 hg9 hk9
        refine hK.out _ _ (trivial) (fun hHeld => ?_)
        clear hK K
        (try simp only [Act.put, nA, nB, nC])
        refine heldTake (i := 7) (d := some 82) (v := ?_) rfl rfl (by kernel_rfl) (by kernel_rfl) (by kernel_rfl) (fun _ _ _ h => h) (by kernel_rfl) ?hyq_9 (by assumption) ?restq_9
        case hyq_9 => (intro W9 hSw; (try dsimp only at hSw); go_simp; try (with_reducible rfl))
        (try simp only [Act.put, nA, nB, nC])
        refine wpAnyH_ready (rs := [8]) (by kernel_rfl) (by simp) ?_
        refine AllReadyH.cons rfl (fun K hK => ?_) AllReadyH.nil
        have ck44 := HK41.out.s.cell (j := 1) (by simp)
        have ck44f := HK41.out.s.frozen 1
        simp only [List.getElem_cons_zero, List.getElem_cons_succ] at ck44
        have HK42 := Lib.hid (RwD.cell (cs' := fun v => [.slice A1 ss.length c1, v]) HK41.out 1 (.slice (some ⟨g9, 0, none⟩) (fs.length + 1) c9) (.slice (some ⟨g9, 0, none⟩) (fs.length + 1) c9) rfl)
        go_simp
        obtain ⟨P43, hP9⟩ : ∃ P9, Z40.setCell ⟨W0.heap.size, 1, none⟩ (.slice (some ⟨g9, 0, none⟩) (fs.length + 1) c9) = P9 := ⟨_, rfl⟩
        rw [hP9] at HK42 ⊢
        clear hP9 ck44 ck44f
        refine hK.out _ _ (trivial) (fun hHeld => ?_)
        clear hK K
        (try simp only [Act.put, nA, nB, nC])
        refine wpAnyH_done (by kernel_rfl) ?_ _
        have HPg := Lib.hid (PgD.ofF HK42.out)
        have HIx := Lib.hid (HI.out.dc HNE.out (and_nt b1 rfl) (HDC.out _ _ _ HA9.out))
        have HLx := Lib.hid (show q9 = false → z9.length + 1 ≤ v.length from fun q => by subst q; exact dcP_len (HDC.out _ _ _ HA9.out).ok_eq.2)
        go_wp2_with fail
        go_roundw
        case rel => exact ⟨ss, _, fs ++ [(DcM.mk nm9 ln9 pA9 pc9 ps9 ⟨tk9, tn9, tm9⟩ bA9 bc9 bd9)], _, z9, q9, HPg, Lib.hid (by rw [List.map_append]; exact HIx.out), Lib.hid (fun q => by have h1 := HLx.out q; have h2 := HM.out (by trivial); rw [List.length_append, List.length_singleton]; omega)⟩
        case measure =>
         have h1 := HPg.out.p.lfR
         have h2 := HME.out
         rw [if_neg (by decide)] at h2
         rw [h1, h2]
         cases q9 with
         | true => rw [if_pos rfl]; omega
         | false => rw [if_neg (by decide)]; have := HLx.out rfl; omega
      · go_simp
        go_at_call 24
        refine (rfunction_any HK33.out.p (hd v).ln).mono ?_
        rintro e9 X46 ⟨⟨nm9, ln9, pA9, pc9, ps9, ⟨tk9, tn9, tm9⟩, bA9, bc9, bd9⟩, z9, q9, rfl, ha9, ho9, hp9, hg9⟩
        have HA9 := Lib.hid ha9
        have HK45 := Lib.hid (XF1.moreD (HK33.out.step hp9 hg9) (ho9.keep (fun _ _ _ => rfl) (fun _ _ _ => rfl) (fun _ _ _ => rfl) (fun g q => Nat.le_trans HK33.out.g.size q)))
        clear ha9 ho9 hp9 hg9
        unfold DcM.cs
        dsimp only
        go_wp2_with fail
        refine hK.out _ _ (trivial) (fun hHeld => ?_)
        clear hK K
        (try simp only [Act.put, nA, nB, nC])
        refine wpAnyH_ready (rs := [1, 5]) (by kernel_rfl) (by simp) ?_
        refine AllReadyH.cons rfl (fun K hK => ?_) (AllReadyH.cons rfl (fun K hK => ?_) AllReadyH.nil)
        · have ck47 := HK45.out.s.cell (j := 1) (by simp)
          simp only [List.getElem_cons_zero, List.getElem_cons_succ] at ck47
          go_simp
          refine hK.out _ _ (trivial) (fun hHeld => ?_)
          clear hK K
          (try simp only [Act.put, nA, nB, nC])
          clear ck47
          refine wpAnyH_ready (rs := [5]) (by kernel_rfl) (by simp) ?_
          refine AllReadyH.cons rfl (fun K hK => ?_) AllReadyH.nil
          (try rw [if_pos (by kernel_rfl)])
          refine El.op_build1 eDc X46 25 (.agg #[.string ⟨#[]⟩, .int .i64 0, .slice none 0 0, .int .u8 0, .int .i64 0, .string ⟨#[]⟩, .slice none 0 0]) 104 Try.underlying25 dc_info rfl (by decide) (.tmp 79) rfl (.agg #[.string (str nm9), .int .i64 ln9, .slice pA9 ps9.length pc9, .int .u8 tk9, .int .i64 tn9, .string (str tm9), .slice bA9 bd9.length bc9]) (DcM.mk nm9 ln9 pA9 pc9 ps9 ⟨tk9, tn9, tm9⟩ bA9 bc9 bd9) rfl rfl ?_
          change K (Act.put _ (some 80) (.slice (some ⟨X46.heap.size, 0, none⟩) 1 1)) (X46.alloc (.cells #[.string (str nm9), .int .i64 ln9, .slice pA9 ps9.length pc9, .int .u8 tk9, .int .i64 tn9, .string (str tm9), .slice bA9 bd9.length bc9] 48))
          have hbY := below_lnew X46 (.cells #[.string (str nm9), .int .i64 ln9, .slice pA9 ps9.length pc9, .int .u8 tk9, .int .i64 tn9, .string (str tm9), .slice bA9 bd9.length bc9] 48)
          have HB50 := Lib.hid (heap_alloc_new X46 (.cells #[.string (str nm9), .int .i64 ln9, .slice pA9 ps9.length pc9, .int .u8 tk9, .int .i64 tn9, .string (str tm9), .slice bA9 bd9.length bc9] 48))
          obtain ⟨Y49, hY⟩ : ∃ Y, X46.alloc (.cells #[.string (str nm9), .int .i64 ln9, .slice pA9 ps9.length pc9, .int .u8 tk9, .int .i64 tn9, .string (str tm9), .slice bA9 bd9.length bc9] 48) = Y := ⟨_, rfl⟩
          rw [hY] at hbY HB50 ⊢
          have HK48 := Lib.hid (HK45.out.below hbY)
          clear hY hbY
          refine hK.out _ _ (trivial) (fun hHeld => ?_)
          clear hK K
          (try simp only [Act.put, nA, nB, nC])
          refine wpAnyH_ready (rs := [6]) (by kernel_rfl) (by simp) ?_
          refine AllReadyH.cons rfl (fun K hK => ?_) AllReadyH.nil
          (try rw [if_pos (by kernel_rfl)])
          refine El.op_app1x eDc Y49 25 (.agg #[.string ⟨#[]⟩, .int .i64 0, .slice none 0 0, .int .u8 0, .int .i64 0, .string ⟨#[]⟩, .slice none 0 0]) 104 Try.underlying25 dc_info rfl (by decide) (by decide) (.tmp 76) (.tmp 80) rfl W0.heap.size (.slice A2 fs.length c2) fs rfl HK48.out.r X46.heap.size 1 (DcM.mk nm9 ln9 pA9 pc9 ps9 ⟨tk9, tn9, tm9⟩ bA9 bc9 bd9) rfl 48 HB50.out hxl HK48.out.g.size ?_
          intro v9 Z51 ho9 hg9 hk9
          obtain ⟨g9, c9, rfl⟩ := El.Own.at0 ho9 (by simp)
          have hl9 : (fs ++ [(DcM.mk nm9 ln9 pA9 pc9 ps9 ⟨tk9, tn9, tm9⟩ bA9 bc9 bd9)]).length = fs.length + 1 := by simp
          have HK52 := Lib.hid (RwD.app (X' := _) HK48.out hg9 ho9 (HK48.out.kx _ _ (HK48.out.frApp hg9) HK48.out.x) (HK48.out.kx))
          change K (Act.put _ (some 81) (.slice (some ⟨g9, 0, none⟩) (fs ++ [(DcM.mk nm9 ln9 pA9 pc9 ps9 ⟨tk9, tn9, tm9⟩ bA9 bc9 bd9)]).length c9)) Z51
          rw [hl9]
          rw [hl9] at HK52
          clear ho9 hg9 hk9
          refine hK.out _ _ (trivial) (fun hHeld => ?_)
          clear hK K
          (try simp only [Act.put, nA, nB, nC])
          refine heldTake (i := 7) (d := some 82) (v := ?_) rfl rfl (by kernel_rfl) (by kernel_rfl) (by kernel_rfl) (fun _ _ _ h => h) (by kernel_rfl) ?hyq_10 (by assumption) ?restq_10
          case hyq_10 => (intro W9 hSw; (try dsimp only at hSw); go_simp; try (with_reducible rfl))
          (try simp only [Act.put, nA, nB, nC])
          refine wpAnyH_ready (rs := [8]) (by kernel_rfl) (by simp) ?_
          refine AllReadyH.cons rfl (fun K hK => ?_) AllReadyH.nil
          have ck55 := HK52.out.s.cell (j := 1) (by simp)
          have ck55f := HK52.out.s.frozen 1
          simp only [List.getElem_cons_zero, List.getElem_cons_succ] at ck55
          have HK53 := Lib.hid (RwD.cell (cs' := fun v => [.slice A1 ss.length c1, v]) HK52.out 1 (.slice (some ⟨g9, 0, none⟩) (fs.length + 1) c9) (.slice (some ⟨g9, 0, none⟩) (fs.length + 1) c9) rfl)
          go_simp
          obtain ⟨P54, hP9⟩ : ∃ P9, Z51.setCell ⟨W0.heap.size, 1, none⟩ (.slice (some ⟨g9, 0, none⟩) (fs.length + 1) c9) = P9 := ⟨_, rfl⟩
          rw [hP9] at HK53 ⊢
          clear hP9 ck55 ck55f
          refine hK.out _ _ (trivial) (fun hHeld => ?_)
          clear hK K
          (try simp only [Act.put, nA, nB, nC])
          refine wpAnyH_done (by kernel_rfl) ?_ _
          have HPg := Lib.hid (PgD.ofF HK53.out)
          have HIx := Lib.hid (HI.out.dc HNE.out (and_nt b1 rfl) (HDC.out _ _ _ HA9.out))
          have HLx := Lib.hid (show q9 = false → z9.length + 1 ≤ v.length from fun q => by subst q; exact dcP_len (HDC.out _ _ _ HA9.out).ok_eq.2)
          go_wp2_with fail
          go_roundw
          case rel => exact ⟨ss, _, fs ++ [(DcM.mk nm9 ln9 pA9 pc9 ps9 ⟨tk9, tn9, tm9⟩ bA9 bc9 bd9)], _, z9, q9, HPg, Lib.hid (by rw [List.map_append]; exact HIx.out), Lib.hid (fun q => by have h1 := HLx.out q; have h2 := HM.out (by trivial); rw [List.length_append, List.length_singleton]; omega)⟩
          case measure =>
           have h1 := HPg.out.p.lfR
           have h2 := HME.out
           rw [if_neg (by decide)] at h2
           rw [h1, h2]
           cases q9 with
           | true => rw [if_pos rfl]; omega
           | false => rw [if_neg (by decide)]; have := HLx.out rfl; omega
        · (try rw [if_pos (by kernel_rfl)])
          refine El.op_build1 eDc X46 25 (.agg #[.string ⟨#[]⟩, .int .i64 0, .slice none 0 0, .int .u8 0, .int .i64 0, .string ⟨#[]⟩, .slice none 0 0]) 104 Try.underlying25 dc_info rfl (by decide) (.tmp 79) rfl (.agg #[.string (str nm9), .int .i64 ln9, .slice pA9 ps9.length pc9, .int .u8 tk9, .int .i64 tn9, .string (str tm9), .slice bA9 bd9.length bc9]) (DcM.mk nm9 ln9 pA9 pc9 ps9 ⟨tk9, tn9, tm9⟩ bA9 bc9 bd9) rfl rfl ?_
          change K (Act.put _ (some 80) (.slice (some ⟨X46.heap.size, 0, none⟩) 1 1)) (X46.alloc (.cells #[.string (str nm9), .int .i64 ln9, .slice pA9 ps9.length pc9, .int .u8 tk9, .int .i64 tn9, .string (str tm9), .slice bA9 bd9.length bc9] 48))
          have hbY := below_lnew X46 (.cells #[.string (str nm9), .int .i64 ln9, .slice pA9 ps9.length pc9, .int .u8 tk9, .int .i64 tn9, .string (str tm9), .slice bA9 bd9.length bc9] 48)
          have HB58 := Lib.hid (heap_alloc_new X46 (.cells #[.string (str nm9), .int .i64 ln9, .slice pA9 ps9.length pc9, .int .u8 tk9, .int .i64 tn9, .string (str tm9), .slice bA9 bd9.length bc9] 48))
          obtain ⟨Y57, hY⟩ : ∃ Y, X46.alloc (.cells #[.string (str nm9), .int .i64 ln9, .slice pA9 ps9.length pc9, .int .u8 tk9, .int .i64 tn9, .string (str tm9), .slice bA9 bd9.length bc9] 48) = Y := ⟨_, rfl⟩
          rw [hY] at hbY HB58 ⊢
          have HK56 := Lib.hid (HK45.out.below hbY)
          clear hY hbY
          refine hK.out _ _ (trivial) (fun hHeld => ?_)
          clear hK K
          (try simp only [Act.put, nA, nB, nC])
          refine wpAnyH_ready (rs := [1]) (by kernel_rfl) (by simp) ?_
          refine AllReadyH.cons rfl (fun K hK => ?_) AllReadyH.nil
          have ck59 := HK56.out.s.cell (j := 1) (by simp)
          simp only [List.getElem_cons_zero, List.getElem_cons_succ] at ck59
          go_simp
          refine hK.out _ _ (trivial) (fun hHeld => ?_)
          clear hK K
          (try simp only [Act.put, nA, nB, nC])
          clear ck59
          refine wpAnyH_ready (rs := [6]) (by kernel_rfl) (by simp) ?_
          refine AllReadyH.cons rfl (fun K hK => ?_) AllReadyH.nil
          (try rw [if_pos (by kernel_rfl)])
          refine El.op_app1x eDc Y57 25 (.agg #[.string ⟨#[]⟩, .int .i64 0, .slice none 0 0, .int .u8 0, .int .i64 0, .string ⟨#[]⟩, .slice none 0 0]) 104 Try.underlying25 dc_info rfl (by decide) (by decide) (.tmp 76) (.tmp 80) rfl W0.heap.size (.slice A2 fs.length c2) fs rfl HK56.out.r X46.heap.size 1 (DcM.mk nm9 ln9 pA9 pc9 ps9 ⟨tk9, tn9, tm9⟩ bA9 bc9 bd9) rfl 48 HB58.out hxl HK56.out.g.size ?_
          intro v9 Z60 ho9 hg9 hk9
          obtain ⟨g9, c9, rfl⟩ := El.Own.at0 ho9 (by simp)
          have hl9 : (fs ++ [(DcM.mk nm9 ln9 pA9 pc9 ps9 ⟨tk9, tn9, tm9⟩ bA9 bc9 bd9)]).length = fs.length + 1 := by simp
          have HK61 := Lib.hid (RwD.app (X' := _) HK56.out hg9 ho9 (HK56.out.kx _ _ (HK56.out.frApp hg9) HK56.out.x) (HK56.out.kx))
          change K (Act.put _ (some 81) (.slice (some ⟨g9, 0, none⟩) (fs ++ [(DcM.mk nm9 ln9 pA9 pc9 ps9 ⟨tk9, tn9, tm9⟩ bA9 bc9 bd9)]).length c9)) Z60
          rw [hl9]
          rw [hl9] at HK61
          clear ho9 hg9 hk9
          refine hK.out _ _ (trivial) (fun hHeld => ?_)
          clear hK K
          (try simp only [Act.put, nA, nB, nC])
          refine heldTake (i := 7) (d := some 82) (v := ?_) rfl rfl (by kernel_rfl) (by kernel_rfl) (by kernel_rfl) (fun _ _ _ h => h) (by kernel_rfl) ?hyq_11 (by assumption) ?restq_11
          case hyq_11 => (intro W9 hSw; (try dsimp only at hSw); go_simp; try (with_reducible rfl))
          (try simp only [Act.put, nA, nB, nC])
          refine wpAnyH_ready (rs := [8]) (by kernel_rfl) (by simp) ?_
          refine AllReadyH.cons rfl (fun K hK => ?_) AllReadyH.nil
          have ck64 := HK61.out.s.cell (j := 1) (by simp)
          have ck64f := HK61.out.s.frozen 1
          simp only [List.getElem_cons_zero, List.getElem_cons_succ] at ck64
          have HK62 := Lib.hid (RwD.cell (cs' := fun v => [.slice A1 ss.length c1, v]) HK61.out 1 (.slice (some ⟨g9, 0, none⟩) (fs.length + 1) c9) (.slice (some ⟨g9, 0, none⟩) (fs.length + 1) c9) rfl)
          go_simp
          obtain ⟨P63, hP9⟩ : ∃ P9, Z60.setCell ⟨W0.heap.size, 1, none⟩ (.slice (some ⟨g9, 0, none⟩) (fs.length + 1) c9) = P9 := ⟨_, rfl⟩
          rw [hP9] at HK62 ⊢
          clear hP9 ck64 ck64f
          refine hK.out _ _ (trivial) (fun hHeld => ?_)
          clear hK K
          (try simp only [Act.put, nA, nB, nC])
          refine wpAnyH_done (by kernel_rfl) ?_ _
          have HPg := Lib.hid (PgD.ofF HK62.out)
          have HIx := Lib.hid (HI.out.dc HNE.out (and_nt b1 rfl) (HDC.out _ _ _ HA9.out))
          have HLx := Lib.hid (show q9 = false → z9.length + 1 ≤ v.length from fun q => by subst q; exact dcP_len (HDC.out _ _ _ HA9.out).ok_eq.2)
          go_wp2_with fail
          go_roundw
          case rel => exact ⟨ss, _, fs ++ [(DcM.mk nm9 ln9 pA9 pc9 ps9 ⟨tk9, tn9, tm9⟩ bA9 bc9 bd9)], _, z9, q9, HPg, Lib.hid (by rw [List.map_append]; exact HIx.out), Lib.hid (fun q => by have h1 := HLx.out q; have h2 := HM.out (by trivial); rw [List.length_append, List.length_singleton]; omega)⟩
          case measure =>
           have h1 := HPg.out.p.lfR
           have h2 := HME.out
           rw [if_neg (by decide)] at h2
           rw [h1, h2]
           cases q9 with
           | true => rw [if_pos rfl]; omega
           | false => rw [if_neg (by decide)]; have := HLx.out rfl; omega
   · have hki : ¬ ((k : Int) < (l.length : Int)) := by omega
     obtain rfl : v = [] := by rw [hu]; exact List.drop_eq_nil_of_le (by omega)
     have HP := Lib.hid HI.out.end_
     have HDp := Lib.hid (rdeep_any (fun g => W0.heap.size ≤ g) ⟨A1, c1, ss, A2, c2, fs⟩ wr (pgd_ok K.out) (proP_few hn HP.out) (fun d hd => Nat.le_trans (proP_ht HP.out d hd) hn))
     have q0 := K.out.s.cell (j := 0) (by simp)
     have q1 := K.out.s.cell (j := 1) (by simp)
     simp only [List.getElem_cons_zero, List.getElem_cons_succ] at q0 q1
     have lgs := K.out.s.lt
     go_wp2_with fail
     unfold PgM.cs at HDp
     dsimp only at HDp
     refine HDp.out.mono ?_
     rintro e X2 ⟨rfl, hb2⟩
     have K9 := Lib.hid (K.out.below hb2)
     clear hb2 K HDp q0 q1 p0 p1 p2 pf1 lg lgs hc hu
     have HBz := Lib.hid (HB.out.trans ((Below.refl w.heap.size W0).grown K9.out.g (Nat.le_of_lt lz) (fun q e => by injection e with e; omega)))
     have q0 := K9.out.s.cell (j := 0) (by simp)
     have q1 := K9.out.s.cell (j := 1) (by simp)
     simp only [List.getElem_cons_zero, List.getElem_cons_succ] at q0 q1
     have lgs := K9.out.s.lt
     have HZ2 := Lib.hid (show CAt X2 w.heap.size 27 [.slice none 0 0, .slice none 0 0] from (K9.out.g.block _ lz (fun e => by injection e with e; omega)).trans HZ.out)
     have zc0 := HZ2.out.cell (j := 0) (by simp)
     have zc1 := HZ2.out.cell (j := 1) (by simp)
     have zf0 := HZ2.out.frozen 0
     have zf1 := HZ2.out.frozen 1
     simp only [List.getElem_cons_zero, List.getElem_cons_succ] at zc0 zc1
     have lzz := HZ2.out.lt
     have lzg : ¬ w.heap.size = W0.heap.size := by omega
     have lgz : ¬ W0.heap.size = w.heap.size := by omega
     cases hd9 : deepP (PgM.mk A1 c1 ss A2 c2 fs).d with
     | true =>
      have HD := Lib.hid hd9
      go_wp2_with fail
      refine rpar_end (a := 0) (b := 11) rfl rfl rfl rfl pgZ ((HZ2.out.set 0 _).set 1 _) (pgZ_ok _ _) ((HBz.out.setCell (p := ⟨w.heap.size, 0, none⟩) (Nat.le_refl _) _).setCell (p := ⟨w.heap.size, 1, none⟩) (Nat.le_refl _) _) ?_
      rw [HR.out, parP, HP.out]
      exact if_pos HD.out
     | false =>
      have HD := Lib.hid hd9
      go_wp2_with fail
      refine rpar_end (a := 0) (b := 0) rfl rfl rfl rfl ⟨A1, c1, ss, A2, c2, fs⟩ ((HZ2.out.set 0 _).set 1 _) (PgM.Ok.keep (pgd_ok K9.out) (fun g e hg _ _ => by rw [Below.heap_setCell _ _ _ g (show g ≠ w.heap.size by omega), Below.heap_setCell _ _ _ g (show g ≠ w.heap.size by omega)]) (fun g q => by omega)) ((HBz.out.setCell (p := ⟨w.heap.size, 0, none⟩) (Nat.le_refl _) _).setCell (p := ⟨w.heap.size, 1, none⟩) (Nat.le_refl _) _) ?_
      rw [HR.out, parP, HP.out]
      exact if_neg (by have := HD.out; intro q; rw [show (PgM.mk A1 c1 ss A2 c2 fs).d = ⟨ss.map ScM.d, fs.map DcM.d⟩ from rfl] at this; rw [this] at q; cases q)
end
end Go.Proofs.Ytjllbacefbjjaaa
