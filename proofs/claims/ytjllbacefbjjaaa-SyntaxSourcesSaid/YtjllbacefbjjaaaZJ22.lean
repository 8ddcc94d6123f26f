/-
  Merged for a claim: S1I, S3M.
-/
import Derived.Test.YtjllbacefbjjaaaZJ21
import Derived.Test.YtjllbacefbjjaaaZS3I
namespace Go.Proofs.Ytjllbacefbjjaaa
open Go Go.RowKit

def PaR (w : World) (r : Pg × Int × Int) (e : Ending) (w' : World) : Prop :=
 ∃ m : PgM, e = .returned (.tuple #[.agg m.cs.toArray, .int .i64 r.2.1, .int .i64 r.2.2]) ∧ m.d = r.1 ∧ m.Ok w' (fun g => w.heap.size ≤ g) ∧ Below w.heap.size w w'
def pgZ : PgM := ⟨none, 0, [], none, 0, []⟩
theorem pgZ_ok (w : World) (P : Nat → Prop) : pgZ.Ok w P :=
 ⟨⟨fun h => absurd h (by simp [pgZ]), Nat.le_refl _, fun _ => rfl, fun h => absurd h (by simp [pgZ])⟩, ⟨fun h => absurd h (by simp [pgZ]), Nat.le_refl _, fun _ => rfl, fun h => absurd h (by simp [pgZ])⟩, fun _ q => absurd q (by simp [pgZ]), fun _ q => absurd q (by simp [pgZ])⟩
theorem PgM.Ok.keep {W Z : World} {P Q : Nat → Prop} {m : PgM} (h : m.Ok W P) (hk : ∀ g e, P g → HasT W g e → e ∈ [9, 75, 53, 51, 69, 48] → Z.heap[g]? = W.heap[g]?) (hm : ∀ g, P g → Q g) : m.Ok Z Q :=
 ⟨h.1.keep (fun g q ht => hk g _ q ht (by decide)) hm, h.2.1.keep (fun g q ht => hk g _ q ht (by decide)) hm, fun s q => (h.2.2.1 s q).keep (fun g q ht => hk g _ q ht (by decide)) hm,
  fun d q => (h.2.2.2 d q).keep (fun g q ht => hk g _ q ht (by decide)) (fun g q ht => hk g _ q ht (by decide)) (fun g q ht => hk g _ q ht (by decide)) hm⟩
structure PaV (w : World) (x0 x1 x2 x3 : Value) (W : World) : Prop where
 x : CAt W w.heap.size 27 [x0, x1]
 a : CAt W (w.heap.size + 1) 3 [x2]
 e : CAt W (w.heap.size + 1 + 1) 28 [x3]
 b : Below w.heap.size w W
section
variable {w W Z : World} {x0 x1 x2 x3 y : Value}
theorem PaV.below (h : PaV w x0 x1 x2 x3 W) (hb : Below W.heap.size W Z) : PaV w x0 x1 x2 x3 Z := ⟨h.x.below hb h.x.lt, h.a.below hb h.a.lt, h.e.below hb h.e.lt, h.b.trans (hb.mono h.b.size)⟩
theorem PaV.grown (h : PaV w x0 x1 x2 x3 W) (hg : W.grownBy Z (some (w.heap.size + 1 + 1 + 1))) : PaV w x0 x1 x2 x3 Z :=
 ⟨(hg.block _ h.x.lt (fun e => by injection e with e; omega)).trans h.x, (hg.block _ h.a.lt (fun e => by injection e with e; omega)).trans h.a, (hg.block _ h.e.lt (fun e => by injection e with e; omega)).trans h.e, h.b.grown hg h.b.size (fun k e => by injection e with e; omega)⟩
theorem PaV.set0 (h : PaV w x0 x1 x2 x3 W) (y : Value) : PaV w y x1 x2 x3 (W.setCell ⟨w.heap.size, 0, none⟩ y) :=
 ⟨h.x.set 0 y, h.a.other (p := ⟨w.heap.size, 0, none⟩) (by simp) y, h.e.other (p := ⟨w.heap.size, 0, none⟩) (by simp; omega) y, h.b.setCell (p := ⟨w.heap.size, 0, none⟩) (Nat.le_refl _) y⟩
theorem PaV.set1 (h : PaV w x0 x1 x2 x3 W) (y : Value) : PaV w x0 y x2 x3 (W.setCell ⟨w.heap.size, 1, none⟩ y) :=
 ⟨h.x.set 1 y, h.a.other (p := ⟨w.heap.size, 1, none⟩) (by simp) y, h.e.other (p := ⟨w.heap.size, 1, none⟩) (by simp; omega) y, h.b.setCell (p := ⟨w.heap.size, 1, none⟩) (Nat.le_refl _) y⟩
theorem PaV.set2 (h : PaV w x0 x1 x2 x3 W) (y : Value) : PaV w x0 x1 y x3 (W.setCell ⟨w.heap.size + 1, 0, none⟩ y) :=
 ⟨h.x.other (p := ⟨w.heap.size + 1, 0, none⟩) (by simp) y, h.a.set 0 y, h.e.other (p := ⟨w.heap.size + 1, 0, none⟩) (by simp) y, h.b.setCell (p := ⟨w.heap.size + 1, 0, none⟩) (by simp) y⟩
theorem PaV.set3 (h : PaV w x0 x1 x2 x3 W) (y : Value) : PaV w x0 x1 x2 y (W.setCell ⟨w.heap.size + 1 + 1, 0, none⟩ y) :=
 ⟨h.x.other (p := ⟨w.heap.size + 1 + 1, 0, none⟩) (by simp; omega) y, h.a.other (p := ⟨w.heap.size + 1 + 1, 0, none⟩) (by simp) y, h.e.set 0 y, h.b.setCell (p := ⟨w.heap.size + 1 + 1, 0, none⟩) (by simp; omega) y⟩
theorem PaV.fr (h : PaV w x0 x1 x2 x3 W) {g j : Nat} {e : TypeId} (hg : g = w.heap.size ∨ g = w.heap.size + 1 ∨ g = w.heap.size + 1 + 1) (y : Value) {k : Nat} (hk : HasT W k e) (he : e ∈ [9, 75, 53, 51, 69, 48]) : (W.setCell ⟨g, j, none⟩ y).heap[k]? = W.heap[k]? := by
 refine Below.heap_setCell W ⟨g, j, none⟩ y k fun q => ?_
 subst q
 rcases hg with rfl | rfl | rfl
 · have := hk.one ⟨_, _, h.x⟩
   subst this
   revert he
   decide
 · have := hk.one ⟨_, _, h.a⟩
   subst this
   revert he
   decide
 · have := hk.one ⟨_, _, h.e⟩
   subst this
   revert he
   decide
theorem pa_results {tmps : Array Value} {fn : Func} (hf : fn.results = #[.cell 2 27, .cell 3 3, .cell 4 28]) (h : PaV w x0 x1 x2 x3 W) (h2 : tmps.getD 2 undef = .pointer (some ⟨w.heap.size, 0, none⟩)) (h3 : tmps.getD 3 undef = .pointer (some ⟨w.heap.size + 1, 0, none⟩)) (h4 : tmps.getD 4 undef = .pointer (some ⟨w.heap.size + 1 + 1, 0, none⟩)) :
 (results fn tmps).run Try.prog W = .ok (.tuple #[.agg #[x0, x1], x2, x3]) W := by
 have a0 := h.a.cell (j := 0) (by simp)
 have e0 := h.e.cell (j := 0) (by simp)
 simp only [List.getElem_cons_zero] at a0 e0
 exact res_row_cell2 hf tmps W _ _ _ _ _ _ _ _ _ h2 h3 h4 h.x Try.underlying27 rfl pg_size Try.underlying3 Try.underlying28 a0 e0
theorem pa_new (l : List To) (A : Option Addr) (c : Nat) (hT : eTo.Lies w w.heap.size A l) (hn : l.length ≤ 1000000) :
 PaV w (.slice none 0 0) (.slice none 0 0) (.int .i64 0) (.int .i64 0) ((((w.alloc (.cells #[.slice none 0 0, .slice none 0 0] 27)).alloc (.cells #[.int .i64 0] 3)).alloc (.cells #[.int .i64 0] 28)).alloc (.cells #[.slice A l.length c, .int .i64 0] 57))
 ∧ Ps ((((w.alloc (.cells #[.slice none 0 0, .slice none 0 0] 27)).alloc (.cells #[.int .i64 0] 3)).alloc (.cells #[.int .i64 0] 28)).alloc (.cells #[.slice A l.length c, .int .i64 0] 57)) (w.heap.size + 1 + 1 + 1) A c l l := by
 have hb := below_al4 w (.cells #[.slice none 0 0, .slice none 0 0] 27) (.cells #[.int .i64 0] 3) (.cells #[.int .i64 0] 28) (.cells #[.slice A l.length c, .int .i64 0] 57)
 refine ⟨⟨at_al1 _ _ _ _ _, ?_, at_al3 _ _ _ _ _, hb⟩, ⟨0, Nat.zero_le _, by simp, new_at _ _ (by simp) _⟩, fun hl => ?_, hn⟩
 · exact ((below_al2 ((w.alloc (.cells #[.slice none 0 0, .slice none 0 0] 27)).alloc (.cells #[.int .i64 0] 3)) _ _).block (w.heap.size + 1) (by simp)).trans (new_at _ _ (by simp) _)
 · obtain ⟨g, o, e, hg, hc⟩ := hT hl
   exact ⟨g, o, e, by omega, fun j hj f u hu => (hb.cell (p := ⟨g, _, none⟩) hg).trans (hc j hj f u hu)⟩
theorem panic_end {r : Pg × Int × Int} {l u : List To} {A : Option Addr} {c : Nat} {t : Array Value} (hV : PaV w x0 x1 x2 x3 W) (hP : Ps W (w.heap.size + 1 + 1 + 1) A c l u) (hr : r = (⟨[], []⟩, (l.length : Int) - u.length, 7))
 (h2 : t.getD 2 undef = .pointer (some ⟨w.heap.size, 0, none⟩)) (h3 : t.getD 3 undef = .pointer (some ⟨w.heap.size + 1, 0, none⟩)) (h4 : t.getD 4 undef = .pointer (some ⟨w.heap.size + 1 + 1, 0, none⟩)) :
 bodyPostD Try.prog Try.f7 (PaR w r) (Exit.panic misC) { tmps := t, defers := [{ target := Target.fn (Fn.func 16) #[.pointer (some ⟨w.heap.size + 1 + 1 + 1, 0, none⟩), .pointer (some ⟨w.heap.size, 0, none⟩), .pointer (some ⟨w.heap.size + 1, 0, none⟩), .pointer (some ⟨w.heap.size + 1 + 1, 0, none⟩)], args := #[] }] } W := by
 subst hr
 obtain ⟨k, hk, hu, hc⟩ := hP.k
 have hul : (k : Int) = (l.length : Int) - u.length := by rw [hu, List.length_drop]; omega
 refine leaves_cons (f := 16) (args := #[.pointer (some ⟨w.heap.size + 1 + 1 + 1, 0, none⟩), .pointer (some ⟨w.heap.size, 0, none⟩), .pointer (some ⟨w.heap.size + 1, 0, none⟩), .pointer (some ⟨w.heap.size + 1 + 1, 0, none⟩)]) (by simp) (by simp [go_sem]) ?_
 refine (catchP_thrown _ _ _ _ _ _ _ _ _ k W hc hV.x hV.a hV.e).mono ?_
 rintro e u' w'' ⟨rfl, rfl, rfl⟩
 have hV2 := ((((hV.below (below_lnew W (.cells #[] 59))).set0 (.slice none 0 0)).set1 (.slice none 0 0)).set2 (.int .i64 k)).set3 (.int .i64 7)
 refine ⟨_, pa_results (by rfl) hV2 h2 h3 h4, pgZ, ?_, rfl, pgZ_ok _ _, hV2.b⟩
 rw [hul]
 rfl
theorem return_end {r : Pg × Int × Int} {m : PgM} {t : Array Value} {a b : Int} (hV : PaV w (.slice m.A1 m.ss.length m.c1) (.slice m.A2 m.fs.length m.c2) (.int .i64 a) (.int .i64 b) W) (hO : m.Ok W (fun g => w.heap.size ≤ g)) (hr : r = (m.d, a, b))
 (h2 : t.getD 2 undef = .pointer (some ⟨w.heap.size, 0, none⟩)) (h3 : t.getD 3 undef = .pointer (some ⟨w.heap.size + 1, 0, none⟩)) (h4 : t.getD 4 undef = .pointer (some ⟨w.heap.size + 1 + 1, 0, none⟩)) (p0 p1 p2 p3 : Value) :
 bodyPostD Try.prog Try.f7 (PaR w r) Exit.ret { tmps := t, defers := [{ target := Target.fn (Fn.func 16) #[p0, p1, p2, p3], args := #[] }] } W := by
 subst hr
 refine leaves_cons (f := 16) (args := #[p0, p1, p2, p3]) (by simp) (by simp [go_sem]) ?_
 refine (catchP_idle p0 p1 p2 p3 W).mono ?_
 rintro e u' w'' ⟨rfl, rfl, rfl⟩
 have hb := below_lnew W (.cells #[] 59)
 have hV2 := hV.below hb
 exact ⟨_, pa_results (by rfl) hV2 h2 h3 h4, m, rfl, rfl, hO.keep (fun g _ _ ht _ => hb.block g ht.lt) (fun _ q => q), hV2.b⟩
set_option maxRecDepth 100000 in
set_option maxHeartbeats 8000000 in
theorem parse_any (A : Option Addr) (c : Nat) (l : List To) (hT : eTo.Lies w w.heap.size A l) (hn : l.length ≤ 1000000) :
 Calls Try.prog 7 #[.slice A l.length c] w (PaR w (parP l)) := by
 obtain ⟨r, hr⟩ : ∃ r, parP l = r := ⟨_, rfl⟩
 rw [hr]
 have HR := Lib.hid hr.symm
 obtain ⟨hV, hP⟩ := pa_new l A c hT hn
 have HV := Lib.hid hV
 have HP := Lib.hid hP
 have HC := Lib.hid (program_any hP)
 have hmf : ∀ (fn : Fn) (first cap : Array Value) (w : World), (Instr.makeFunc fn first cap).run Try.prog w = .ok (.func fn first cap) w := fun _ _ _ _ => rfl
 clear hr hV hP hT
 go_enter_defers Try.func7, Try.ntmps7
 go_wp2_with fail
 refine HC.out.mono ?_
 rintro e w1 h1
 change PrR _ _ _ _ _ (proP l) e w1 at h1
 rcases hp : proP l with ⟨p, z⟩ | z | _
 · rw [hp] at h1
   obtain ⟨m, rfl, hd, ho, hps, hg⟩ := h1
   have hz := proP_end hp
   subst hz
   have hfew : m.d.few := by rw [hd]; exact proP_few hn hp
   have hr2 := HR.out
   rw [parP_ok hp, ← hd] at hr2
   have HR2 := Lib.hid hr2
   have HV1 := Lib.hid (HV.out.grown hg)
   have ho1 : m.Ok w1 (fun g => w.heap.size ≤ g) := ho.keep (fun _ _ _ _ _ => rfl) (fun g q => Nat.le_trans HV.out.b.size q)
   have HV2 := Lib.hid ((HV1.out.set0 (.slice m.A1 m.ss.length m.c1)).set1 (.slice m.A2 m.fs.length m.c2))
   have ho2 := (ho1.keep (Q := fun g => w.heap.size ≤ g) (fun g _ _ ht he => HV1.out.fr (j := 0) (.inl rfl) (.slice m.A1 m.ss.length m.c1) ht he) (fun _ q => q)).keep (Q := fun g => w.heap.size ≤ g) (fun g _ _ ht he => (HV1.out.set0 (.slice m.A1 m.ss.length m.c1)).fr (j := 1) (.inl rfl) (.slice m.A2 m.fs.length m.c2) ht he) (fun _ q => q)
   have HO2 := Lib.hid ho2
   have HD := Lib.hid (deep_any _ m _ ho2 hfew)
   have x0 := HV1.out.x.cell (j := 0) (by simp)
   have x1 := HV1.out.x.cell (j := 1) (by simp)
   have f0 := HV1.out.x.frozen 0
   have f1 := HV1.out.x.frozen 1
   simp only [List.getElem_cons_zero, List.getElem_cons_succ] at x0 x1
   clear ho ho1 ho2 hps hg hr2 hfew HR HC HV HP hp hd
   obtain ⟨A1, c1, ss, A2, c2, fs⟩ := m
   unfold PgM.cs at HD ⊢
   dsimp only at HD HV2 ⊢
   go_wp2_with fail
   refine HD.out.mono ?_
   rintro e w3 ⟨rfl, hb3⟩
   have HV3 := Lib.hid (HV2.out.below hb3)
   have HO3 := Lib.hid (HO2.out.keep (Q := fun g => w.heap.size ≤ g) (fun g _ _ ht _ => hb3.block g ht.lt) (fun _ q => q))
   clear hb3 HD HV2 HO2 x0 x1 f0 f1 HV1
   have x0 := HV3.out.x.cell (j := 0) (by simp)
   have x1 := HV3.out.x.cell (j := 1) (by simp)
   have f0 := HV3.out.x.frozen 0
   have f1 := HV3.out.x.frozen 1
   have a0 := HV3.out.a.cell (j := 0) (by simp)
   have fa := HV3.out.a.frozen 0
   have e0 := HV3.out.e.cell (j := 0) (by simp)
   have fe := HV3.out.e.frozen 0
   simp only [List.getElem_cons_zero, List.getElem_cons_succ] at x0 x1 a0 e0
   cases hdp : deepP (PgM.mk A1 c1 ss A2 c2 fs).d
   · have hr3 := HR2.out
     rw [hdp, if_neg (by decide)] at hr3
     have HR3 := Lib.hid hr3
     clear hr3
     go_wp2_with fail
     have k1 := HV3.out.set0 (.slice A1 ss.length c1)
     have k2 := k1.set1 (.slice A2 fs.length c2)
     have k3 := k2.set2 (.int .i64 0)
     have k4 := k3.set3 (.int .i64 0)
     exact return_end (m := ⟨A1, c1, ss, A2, c2, fs⟩) (a := 0) (b := 0) k4 ((((HO3.out.keep (Q := fun g => w.heap.size ≤ g) (fun g _ _ ht he => HV3.out.fr (j := 0) (.inl rfl) (.slice A1 ss.length c1) ht he) (fun _ q => q)).keep (Q := fun g => w.heap.size ≤ g) (fun g _ _ ht he => k1.fr (j := 1) (.inl rfl) (.slice A2 fs.length c2) ht he) (fun _ q => q)).keep (Q := fun g => w.heap.size ≤ g) (fun g _ _ ht he => k2.fr (j := 0) (.inr (.inl rfl)) (.int .i64 0) ht he) (fun _ q => q)).keep (Q := fun g => w.heap.size ≤ g) (fun g _ _ ht he => k3.fr (j := 0) (.inr (.inr rfl)) (.int .i64 0) ht he) (fun _ q => q)) HR3.out rfl rfl rfl _ _ _ _
   · have hr3 := HR2.out
     rw [hdp, if_pos rfl] at hr3
     have HR3 := Lib.hid hr3
     clear hr3
     go_wp2_with fail
     have k4 := (((HV3.out.set0 (.slice none 0 0)).set1 (.slice none 0 0)).set2 (.int .i64 0)).set3 (.int .i64 11)
     exact return_end (m := pgZ) (a := 0) (b := 11) k4 (pgZ_ok _ _) HR3.out rfl rfl rfl _ _ _ _
 · rw [hp] at h1
   obtain ⟨rfl, hps, hg⟩ := h1
   exact panic_end (HV.out.grown hg) hps (by rw [HR.out, parP_bad hp]) rfl rfl rfl
 · exact absurd hp (proP_out l)
end
end Go.Proofs.Ytjllbacefbjjaaa

namespace Go.Proofs.Ytjllbacefbjjaaa
open Go Go.RowKit

def oneF (v : List To) : R (List UInt8) := (takeR 1 [] v).bind fun t w => (sgR 3 wInt w).bind fun _ z => (sgR 4 [59] z).bind fun _ y => .ok t.tx y
theorem fld_eq (n : Nat) (v : List To) (h : ¬ isS [125] v = true) : fldP (n + 1) v = (oneF v).bind fun x z => (fldP n z).bind fun l y => .ok (x :: l) y := by
 rw [fldP, if_neg h]
 unfold oneF
 simp only [R.bind_assoc, R.bind_ok]
 rw [tkK_bind]
 simp only [sgS_bind, sgW_bind]
theorem oneF_len {v w : List To} {x : List UInt8} (h : oneF v = .ok x w) : w.length + 1 ≤ v.length := by
 unfold oneF at h
 rw [tkK_bind] at h
 simp only [sgS_bind, sgW_bind] at h
 obtain ⟨h1, h⟩ := takeK_len h
 obtain ⟨h2, h⟩ := takeW_len h
 obtain ⟨h3, h⟩ := takeS_len h
 have := tail_len h1
 have := tail_len h2
 have := tail_len h3
 injection h with _ h
 subst h
 omega
structure FlI (r : R (List (List UInt8))) (fl : Bool) (u : List To) (xs : List (List UInt8)) (v : List To) (f : Bool) : Prop where
 y : f = false → fl = false ∧ ∃ n, v.length < n ∧ r = (fldP n v).bind fun l w => .ok (xs ++ l) w
 n : f = true → ∀ ys, Ans fl u r ys v true
theorem FlI.new (u : List To) (fl : Bool) : FlI (fldP (u.length + 1) u) fl u [] u fl := by
 refine ⟨fun e => ⟨e, u.length + 1, Nat.lt_succ_self _, ?_⟩, fun e ys => ?_⟩
 · cases fldP (u.length + 1) u <;> rfl
 · subst e
   exact .fail _ _ _
theorem FlI.more {r : R (List (List UInt8))} {fl f2 : Bool} {u v v2 : List To} {xs : List (List UInt8)} {y : List UInt8} (h : FlI r fl u xs v false) (hc : ¬ isS [125] v = true) (ha : Ans false v (oneF v) y v2 f2) : FlI r fl u (xs ++ [y]) v2 f2 := by
 obtain ⟨rfl, n, hn, hr⟩ := h.y rfl
 obtain ⟨m, rfl⟩ := Nat.exists_eq_succ_of_ne_zero (show n ≠ 0 by omega)
 rw [Nat.succ_eq_add_one, fld_eq _ _ hc] at hr
 have hl := fun q => oneF_len (v := v) (w := v2) (x := y) q
 generalize oneF v = q at *
 cases ha with
 | ok =>
  have := hl rfl
  refine ⟨fun _ => ⟨rfl, m, by omega, ?_⟩, fun e => (by cases e)⟩
  rw [hr, R.bind_ok, R.bind_assoc]
  congr 1
  funext l w
  rw [R.bind_ok, List.append_assoc]
  rfl
 | bad =>
  rw [R.bind_bad, R.bind_bad] at hr
  exact ⟨fun e => (by cases e), fun _ ys => by rw [hr]; exact .bad _ _ _⟩
theorem FlI.end_ {r : R (List (List UInt8))} {fl f f2 : Bool} {u v v2 : List To} {xs : List (List UInt8)} (h : FlI r fl u xs v f) (hc : f = false → isS [125] v = true) (ha : Ans f v (sgR 4 [125] v) () v2 f2) : Ans fl u r xs v2 f2 := by
 cases f with
 | true =>
  cases ha
  exact h.n rfl xs
 | false =>
  obtain ⟨rfl, n, hn, hr⟩ := h.y rfl
  obtain ⟨m, rfl⟩ := Nat.exists_eq_succ_of_ne_zero (show n ≠ 0 by omega)
  rw [Nat.succ_eq_add_one, fldP, if_pos (hc rfl), R.bind_ok, List.append_nil] at hr
  have e : sgR 4 [125] v = .ok () v.tail := by unfold sgR; rw [if_pos (show isT 4 [125] v = true from hc rfl)]
  rw [e] at ha
  rw [hr]
  cases ha
  exact .ok _ _ _
theorem sc_eq {v : List To} (h : isW wType v = true) : scP v = (takeR 1 [] v.tail).bind fun t w => (sgR 3 wStruct w).bind fun _ z => (sgR 4 [123] z).bind fun _ y => (fldP (y.length + 1) y).bind fun l q => .ok ⟨t.tx, l⟩ q := by
 unfold scP
 unfold takeW
 rw [if_pos h, tkK_bind]
 simp only [sgS_bind, sgW_bind]
 rfl
structure PgI (r : R Pg) (x : Pg) (v : List To) (f : Bool) : Prop where
 y : f = false → ∃ n, v.length < n ∧ r = pgP n x v
 n : f = true → r = .bad v
theorem PgI.new (l : List To) : PgI (proP l) ⟨[], []⟩ l false := ⟨fun _ => ⟨l.length + 1, Nat.lt_succ_self _, rfl⟩, fun e => (by cases e)⟩
theorem PgI.sc {r : R Pg} {x : Pg} {v v2 : List To} {f2 : Bool} {s : Sc} (h : PgI r x v false) (ht : isW wType v = true) (ha : Ans false v (scP v) s v2 f2) : PgI r ⟨x.ss ++ [s], x.fs⟩ v2 f2 := by
 obtain ⟨n, hn, hr⟩ := h.y rfl
 obtain ⟨m, rfl⟩ := Nat.exists_eq_succ_of_ne_zero (show n ≠ 0 by omega)
 rw [Nat.succ_eq_add_one, pgP, if_neg (isW_ne ht), if_pos ht] at hr
 have hl := fun q => scP_len (u := v) (v := v2) (x := s) q
 generalize scP v = q at *
 cases ha with
 | ok =>
  have := hl rfl
  exact ⟨fun _ => ⟨m, by omega, hr⟩, fun e => (by cases e)⟩
 | bad => exact ⟨fun e => (by cases e), fun _ => hr⟩
theorem PgI.dc {r : R Pg} {x : Pg} {v v2 : List To} {f2 : Bool} {d : Dc} (h : PgI r x v false) (hne : v ≠ []) (ht : ¬ isW wType v = true) (ha : Ans false v (dcP v) d v2 f2) : PgI r ⟨x.ss, x.fs ++ [d]⟩ v2 f2 := by
 obtain ⟨n, hn, hr⟩ := h.y rfl
 obtain ⟨m, rfl⟩ := Nat.exists_eq_succ_of_ne_zero (show n ≠ 0 by omega)
 rw [Nat.succ_eq_add_one, pgP, if_neg hne, if_neg ht] at hr
 have hl := fun q => dcP_len (u := v) (v := v2) (x := d) q
 generalize dcP v = q at *
 cases ha with
 | ok =>
  have := hl rfl
  exact ⟨fun _ => ⟨m, by omega, hr⟩, fun e => (by cases e)⟩
 | bad => exact ⟨fun e => (by cases e), fun _ => hr⟩
theorem PgI.end_ {r : R Pg} {x : Pg} (h : PgI r x [] false) : r = .ok x [] := by
 obtain ⟨n, hn, hr⟩ := h.y rfl
 obtain ⟨m, rfl⟩ := Nat.exists_eq_succ_of_ne_zero (show n ≠ 0 by omega)
 rw [hr, Nat.succ_eq_add_one, pgP, if_pos rfl]
section
variable {w W Z : World} {gp gs : Nat} {A : Option Addr} {c : Nat} {l u u' : List To} {fl f' : Bool} {vS vF vc v : Value} {ss ss2 : List ScM} {fs fs2 : List DcM}
theorem XS1.keepD (hf : FrT [64, 27, eSc.e] W Z) (h : XS1 w vF fs ss W) : XS1 w vF fs ss Z :=
 have k := oks_keep hf (by decide) (by decide) (by decide) (by decide) h.2.1 h.2.2
 ⟨h.1.kept fun g ht => hf g _ ht (by decide), k.1, k.2⟩
theorem XF1.keepD (hf : FrT [64, 27, eDc.e] W Z) (h : XF1 w vS ss fs W) : XF1 w vS ss fs Z :=
 have k := oks_keep hf (by decide) (by decide) (by decide) (by decide) h.2.1 h.2.2
 ⟨h.1.kept fun g ht => hf g _ ht (by decide), k.1, k.2⟩
structure PgD (w : World) (gp gs : Nat) (A : Option Addr) (c : Nat) (l : List To) (vS : Value) (ss : List ScM) (vF : Value) (fs : List DcM) (W : World) (u : List To) (fl : Bool) : Prop where
 p : Rp W gp A c l u fl
 s : CAt W gs 27 [vS, vF]
 rS : eSc.Own W w.heap.size vS ss
 rF : eDc.Own W w.heap.size vF fs
 oS : ∀ s ∈ ss, s.Ok W (fun g => w.heap.size ≤ g)
 oF : ∀ d ∈ fs, d.Ok W (fun g => w.heap.size ≤ g)
 g : w.grownBy W (some gp)
 n : gp < w.heap.size ∧ w.heap.size ≤ gs
theorem PgD.toS (h : PgD w gp gs A c l vS ss vF fs W u fl) : RwD eSc 27 (fun v => [v, vF]) (XS1 w vF fs ss) w gp gs A c l vS vS ss W u fl :=
 ⟨h.p, h.s, h.rS, ⟨h.rF, h.oS, h.oF⟩, h.g, h.n, fun _ _ hf hx => XS1.keepD hf hx, by decide, by decide, by decide⟩
theorem PgD.toF (h : PgD w gp gs A c l vS ss vF fs W u fl) : RwD eDc 27 (fun v => [vS, v]) (XF1 w vS ss fs) w gp gs A c l vF vF fs W u fl :=
 ⟨h.p, h.s, h.rF, ⟨h.rS, h.oS, h.oF⟩, h.g, h.n, fun _ _ hf hx => XF1.keepD hf hx, by decide, by decide, by decide⟩
theorem PgD.ofS (h : RwD eSc 27 (fun v => [v, vF]) (XS1 w vF fs ss) w gp gs A c l vS vS ss W u fl) : PgD w gp gs A c l vS ss vF fs W u fl :=
 ⟨h.p, h.s, h.r, h.x.1, h.x.2.1, h.x.2.2, h.g, h.n⟩
theorem PgD.ofF (h : RwD eDc 27 (fun v => [vS, v]) (XF1 w vS ss fs) w gp gs A c l vF vF fs W u fl) : PgD w gp gs A c l vS ss vF fs W u fl :=
 ⟨h.p, h.s, h.x.1, h.r, h.x.2.1, h.x.2.2, h.g, h.n⟩
theorem PgD.below (h : PgD w gp gs A c l vS ss vF fs W u fl) (hb : Below W.heap.size W Z) : PgD w gp gs A c l vS ss vF fs Z u fl := PgD.ofS (h.toS.below hb)
theorem PgD.drew (h : PgD w gp gs A c l vS ss vF fs W u fl) : PgD w gp gs A c l vS ss vF fs W.drew u fl := h.below ((Below.refl _ W).drew)
theorem PgD.draws (h : PgD w gp gs A c l vS ss vF fs W u fl) (m : Nat) : PgD w gp gs A c l vS ss vF fs (W.drewN m) u fl := h.below (below_draws m)
theorem PgD.step (h : PgD w gp gs A c l vS ss vF fs W u fl) (hp : Rp Z gp A c l u' f') (hg : W.grownBy Z (some gp)) : PgD w gp gs A c l vS ss vF fs Z u' f' := by
 have hn := h.n
 have key : ∀ g e, HasT W g e → w.heap.size ≤ g → Z.heap[g]? = W.heap[g]? := fun g e ht hw => hg.block g ht.lt (fun q => by injection q with q; omega)
 have hb : ButT 64 W Z := ButT.grown hg fun k e => by injection e with e; subst e; exact h.p.has
 have k := oks_keep (Ts := [64]) (.of_but hb (by simp)) (by decide) (by decide) (by decide) (by decide) h.oS h.oF
 exact ⟨hp, (key gs _ ⟨_, _, h.s⟩ hn.2).trans h.s, h.rS.but hb (by decide), h.rF.but hb (by decide), k.1, k.2, grown_trans h.g hg, hn⟩
theorem PgD.new (hP : Rp w gp A c l u fl) : PgD w gp w.heap.size A c l (.slice none 0 0) [] (.slice none 0 0) [] (w.alloc (.cells #[.slice none 0 0, .slice none 0 0] 27)) u fl := by
 have hb := below_lnew w (.cells #[.slice none 0 0, .slice none 0 0] 27)
 exact ⟨hP.next hb, heap_alloc_new w _, El.Own.nil _ _, El.Own.nil _ _, fun _ q => absurd q (by simp), fun _ q => absurd q (by simp), grown_below hb _, hP.lt, Nat.le_refl _⟩
theorem XS1.moreD {cs : Value → List Value} {y : ScM} (h : RwD eSc 27 cs (XS1 w vF fs ss2) w gp gs A c l vc v ss W u fl) (hy : y.Ok W (fun g => w.heap.size ≤ g)) : RwD eSc 27 cs (XS1 w vF fs (ss2 ++ [y])) w gp gs A c l vc v ss W u fl :=
 ⟨h.p, h.s, h.r, ⟨h.x.1, fun s q => (List.mem_append.1 q).elim (h.x.2.1 s) (fun e => by rw [List.mem_singleton.1 e]; exact hy), h.x.2.2⟩, h.g, h.n, fun _ _ hf hx => XS1.keepD hf hx, h.t⟩
theorem XF1.moreD {cs : Value → List Value} {y : DcM} (h : RwD eDc 27 cs (XF1 w vS ss fs2) w gp gs A c l vc v fs W u fl) (hy : y.Ok W (fun g => w.heap.size ≤ g)) : RwD eDc 27 cs (XF1 w vS ss (fs2 ++ [y])) w gp gs A c l vc v fs W u fl :=
 ⟨h.p, h.s, h.r, ⟨h.x.1, h.x.2.1, fun s q => (List.mem_append.1 q).elim (h.x.2.2 s) (fun e => by rw [List.mem_singleton.1 e]; exact hy)⟩, h.g, h.n, fun _ _ hf hx => XF1.keepD hf hx, h.t⟩
abbrev StW (W1 : World) (gp gs : Nat) (A : Option Addr) (c : Nat) (l : List To) (nm : List UInt8) (v : Value) (xs : List (List UInt8)) (W : World) (u : List To) (fl : Bool) : Prop := RwD eSr 69 (fun v => [.string (str nm), v]) (fun _ => True) W1 gp gs A c l v v xs W u fl
theorem StW.new {W1 : World} {nm : List UInt8} (h : Rp W1 gp A c l u fl) : StW W1 gp W1.heap.size A c l nm (.slice none 0 0) [] (W1.alloc (.cells #[.string (str nm), .slice none 0 0] 69)) u fl :=
 ⟨h.next (below_lnew W1 _), heap_alloc_new W1 _, El.Own.nil _ _, trivial, grown_below (below_lnew W1 _) _, ⟨h.lt, Nat.le_refl _⟩, fun _ _ _ _ => trivial, by decide, by decide, by decide⟩
end
end Go.Proofs.Ytjllbacefbjjaaa
