/-
  Merged for a claim: S2L, SYT, GC, SYU.
-/
import Derived.Test.YtjllbacefbjjaaaZJ11
import Derived.Test.YtjllbacefbjjaaaZSYS
import Derived.Test.YtjllbacefbjjaaaZJ3
import Derived.Great.BuildSlice
namespace Go.Proofs.Ytjllbacefbjjaaa
open Go Go.RowKit

section
variable {w : World} {gp : Nat} {A : Option Addr} {c : Nat} {l u : List To} {fl : Bool}
set_option maxRecDepth 100000 in
set_option maxHeartbeats 1000000 in
theorem rargs_any (h : Rp w gp A c l u fl) : Calls Try.prog 81 #[.pointer (some ⟨gp, 0, none⟩)] w (RA w gp A c l u fl (argR u)) := by
 have hlt := h.lt
 have H0 := Lib.hid h
 obtain ⟨r, hr⟩ : ∃ r, argR u = r := ⟨_, rfl⟩
 rw [hr]
 have HR := Lib.hid hr.symm
 clear h hr
 go_enter Try.func81, Try.ntmps81
 go_wp2_with fail
 refine (rsign_any H0.out [40] (by decide)).mono ?_
 rintro e W1 ⟨rfl, u1, g1, ha1, hp1, hg1⟩
 have HA1 := Lib.hid ha1
 have HP1 := Lib.hid hp1
 have HG1 := Lib.hid hg1
 clear ha1 hp1 hg1 H0
 go_wp2_with fail
 refine (ris_any HP1.out 4 [41]).mono ?_
 rintro e W2 ⟨rfl, m, hm⟩
 have HP2 := Lib.hid (show Rp W2 gp A c l u1 g1 by rw [hm]; exact HP1.out.draws m)
 have HG2 := Lib.hid (show w.grownBy W2 (some gp) by rw [hm]; exact grown_trans HG1.out (grown_below (below_draws m) _))
 clear hm HP1 HG1
 rw [isX_T (by decide)]
 cases b1 : (!g1 && isT 4 [41] u1) with
 | true =>
  obtain ⟨hf, ht⟩ := and_not b1
  subst hf
  have HT := Lib.hid ht
  obtain ⟨k, hk, hu, hc⟩ := HP2.out.k
  have p1 := hc.cell (j := 1) (by simp)
  have f1 := hc.frozen 1
  have hn := HP2.out.n
  have hkk : k ≤ 1000000 := by omega
  have l1 := HP2.out.lt
  simp only [List.getElem_cons_zero, List.getElem_cons_succ] at p1
  have HI := Lib.hid (HP2.out.step p1 (isT_ne ht))
  clear ht hu hc hn
  go_wp2_with fail
  go_ret
  refine ⟨[], _, u1.tail, false, rfl, ?_, Ar.new0 HI.out (grown_trans HG2.out (grown_set _ _ _ _)) hlt⟩
  rw [HR.out]
  refine Ans.then HA1.out ?_
  unfold argP lisP
  rw [if_pos (show isS [41] u1 = true from HT.out)]
  exact .ok _ _ _
 | false =>
  go_wp2_with fail
  refine (rexp_any HP2.out).mono ?_
  rintro e W3 ⟨t, z3, g3, rfl, ha3, ho3, hp3, hg3⟩
  obtain ⟨kd, nu, nm, f, op, B, d, ks⟩ := t
  have hg3' := grown_trans HG2.out hg3
  have HK := Lib.hid (Ar.new1 hp3 hg3' hlt (.mk kd nu nm f op B d ks) (ho3.up fun g q => Nat.le_trans HG2.out.size q) #[.int .u8 kd, .int .i64 nu, .string (str nm), .string (str f), .string (str op), .slice B ks.length d] rfl)
  have HA3 := Lib.hid ha3
  have HP2' := Lib.hid (show u1.length ≤ l.length by obtain ⟨k, _, hk, _⟩ := HP2.out.k; rw [hk]; simp)
  clear ha3 ho3 hp3 hg3 hg3' HP2 HG2
  unfold xV XT.cs
  go_wp2_with fail
  have HL0 := Lib.hid (show g3 = false → [XT.mk kd nu nm f op B d ks].length + z3.length ≤ l.length by
   intro q
   subst q
   have ha := HA3.out
   have hlu : u1.length ≤ l.length := HP2'.out
   have he := fun q => exP_len (u := u1) (v := z3) (x := XT.d (.mk kd nu nm f op B d ks)) q
   generalize exP u1 = q at *
   cases ha
   have := he rfl
   simp
   omega)
  have HC0 := Lib.hid (show CoI (argP u1) g1 u1 (xsd [XT.mk kd nu nm f op B d ks]) z3 g3 u1.length by
   cases g1 with
   | true =>
    have ha := HA3.out
    cases ha
    exact ⟨fun e => (by cases e), fun _ ys => .fail _ _ _⟩
   | false =>
    have e : argP u1 = comP exP (u1.length + 1) u1 := by
     unfold argP lisP
     rw [if_neg (show ¬ isS [41] u1 = true from and_nt b1 rfl)]
    rw [e, xsd, xsd]
    exact CoI.new (by omega) HA3.out)
  clear HA3
  go_loopw [3] (fun v3 wr => ∃ (xs : List XT) (v : List To) (f : Bool) (n : Nat), Hid (Ar w gp A c l v3 xs wr v f) ∧ Hid (CoI (argP u1) g1 u1 (xsd xs) v f n) ∧ Hid (f = false → xs.length + v.length ≤ l.length)) (fun _ wr => lfR wr gp l)
  case atStart => exact ⟨[.mk kd nu nm f op B d ks], z3, g3, u1.length, HK, HC0, HL0⟩
  case round =>
   clear HK HC0 HL0
   obtain ⟨xs, v, f, n, K, HC, HL⟩ := hrel
   have HME := Lib.hid K.out.p.lfR
   go_wp2_with fail
   refine (ris_any K.out.p 4 [44]).mono ?_
   rintro e Y2 ⟨rfl, m2, hm2⟩
   have K2 := Lib.hid (show Ar w gp A c l u3 xs Y2 v f by rw [hm2]; exact K.out.below (below_draws m2))
   clear hm2 K
   rw [isX_T (by decide)]
   cases b2 : (!f && isT 4 [44] v) with
   | true =>
    obtain ⟨hf, ht⟩ := and_not b2
    subst hf
    have HT := Lib.hid ht
    obtain ⟨k, hk, hu, hc⟩ := K2.out.p.k
    have p1 := hc.cell (j := 1) (by simp)
    have f1 := hc.frozen 1
    have hn := K2.out.p.n
    have hkk : k ≤ 1000000 := by omega
    have l1 := K2.out.p.lt
    simp only [List.getElem_cons_zero, List.getElem_cons_succ] at p1
    have K3 := Lib.hid (K2.out.step (K2.out.p.step p1 (isT_ne ht)) (grown_set _ _ _ _))
    clear ht hu hc K2
    go_wp2_with fail
    refine (rexp_any K3.out.p).mono ?_
    rintro e Z ⟨t, v2, f2, rfl, ha2, ho2, hp2, hg2⟩
    obtain ⟨a0, a1, a2, a3, a4, A5, a6, ys⟩ := t
    have HA2 := Lib.hid ha2
    have K4 := K3.out.step hp2 hg2
    have hob : ∀ g, u3.ownBlock = some g → g < (Y2.setCell ⟨gp, 1, none⟩ (.int .i64 ((k : Int) + 1))).heap.size := fun g q => (K3.out.r.lt g q).2.1
    have hbW := K3.out.g.size
    have HX := Lib.hid ((ho2.up (Q := fun g => w.heap.size ≤ g ∧ u3.ownBlock ≠ some g) fun g q => ⟨by omega, fun e => by have := hob g e; omega⟩).below (below_lnew Z (.cells #[.int .u8 a0, .int .i64 a1, .string (str a2), .string (str a3), .string (str a4), .slice A5 ys.length a6] 53)))
    have K5 := Lib.hid (K4.below (below_lnew Z (.cells #[.int .u8 a0, .int .i64 a1, .string (str a2), .string (str a3), .string (str a4), .slice A5 ys.length a6] 53)))
    have HB := Lib.hid (heap_alloc_new Z (.cells #[.int .u8 a0, .int .i64 a1, .string (str a2), .string (str a3), .string (str a4), .slice A5 ys.length a6] 53))
    have HLn := Lib.hid (show xs.length ≤ 1000000 by have := HL.out (by trivial); omega)
    have hvn := (HC.out.y rfl).2.1
    have htl := tail_len (isT_ne HT.out)
    obtain ⟨n, rfl⟩ := Nat.exists_eq_succ_of_ne_zero (show n ≠ 0 by omega)
    have HC2 := Lib.hid (show CoI (argP u1) g1 u1 (xsd (xs ++ [.mk a0 a1 a2 a3 a4 A5 a6 ys])) v2 f2 n by rw [xsd_snoc]; exact HC.out.go HT.out HA2.out)
    have HE := Lib.hid (show f2 = false → v2.length + 1 ≤ v.tail.length by
     intro q
     subst q
     have ha := HA2.out
     have he := fun q => exP_len (u := v.tail) (v := v2) (x := XT.d (.mk a0 a1 a2 a3 a4 A5 a6 ys)) q
     generalize exP v.tail = q at *
     cases ha
     exact he rfl)
    have HL2 := Lib.hid (show f2 = false → (xs ++ [XT.mk a0 a1 a2 a3 a4 A5 a6 ys]).length + v2.length ≤ l.length by
     intro q
     have h1 := HE.out q
     have h2 := HL.out (by trivial)
     rw [List.length_append, List.length_singleton]
     omega)
    have HLE := Lib.hid (show (if f2 = true then 0 else v2.length + 1) < v.length + 1 by
     cases f2 with
     | true => rw [if_pos rfl]; omega
     | false => rw [if_neg (by decide)]; have := HE.out rfl; omega)
    clear ha2 hp2 hg2 ho2 hob hbW K4 hvn HE
    unfold xV XT.cs
    go_wp2_with (at_builtin; refine El.app1x eX _ rfl 49 (.agg #[.int .u8 0, .int .i64 0, .string ⟨#[]⟩, .string ⟨#[]⟩, .string ⟨#[]⟩, .slice none 0 0]) 88 Try.underlying49 exp_info rfl (by decide) (by decide) (.tmp 27) (.tmp 30) rfl w.heap.size u3 xs rfl K5.out.r Z.heap.size 1 (.mk a0 a1 a2 a3 a4 A5 a6 ys) rfl 53 HB.out HLn.out K5.out.g.size ?_; intro v9 Z9 ho9 hg9 hk9)
    have hR := K5.out.add HX.out hg9 ho9 hk9
    have e2 := hR.p.lfR
    refine ⟨⟨_, v2, f2, n, Lib.hid hR, HC2, HL2⟩, ?_⟩
    have e3 := HME.out
    rw [if_neg (by decide)] at e3
    rw [e3]
    exact Nat.lt_of_le_of_lt (Nat.le_of_eq e2) HLE.out
   | false =>
    go_wp2_with fail
    refine (rsign_any K2.out.p [41] (by decide)).mono ?_
    rintro e Y3 ⟨rfl, u9, g9, ha9, hp9, hg9⟩
    have K3 := K2.out.step hp9 hg9
    have HE := Lib.hid (HC.out.end_ (fun q => and_nt b2 q) ha9)
    clear K2
    go_wp2_with fail
    go_ret
    refine ⟨xs, u3, u9, g9, rfl, ?_, K3⟩
    rw [HR.out]
    exact Ans.then HA1.out HE.out
end
end Go.Proofs.Ytjllbacefbjjaaa

namespace Go.Proofs.Ytjllbacefbjjaaa
open Go Go.RowKit

inductive XS where
 | mk (kd ln : Int) (nm fl cl : List UInt8) (ty : Ty) (kA : Option Addr) (kc : Nat) (ks : List XT) (bA : Option Addr) (bc : Nat) (bd : List XS) (eA : Option Addr) (ec : Nat) (el : List XS)
def XS.cs : XS → List Value
 | .mk kd ln nm fl cl ty kA kc ks bA bc bd eA ec el => [.int .u8 kd, .int .i64 ln, .string (str nm), .string (str fl), .string (str cl), .int .u8 ty.kd, .int .i64 ty.n, .string (str ty.nm), .slice kA ks.length kc, .slice bA bd.length bc, .slice eA el.length ec]
def sV (t : XS) : Value := .agg t.cs.toArray
def eSt : El XS := ⟨51, 11, XS.cs, fun x => by cases x; rfl, fun x u hu => by
 cases x
 simp [XS.cs] at hu
 rcases hu with rfl | rfl | rfl | rfl | rfl | rfl | rfl | rfl | rfl | rfl | rfl <;> rfl, by omega⟩
theorem st_info : (Try.prog.info? 51).map (fun i => (i.zero, i.size, i.bytes)) = some (some (.agg #[.int .u8 0, .int .i64 0, .string ⟨#[]⟩, .string ⟨#[]⟩, .string ⟨#[]⟩, .int .u8 0, .int .i64 0, .string ⟨#[]⟩, .slice none 0 0, .slice none 0 0, .slice none 0 0]), 11, 168) := by kernel_rfl
mutual
def XS.d : XS → St
 | .mk kd ln nm fl cl ty _ _ ks _ _ bd _ _ el => .mk kd ln nm fl cl ty (xsd ks) (xssd bd) (xssd el)
def xssd : List XS → List St
 | [] => []
 | x :: l => x.d :: xssd l
end
theorem xssd_map (l : List XS) : xssd l = l.map XS.d := by
 induction l with
 | nil => rfl
 | cons x l ih => rw [xssd, ih]; rfl
def RowP {α : Type} (K : El α) (w : World) (P : Nat → Prop) (A : Option Addr) (c : Nat) (xs : List α) : Prop :=
 K.LiesT w A xs ∧ xs.length ≤ c ∧ (A = none → c = 0) ∧ (0 < xs.length → ∀ a, A = some a → P a.block)
mutual
def XS.Ok (w : World) (P : Nat → Prop) : XS → Prop
 | .mk _ _ _ _ _ _ kA kc ks bA bc bd eA ec el => (RowP eX w P kA kc ks ∧ RowP eSt w P bA bc bd ∧ RowP eSt w P eA ec el) ∧ xsOk w P ks ∧ xssOk w P bd ∧ xssOk w P el
def xssOk (w : World) (P : Nat → Prop) : List XS → Prop
 | [] => True
 | x :: l => x.Ok w P ∧ xssOk w P l
end
section
variable {w w' : World} {P Q : Nat → Prop}
theorem RowP.keep {α : Type} {K : El α} {A : Option Addr} {c : Nat} {xs : List α} (h : RowP K w P A c xs) (hk : ∀ g, P g → HasT w g K.e → w'.heap[g]? = w.heap[g]?) (hm : ∀ g, P g → Q g) : RowP K w' Q A c xs :=
 ⟨liesP_keep h.1 h.2.2.2 hk, h.2.1, h.2.2.1, fun hl a e => hm _ (h.2.2.2 hl a e)⟩
theorem RowP.low {α : Type} {K : El α} {A : Option Addr} {c : Nat} {xs : List α} (h : RowP K w P A c xs) : RowP K w (fun g => P g ∧ g < w.heap.size) A c xs :=
 ⟨h.1, h.2.1, h.2.2.1, fun hl a e => ⟨h.2.2.2 hl a e, by
  obtain ⟨g, o, e2, hg, _⟩ := h.1 hl
  rw [e] at e2
  injection e2 with e2
  subst e2
  exact hg.lt⟩⟩
mutual
theorem XS.Ok.keep (h1 : ∀ g, P g → HasT w g 53 → w'.heap[g]? = w.heap[g]?) (h2 : ∀ g, P g → HasT w g 51 → w'.heap[g]? = w.heap[g]?) (hm : ∀ g, P g → Q g) : ∀ (t : XS), t.Ok w P → t.Ok w' Q
 | .mk _ _ _ _ _ _ _ _ ks _ _ bd _ _ el, h => by
  rw [XS.Ok] at h ⊢
  exact ⟨⟨h.1.1.keep h1 hm, h.1.2.1.keep h2 hm, h.1.2.2.keep h2 hm⟩, xsOk.keep h1 hm ks h.2.1, xssOk.keep h1 h2 hm bd h.2.2.1, xssOk.keep h1 h2 hm el h.2.2.2⟩
theorem xssOk.keep (h1 : ∀ g, P g → HasT w g 53 → w'.heap[g]? = w.heap[g]?) (h2 : ∀ g, P g → HasT w g 51 → w'.heap[g]? = w.heap[g]?) (hm : ∀ g, P g → Q g) : ∀ (l : List XS), xssOk w P l → xssOk w' Q l
 | [], _ => by rw [xssOk]; trivial
 | x :: l, h => by
  rw [xssOk] at h ⊢
  exact ⟨XS.Ok.keep h1 h2 hm x h.1, xssOk.keep h1 h2 hm l h.2⟩
end
mutual
theorem XS.Ok.low : ∀ (t : XS), t.Ok w P → t.Ok w (fun g => P g ∧ g < w.heap.size)
 | .mk _ _ _ _ _ _ _ _ ks _ _ bd _ _ el, h => by
  rw [XS.Ok] at h ⊢
  exact ⟨⟨h.1.1.low, h.1.2.1.low, h.1.2.2.low⟩, xsOk.low ks h.2.1, xssOk.low bd h.2.2.1, xssOk.low el h.2.2.2⟩
theorem xssOk.low : ∀ (l : List XS), xssOk w P l → xssOk w (fun g => P g ∧ g < w.heap.size) l
 | [], _ => by rw [xssOk]; trivial
 | x :: l, h => by
  rw [xssOk] at h ⊢
  exact ⟨XS.Ok.low x h.1, xssOk.low l h.2⟩
end
theorem XS.Ok.below {t : XS} (h : t.Ok w P) (hb : Below w.heap.size w w') : t.Ok w' P := XS.Ok.keep (fun g _ hg => hb.block g hg.lt) (fun g _ hg => hb.block g hg.lt) (fun _ h => h) t h
theorem XS.Ok.up {t : XS} (h : t.Ok w P) (hm : ∀ g, P g → Q g) : t.Ok w Q := XS.Ok.keep (fun _ _ _ => rfl) (fun _ _ _ => rfl) hm t h
theorem xssOk.all {l : List XS} (h : xssOk w P l) : ∀ x ∈ l, x.Ok w P := by
 induction l with
 | nil => intro x hx; cases hx
 | cons y l ih =>
  rw [xssOk] at h
  intro x hx
  rcases List.mem_cons.1 hx with rfl | hx
  · exact h.1
  · exact ih h.2 x hx
theorem xssOk.of {l : List XS} (h : ∀ x ∈ l, x.Ok w P) : xssOk w P l := by
 induction l with
 | nil => rw [xssOk]; trivial
 | cons y l ih =>
  rw [xssOk]
  exact ⟨h y (by simp), ih fun x hx => h x (List.mem_cons_of_mem _ hx)⟩
end
end Go.Proofs.Ytjllbacefbjjaaa

namespace Go.Proofs.Ytjllbacefbjjaaa
open Go.ChangeShapes Go.WideShapes Go.ChangeAt Go.RowKit Go.Deep

namespace El
variable {α : Type} {ops : Array Oper} {o : Oper} {a : Act} {Q : Exit → Act → World → Prop} {C : Act → World → Prop}
theorem op_build1 (K : El α) (w : World) (sl : TypeId) (z : Value) (by_ : Nat) (hu : Try.prog.underlying sl = some (.slice K.e)) (hi : (Try.prog.info? K.e).map (fun i => (i.zero, i.size, i.bytes)) = some (some z, K.sz, by_)) (hzc : z.cells.size = K.sz) (hsz : K.sz ≤ 100)
 (x : Operand) (ho : o.op = .buildSlice sl 1 #[(0, x)]) (v : Value) (y : α) (hx : a.eval x = v) (hv : v.cells.toList = K.f y)
 (h : C (a.put o.dst (.slice (some ⟨w.heap.size, 0, none⟩) 1 1)) (w.alloc (.cells (K.f y).toArray K.e))) : Oper.wp Try.prog o a w C Q := by
 obtain ⟨i0, hi0, hz0, hz1, hz2⟩ := info_parts hi
 have hp := K.pos
 have hvs : v.cells.size = K.sz := by rw [← Array.length_toList, hv, K.len]
 refine wp_buildSlice sl K.e 1 _ ho (K.f y).toArray i0 z hu hi0 hz0 (by rw [hz1]; omega) (by rw [hz1]; omega) ?_ h
 have := Great.fill_whole (s := K.sz) hp [v] ((Array.range (1 * K.sz)).map (z.cells[· % z.cells.size]!)) (fun u hu => by rw [List.mem_singleton.1 hu]; exact hvs) (by simp)
 rw [hz1]
 have e : ([v].flatMap fun v => v.cells.toList).toArray = (K.f y).toArray := by simp [hv]
 rw [e] at this
 simp only [List.map_toArray, List.map_cons, List.map_nil, hx]
 exact this
end El
end Go.Proofs.Ytjllbacefbjjaaa

namespace Go.Proofs.Ytjllbacefbjjaaa
open Go Go.RowKit

theorem El.Own.at0 {α : Type} {K : El α} {w : World} {B : Nat} {v : Value} {xs : List α} (h : K.Own w B v xs) (hn : 0 < xs.length) : ∃ g c, v = .slice (some ⟨g, 0, none⟩) xs.length c := by
 rcases h.2 with ⟨_, h0⟩ | ⟨g, cap, _, e, _⟩
 · omega
 · exact ⟨g, cap, e⟩
structure SF where
 kd : Int
 ln : Int
 nm : List UInt8
 fl : List UInt8
 cl : List UInt8
 ty : Ty
def SF.cs (s : SF) (v : Value) : List Value := [.int .u8 s.kd, .int .i64 s.ln, .string (str s.nm), .string (str s.fl), .string (str s.cl), .int .u8 s.ty.kd, .int .i64 s.ty.n, .string (str s.ty.nm), v, .slice none 0 0, .slice none 0 0]
def FrS (w W : World) : Prop := ∀ k e, HasT w k e → e ≠ 57 → e ≠ 51 → e ≠ 53 → W.heap[k]? = w.heap[k]?
theorem FrS.refl (w : World) : FrS w w := fun _ _ _ _ _ _ => rfl
theorem FrS.trans {w W Z : World} (h : FrS w W) (h2 : FrS W Z) : FrS w Z := fun k e hk h1 h3 h4 => (h2 k e (hk.same (h k e hk h1 h3 h4)) h1 h3 h4).trans (h k e hk h1 h3 h4)
theorem FrS.of_below {w W : World} (hb : Below w.heap.size w W) : FrS w W := fun k _ hk _ _ _ => hb.block k hk.lt
theorem FrS.below {w W Z : World} (h : FrS w W) (hb : Below W.heap.size W Z) : FrS w Z := h.trans (.of_below hb)
theorem FrS.of_but {T : TypeId} {w W : World} (hb : ButT T w W) (hT : T = 57 ∨ T = 51 ∨ T = 53) : FrS w W := fun k e hk h1 h2 h3 => hb k e hk (by rcases hT with rfl | rfl | rfl <;> assumption)
theorem FrS.but {T : TypeId} {w W Z : World} (h : FrS w W) (hb : ButT T W Z) (hT : T = 57 ∨ T = 51 ∨ T = 53) : FrS w Z := h.trans (.of_but hb hT)
structure SmZ (w wf : World) (gp gs : Nat) (A : Option Addr) (c : Nat) (l : List To) (s : SF) (vc : Value) (rows xs : List XT) (v : Value) (W : World) (u : List To) : Prop where
 p : Ps W gp A c l u
 s : CAt W gs 51 (s.cs vc)
 r : eX.Own W (gs + 1) v rows
 k : xsOk W (fun g => gs < g ∧ v.ownBlock ≠ some g) xs
 g : w.grownBy W (some gp)
 n : gp < w.heap.size ∧ w.heap.size ≤ gs ∧ xs.length + u.length ≤ l.length
 f : FrS wf W
def SmW (w wf : World) (gp gs : Nat) (A : Option Addr) (c : Nat) (l : List To) (s : SF) (ks : List XT) (v : Value) (W : World) (u : List To) : Prop := SmZ w wf gp gs A c l s v ks ks v W u
section
variable {w wf W Z : World} {gp gs : Nat} {A : Option Addr} {c : Nat} {l u u' : List To} {s : SF} {vc v v9 : Value} {rows xs ks : List XT} {x : XT}
theorem Ps.ulen (h : Ps W gp A c l u) : u.length ≤ l.length := by
 obtain ⟨k, _, rfl, _⟩ := h.k
 simp
theorem SmZ.below (h : SmZ w wf gp gs A c l s vc rows xs v W u) (hb : Below W.heap.size W Z) : SmZ w wf gp gs A c l s vc rows xs v Z u :=
 ⟨h.p.next hb, h.s.below hb h.s.lt, h.r.below hb, xsOk.keep (fun g _ hg => hb.block g hg.lt) (fun _ q => q) xs h.k, grown_trans h.g (grown_below hb _), h.n, h.f.below hb⟩
theorem SmZ.drew (h : SmZ w wf gp gs A c l s vc rows xs v W u) : SmZ w wf gp gs A c l s vc rows xs v W.drew u := h.below ((Below.refl _ W).drew)
theorem SmZ.step (h : SmZ w wf gp gs A c l s vc rows xs v W u) (hp : Ps Z gp A c l u') (hg : W.grownBy Z (some gp)) (hu : u'.length ≤ u.length) : SmZ w wf gp gs A c l s vc rows xs v Z u' := by
 have hb : ButT 57 W Z := ButT.grown hg fun k e => by injection e with e; subst e; exact h.p.has
 have hn := h.n
 exact ⟨hp, (hb gs _ ⟨_, _, h.s⟩ (by decide)).trans h.s, h.r.but hb (by decide), xsOk.keep (fun g _ ht => hb g _ ht (by decide)) (fun _ q => q) xs h.k, grown_trans h.g hg, ⟨hn.1, hn.2.1, by omega⟩, h.f.but hb (.inl rfl)⟩
theorem SmZ.add (h : SmZ w wf gp gs A c l s v ks ks v W u) (hx : x.Ok W (fun g => gs < g ∧ v.ownBlock ≠ some g)) (hl : ks.length + 1 + u.length ≤ l.length) (hg : W.grownBy Z v.ownBlock) (ho : eX.Own Z (gs + 1) v9 rows) (hk : ∀ k, v9.ownBlock = some k → v.ownBlock = some k ∨ W.heap.size ≤ k) : SmZ w wf gp gs A c l s v rows (ks ++ [x]) v9 Z u := by
 have hn := h.n
 have hb : ButT 53 W Z := ButT.grown hg fun k e => h.r.has k e
 have hB : Below w.heap.size W Z := (Below.refl _ _).grown hg (Nat.le_trans hn.2.1 (Nat.le_of_lt h.s.lt)) (fun k e => Nat.le_trans (Nat.le_succ_of_le hn.2.1) (h.r.lt k e).1)
 have key : ∀ y : XT, y.Ok W (fun g => gs < g ∧ v.ownBlock ≠ some g) → y.Ok Z (fun g => gs < g ∧ v9.ownBlock ≠ some g) := fun y hy => by
  refine XT.Ok.keep (P := fun g => (gs < g ∧ v.ownBlock ≠ some g) ∧ g < W.heap.size) (fun g q hg' => hg.block g hg'.lt (fun e => q.1.2 e.symm)) (fun g q => ⟨q.1.1, fun e => ?_⟩) y (XT.Ok.low y hy)
  rcases hk g e with e2 | e2
  · exact q.1.2 e2
  · have := q.2
    omega
 refine ⟨h.p.below hB hn.1, (hb gs _ ⟨_, _, h.s⟩ (by decide)).trans h.s, ho, xsOk.of fun y hy => ?_, grown_new h.g hB, ⟨hn.1, hn.2.1, by rw [List.length_append, List.length_singleton]; omega⟩, h.f.but hb (.inr (.inr rfl))⟩
 rcases List.mem_append.1 hy with hy | hy
 · exact key y (xsOk.all h.k y hy)
 · rw [List.mem_singleton.1 hy]
   exact key x hx
theorem SmZ.setK (h : SmZ w wf gp gs A c l s vc rows xs v W u) : SmZ w wf gp gs A c l s v rows xs v (W.setCell ⟨gs, 8, none⟩ v) u := by
 have hn := h.n
 have hb : ButT 51 W (W.setCell ⟨gs, 8, none⟩ v) := ButT.set (p := ⟨gs, 8, none⟩) ⟨_, _, h.s⟩ v
 have hB : Below w.heap.size W (W.setCell ⟨gs, 8, none⟩ v) := (Below.refl _ _).setCell (p := ⟨gs, 8, none⟩) hn.2.1 v
 exact ⟨h.p.below hB hn.1, h.s.set 8 v, h.r.but hb (by decide), xsOk.keep (fun g _ ht => hb g _ ht (by decide)) (fun _ q => q) xs h.k, grown_new h.g hB, hn, h.f.but hb (.inr (.inl rfl))⟩
def putX (W : World) (g o : Nat) : XT → World
 | .mk kd nu nm fl op A c ks => (((((W.setCell ⟨g, o, none⟩ (.int .u8 kd)).setCell ⟨g, o + 1, none⟩ (.int .i64 nu)).setCell ⟨g, o + 2, none⟩ (.string (str nm))).setCell ⟨g, o + 3, none⟩ (.string (str fl))).setCell ⟨g, o + 4, none⟩ (.string (str op))).setCell ⟨g, o + 5, none⟩ (.slice A ks.length c)
theorem putX_own {B g cp : Nat} {y : XT} (h : eX.Own W B (.slice (some ⟨g, 0, none⟩) (ks ++ [y]).length cp) (ks ++ [y])) (x : XT) : eX.Own (putX W g (ks.length * 6) x) B (.slice (some ⟨g, 0, none⟩) (ks ++ [x]).length cp) (ks ++ [x]) := by
 have e : (ks ++ [x]).length = (ks ++ [y]).length := by simp
 rw [e]
 have hf : (ks.flatMap eX.f).length = ks.length * 6 := El.flat_len eX ks
 obtain ⟨kd, nu, nm, fl, op, A, c, ks2⟩ := x
 obtain ⟨kd', nu', nm', fl', op', A', c', ks'⟩ := y
 have h1 := ((((((World.ownsRow.stored h (ks.length * 6) (.int .u8 kd)).1.stored (ks.length * 6 + 1) (.int .i64 nu)).1.stored (ks.length * 6 + 2) (.string (str nm))).1.stored (ks.length * 6 + 3) (.string (str fl))).1.stored (ks.length * 6 + 4) (.string (str op))).1.stored (ks.length * 6 + 5) (.slice A ks2.length c)).1
 have hl : (((((((ks ++ [XT.mk kd' nu' nm' fl' op' A' c' ks']).flatMap eX.f).set (ks.length * 6) (.int .u8 kd)).set (ks.length * 6 + 1) (.int .i64 nu)).set (ks.length * 6 + 2) (.string (str nm))).set (ks.length * 6 + 3) (.string (str fl))).set (ks.length * 6 + 4) (.string (str op))).set (ks.length * 6 + 5) (.slice A ks2.length c) = (ks ++ [XT.mk kd nu nm fl op A c ks2]).flatMap eX.f := by
  rw [List.flatMap_append, List.flatMap_append]
  have hs : ∀ (a : List Value) (n : Nat) (v : Value), (ks.flatMap eX.f ++ a).set (ks.length * 6 + n) v = ks.flatMap eX.f ++ a.set n v := fun a n v => by
   rw [List.set_append_right _ _ (by rw [hf]; omega), hf, Nat.add_sub_cancel_left]
  have hs0 := fun a v => hs a 0 v
  simp only [Nat.add_zero] at hs0
  rw [hs0, hs, hs, hs, hs, hs]
  rfl
 rw [hl] at h1
 show (putX W g (ks.length * 6) _).ownsRow B eX.e eX.sz _ (ks ++ [_]).length ((ks ++ [_]).flatMap eX.f)
 rw [e]
 exact h1
theorem putX_heap (g o : Nat) (x : XT) {k : Nat} (hk : k ≠ g) : (putX W g o x).heap[k]? = W.heap[k]? := by
 obtain ⟨kd, nu, nm, fl, op, A, c, ks2⟩ := x
 unfold putX
 rw [Below.heap_setCell _ _ _ k hk, Below.heap_setCell _ _ _ k hk, Below.heap_setCell _ _ _ k hk, Below.heap_setCell _ _ _ k hk, Below.heap_setCell _ _ _ k hk, Below.heap_setCell _ _ _ k hk]
theorem putX_below {B g : Nat} (o : Nat) (x : XT) (hg : B ≤ g) : Below B W (putX W g o x) := by
 obtain ⟨kd, nu, nm, fl, op, A, c, ks2⟩ := x
 exact ((((((Below.refl B W).setCell (p := ⟨g, o, none⟩) hg _).setCell (p := ⟨g, o + 1, none⟩) hg _).setCell (p := ⟨g, o + 2, none⟩) hg _).setCell (p := ⟨g, o + 3, none⟩) hg _).setCell (p := ⟨g, o + 4, none⟩) hg _).setCell (p := ⟨g, o + 5, none⟩) hg _
theorem SmZ.putX {g cp : Nat} {y : XT} (h : SmZ w wf gp gs A c l s vc (ks ++ [y]) xs (.slice (some ⟨g, 0, none⟩) (ks ++ [y]).length cp) W u) (x : XT) : SmZ w wf gp gs A c l s vc (ks ++ [x]) xs (.slice (some ⟨g, 0, none⟩) (ks ++ [y]).length cp) (putX W g (ks.length * 6) x) u := by
 have hn := h.n
 have hg1 := (h.r.lt g rfl).1
 have hB : Below w.heap.size W (Go.Proofs.Ytjllbacefbjjaaa.putX W g (ks.length * 6) x) := putX_below _ x (by omega)
 have ho := putX_own h.r x
 have e : (ks ++ [x]).length = (ks ++ [y]).length := by simp
 rw [e] at ho
 have hbt : ButT 53 W (Go.Proofs.Ytjllbacefbjjaaa.putX W g (ks.length * 6) x) := fun k e hk he => putX_heap _ _ x (fun q => by subst q; exact he (hk.one (h.r.has _ rfl)))
 exact ⟨h.p.below hB hn.1, (putX_heap _ _ x (by omega)).trans h.s, ho, xsOk.keep (fun k q _ => putX_heap _ _ x (fun e => q.2 (by subst e; rfl))) (fun _ q => q) xs h.k, grown_new h.g hB, hn, h.f.but hbt (.inr (.inr rfl))⟩
theorem putX_at {B g cp : Nat} {y : XT} (h : eX.Own W B (.slice (some ⟨g, 0, none⟩) (ks ++ [y]).length cp) (ks ++ [y])) {f : Nat} {z : Value} (hz : y.cs[f]? = some z) : W.cell? ⟨g, ks.length * 6 + f, none⟩ = some z := by
 have hf : f < 6 := by
  have := (List.getElem?_eq_some_iff.1 hz).1
  rwa [show y.cs.length = 6 from eX.len y] at this
 have h1 := World.ownsRow.cellAt h (ks.length * 6 + f) (by rw [List.length_append, List.length_singleton]; show _ < (ks.length + 1) * 6; omega)
 rw [h1]
 refine (El.flat_get eX (ks ++ [y]) ks.length f (by simp) hf).trans ?_
 have hz2 : (eX.f y)[f]? = some z := hz
 simpa using hz2
theorem SmZ.putX1 {g cp : Nat} {y : XT} (h : SmZ w wf gp gs A c l s vc (ks ++ [y]) xs (.slice (some ⟨g, 0, none⟩) (ks.length + 1) cp) W u) (x : XT) : SmZ w wf gp gs A c l s vc (ks ++ [x]) xs (.slice (some ⟨g, 0, none⟩) (ks.length + 1) cp) (Go.Proofs.Ytjllbacefbjjaaa.putX W g (ks.length * 6) x) u := by
 have e : ks.length + 1 = (ks ++ [y]).length := by simp
 rw [e] at h ⊢
 exact h.putX x
theorem putX_at1 {B g cp : Nat} {y : XT} (h : eX.Own W B (.slice (some ⟨g, 0, none⟩) (ks.length + 1) cp) (ks ++ [y])) {f : Nat} {z : Value} (hz : y.cs[f]? = some z) : W.cell? ⟨g, ks.length * 6 + f, none⟩ = some z := by
 have e : ks.length + 1 = (ks ++ [y]).length := by simp
 rw [e] at h
 exact putX_at h hz
theorem putX_frozen1 {B g cp : Nat} {y : XT} (h : eX.Own W B (.slice (some ⟨g, 0, none⟩) (ks.length + 1) cp) (ks ++ [y])) (j : Nat) : W.frozen? ⟨g, j, none⟩ = false := by
 have e : ks.length + 1 = (ks ++ [y]).length := by simp
 rw [e] at h
 exact World.ownsRow.frozenAt h j
end
end Go.Proofs.Ytjllbacefbjjaaa
