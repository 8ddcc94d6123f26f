/-
  Merged for a claim: S1A, S3A.
-/
import Derived.Test.YtjllbacefbjjaaaZS0J
import Derived.Test.YtjllbacefbjjaaaZJ12
namespace Go.Proofs.Ytjllbacefbjjaaa
open Go Go.RowKit

def eSr : El (List UInt8) := ⟨9, 1, fun s => [.string (str s)], fun _ => rfl, fun x u hu => by simp at hu; subst hu; rfl, by omega⟩
def ePm : El Pm := ⟨75, 4, fun p => [.string (str p.nm), .int .u8 p.ty.kd, .int .i64 p.ty.n, .string (str p.ty.nm)], fun _ => rfl, fun x u hu => by simp at hu; rcases hu with rfl | rfl | rfl | rfl <;> rfl, by omega⟩
structure ScM where
 nm : List UInt8
 A : Option Addr
 c : Nat
 fs : List (List UInt8)
def ScM.cs (s : ScM) : List Value := [.string (str s.nm), .slice s.A s.fs.length s.c]
def ScM.d (s : ScM) : Sc := ⟨s.nm, s.fs⟩
def ScM.Ok (w : World) (P : Nat → Prop) (s : ScM) : Prop := RowP eSr w P s.A s.c s.fs
def eSc : El ScM := ⟨69, 2, ScM.cs, fun _ => rfl, fun x u hu => by simp [ScM.cs] at hu; rcases hu with rfl | rfl <;> rfl, by omega⟩
structure DcM where
 nm : List UInt8
 ln : Int
 pA : Option Addr
 pc : Nat
 ps : List Pm
 rs : Ty
 bA : Option Addr
 bc : Nat
 bd : List XS
def DcM.cs (d : DcM) : List Value := [.string (str d.nm), .int .i64 d.ln, .slice d.pA d.ps.length d.pc, .int .u8 d.rs.kd, .int .i64 d.rs.n, .string (str d.rs.nm), .slice d.bA d.bd.length d.bc]
def DcM.d (d : DcM) : Dc := ⟨d.nm, d.ln, d.ps, d.rs, xssd d.bd⟩
def DcM.Ok (w : World) (P : Nat → Prop) (d : DcM) : Prop := RowP ePm w P d.pA d.pc d.ps ∧ RowP eSt w P d.bA d.bc d.bd ∧ xssOk w P d.bd
def eDc : El DcM := ⟨48, 7, DcM.cs, fun _ => rfl, fun x u hu => by simp [DcM.cs] at hu; rcases hu with rfl | rfl | rfl | rfl | rfl | rfl | rfl <;> rfl, by omega⟩
theorem sr_info : (Try.prog.info? 9).map (fun i => (i.zero, i.size, i.bytes)) = some (some (.string ⟨#[]⟩), 1, 16) := by kernel_rfl
theorem pm_info : (Try.prog.info? 75).map (fun i => (i.zero, i.size, i.bytes)) = some (some (.agg #[.string ⟨#[]⟩, .int .u8 0, .int .i64 0, .string ⟨#[]⟩]), 4, 48) := by kernel_rfl
theorem sc_info : (Try.prog.info? 69).map (fun i => (i.zero, i.size, i.bytes)) = some (some (.agg #[.string ⟨#[]⟩, .slice none 0 0]), 2, 40) := by kernel_rfl
theorem dc_info : (Try.prog.info? 48).map (fun i => (i.zero, i.size, i.bytes)) = some (some (.agg #[.string ⟨#[]⟩, .int .i64 0, .slice none 0 0, .int .u8 0, .int .i64 0, .string ⟨#[]⟩, .slice none 0 0]), 7, 104) := by kernel_rfl
def FrT (Ts : List TypeId) (W Z : World) : Prop := ∀ k e, HasT W k e → e ∉ Ts → Z.heap[k]? = W.heap[k]?
theorem FrT.of_but {T : TypeId} {Ts : List TypeId} {W Z : World} (h : ButT T W Z) (hT : T ∈ Ts) : FrT Ts W Z := fun k e hk he => h k e hk (fun q => he (q ▸ hT))
theorem FrT.of_below {Ts : List TypeId} {W Z : World} (h : Below W.heap.size W Z) : FrT Ts W Z := fun k _ hk _ => h.block k hk.lt
theorem FrT.less {Ts Us : List TypeId} {W Z : World} (h : FrT Ts W Z) (hs : ∀ t ∈ Ts, t ∈ Us) : FrT Us W Z := fun k e hk he => h k e hk fun q => he (hs e q)
theorem ScM.Ok.keep {W Z : World} {P Q : Nat → Prop} {s : ScM} (h : s.Ok W P) (hf : ∀ g, P g → HasT W g 9 → Z.heap[g]? = W.heap[g]?) (hm : ∀ g, P g → Q g) : s.Ok Z Q := RowP.keep h hf hm
theorem DcM.Ok.keep {W Z : World} {P Q : Nat → Prop} {d : DcM} (h : d.Ok W P) (h0 : ∀ g, P g → HasT W g 75 → Z.heap[g]? = W.heap[g]?) (h1 : ∀ g, P g → HasT W g 53 → Z.heap[g]? = W.heap[g]?) (h2 : ∀ g, P g → HasT W g 51 → Z.heap[g]? = W.heap[g]?) (hm : ∀ g, P g → Q g) : d.Ok Z Q :=
 ⟨h.1.keep h0 hm, h.2.1.keep h2 hm, xssOk.keep h1 h2 hm _ h.2.2⟩
structure RwW {α : Type} (K : El α) (T : TypeId) (cs : Value → List Value) (X : World → Prop) (w : World) (gp gs : Nat) (A : Option Addr) (c : Nat) (l : List To) (vc v : Value) (xs : List α) (W : World) (u : List To) : Prop where
 p : Ps W gp A c l u
 s : CAt W gs T (cs vc)
 r : K.Own W w.heap.size v xs
 x : X W
 g : w.grownBy W (some gp)
 n : gp < w.heap.size ∧ w.heap.size ≤ gs ∧ xs.length + u.length ≤ l.length
 kx : ∀ W Z, FrT [57, T, K.e] W Z → X W → X Z
 t : T ≠ 57 ∧ K.e ≠ 57 ∧ K.e ≠ T
section
variable {α : Type} {K : El α} {T : TypeId} {cs cs' : Value → List Value} {X X' : World → Prop} {w W Z : World} {gp gs : Nat} {A : Option Addr} {c : Nat} {l u u' : List To} {vc v v9 : Value} {xs : List α} {y : α}
theorem RwW.below (h : RwW K T cs X w gp gs A c l vc v xs W u) (hb : Below W.heap.size W Z) : RwW K T cs X w gp gs A c l vc v xs Z u :=
 ⟨h.p.next hb, h.s.below hb h.s.lt, h.r.below hb, h.kx _ _ (.of_below hb) h.x, grown_trans h.g (grown_below hb _), h.n, h.kx, h.t⟩
theorem RwW.drew (h : RwW K T cs X w gp gs A c l vc v xs W u) : RwW K T cs X w gp gs A c l vc v xs W.drew u := h.below ((Below.refl _ W).drew)
theorem RwW.step (h : RwW K T cs X w gp gs A c l vc v xs W u) (hp : Ps Z gp A c l u') (hg : W.grownBy Z (some gp)) (hu : u'.length ≤ u.length) : RwW K T cs X w gp gs A c l vc v xs Z u' := by
 have hb : ButT 57 W Z := ButT.grown hg fun k e => by injection e with e; subst e; exact h.p.has
 have hn := h.n
 exact ⟨hp, (hb gs _ ⟨_, _, h.s⟩ h.t.1).trans h.s, h.r.but hb h.t.2.1, h.kx _ _ (.of_but hb (by simp)) h.x, grown_trans h.g hg, ⟨hn.1, hn.2.1, by omega⟩, h.kx, h.t⟩
theorem RwW.app (h : RwW K T cs X w gp gs A c l vc v xs W u) (hg : W.grownBy Z v.ownBlock) (ho : K.Own Z w.heap.size v9 (xs ++ [y])) (hl : xs.length + 1 + u.length ≤ l.length) (hx : X' Z) (hk : ∀ W Z, FrT [57, T, K.e] W Z → X' W → X' Z) : RwW K T cs X' w gp gs A c l vc v9 (xs ++ [y]) Z u := by
 have hb : ButT K.e W Z := ButT.grown hg fun k e => h.r.has k e
 have hn := h.n
 have hz : w.heap.size ≤ W.heap.size := h.g.size
 have hB : Below w.heap.size W Z := (Below.refl _ _).grown hg hz (fun k e => (h.r.lt k e).1)
 exact ⟨h.p.below hB hn.1, (hb gs _ ⟨_, _, h.s⟩ (fun e => h.t.2.2 e.symm)).trans h.s, ho, hx, grown_new h.g hB, ⟨hn.1, hn.2.1, by rw [List.length_append, List.length_singleton]; exact hl⟩, hk, h.t⟩
theorem RwW.frApp (h : RwW K T cs X w gp gs A c l vc v xs W u) (hg : W.grownBy Z v.ownBlock) : FrT [57, T, K.e] W Z := .of_but (ButT.grown hg fun k e => h.r.has k e) (by simp)
theorem RwW.cell (h : RwW K T cs X w gp gs A c l vc v xs W u) (j : Nat) (z vd : Value) (hs : (cs vc).set j z = cs' vd) : RwW K T cs' X w gp gs A c l vd v xs (W.setCell ⟨gs, j, none⟩ z) u := by
 have hn := h.n
 have hb : ButT T W (W.setCell ⟨gs, j, none⟩ z) := ButT.set (p := ⟨gs, j, none⟩) ⟨_, _, h.s⟩ z
 have hB : Below w.heap.size W (W.setCell ⟨gs, j, none⟩ z) := (Below.refl _ _).setCell (p := ⟨gs, j, none⟩) hn.2.1 z
 have h1 := h.s.set j z
 rw [hs] at h1
 exact ⟨h.p.below hB hn.1, h1, h.r.but hb h.t.2.2, h.kx _ _ (.of_but hb (by simp)) h.x, grown_new h.g hB, hn, h.kx, h.t⟩
theorem El.Own.rowP {B : Nat} (h : K.Own W B v xs) : ∃ A2 c2, v = .slice A2 xs.length c2 ∧ RowP K W (fun g => B ≤ g) A2 c2 xs := by
 obtain ⟨A2, c2, e2, k1, k2, k3⟩ := h.form
 refine ⟨A2, c2, e2, k3, k1, k2, fun hl d e => ?_⟩
 obtain ⟨g8, c8, e8⟩ := El.Own.at0 h hl
 have e9 := e8
 rw [e2] at e8
 injection e8 with e8
 rw [e] at e8
 injection e8 with e8
 subst e8
 exact (h.lt g8 (by rw [e9]; rfl)).1
end
end Go.Proofs.Ytjllbacefbjjaaa

namespace Go.Proofs.Ytjllbacefbjjaaa
open Go Go.RowKit

structure Sw (w : World) (gp : Nat) (A : Option Addr) (c : Nat) (l : List To) (b0 z0 : Nat) (s0 : XS) (W : World) (u : List To) (fl : Bool) : Prop where
 p : Rp W gp A c l u fl
 s : CAt W b0 51 s0.cs
 z : CAt W z0 51 zSt
 o : s0.Ok W (fun g => w.heap.size ≤ g ∧ g ≠ b0 ∧ g ≠ z0)
 g : w.grownBy W (some gp)
 n : gp < w.heap.size ∧ w.heap.size ≤ b0 ∧ w.heap.size ≤ z0 ∧ b0 ≠ z0
def RS (w : World) (gp : Nat) (A : Option Addr) (c : Nat) (l u : List To) (fl : Bool) (r : R St) (e : Ending) (w' : World) : Prop :=
 ∃ (t : XS) (u' : List To) (f' : Bool), e = .returned (sV t) ∧ Ans fl u r t.d u' f' ∧ t.Ok w' (fun g => w.heap.size ≤ g) ∧ Rp w' gp A c l u' f' ∧ w.grownBy w' (some gp)
theorem Ans.cond {α : Type} {fl f2 : Bool} {u u2 : List To} {r r1 : R α} {x : α} (h : Ans fl u r1 x u2 f2) (hr : fl = false → r = r1) : Ans fl u r x u2 f2 := by
 cases fl with
 | false => rw [hr rfl]; exact h
 | true => cases h; exact .fail _ _ _
section
variable {w W Z : World} {gp : Nat} {A : Option Addr} {c : Nat} {l u u' : List To} {fl f' : Bool} {b z : Nat} {s s' : XS}
theorem Sw.below (h : Sw w gp A c l b z s W u fl) (hb : Below W.heap.size W Z) : Sw w gp A c l b z s Z u fl :=
 ⟨h.p.next hb, h.s.below hb h.s.lt, h.z.below hb h.z.lt, h.o.below hb, grown_trans h.g (grown_below hb _), h.n⟩
theorem Sw.draws (h : Sw w gp A c l b z s W u fl) (m : Nat) : Sw w gp A c l b z s (W.drewN m) u fl := h.below (below_draws m)
theorem Sw.drew (h : Sw w gp A c l b z s W u fl) : Sw w gp A c l b z s W.drew u fl := h.below ((Below.refl _ W).drew)
theorem Sw.step (h : Sw w gp A c l b z s W u fl) (hp : Rp Z gp A c l u' f') (hg : W.grownBy Z (some gp)) : Sw w gp A c l b z s Z u' f' := by
 have hn := h.n
 have key : ∀ g, g < W.heap.size → w.heap.size ≤ g → Z.heap[g]? = W.heap[g]? := fun g h1 h2 => hg.block g h1 (fun e => by injection e with e; omega)
 exact ⟨hp, (key b h.s.lt hn.2.1).trans h.s, (key z h.z.lt hn.2.2.1).trans h.z, XS.Ok.keep (fun g q t => key g t.lt q.1) (fun g q t => key g t.lt q.1) (fun _ q => q) s h.o, grown_trans h.g hg, hn⟩
theorem Sw.set (h : Sw w gp A c l b z s W u fl) (j : Nat) (v : Value) (hs : s'.cs = s.cs.set j v) (ho : s'.Ok W (fun g => w.heap.size ≤ g ∧ g ≠ b ∧ g ≠ z)) : Sw w gp A c l b z s' (W.setCell ⟨b, j, none⟩ v) u fl := by
 have hn := h.n
 have hB : Below w.heap.size W (W.setCell ⟨b, j, none⟩ v) := (Below.refl _ W).setCell (p := ⟨b, j, none⟩) hn.2.1 v
 have key : ∀ g, g ≠ b → (W.setCell ⟨b, j, none⟩ v).heap[g]? = W.heap[g]? := fun g hg => Below.heap_setCell _ _ _ g hg
 refine ⟨h.p.below hB hn.1, ?_, (key z (fun e => hn.2.2.2 e.symm)).trans h.z, XS.Ok.keep (fun g q _ => key g q.2.1) (fun g q _ => key g q.2.1) (fun _ q => q) s' ho, grown_new h.g hB, hn⟩
 rw [hs]
 exact h.s.set j v
theorem Sw.putAll (h : Sw w gp A c l b z s W u fl) (t : XS) (ht : t.Ok W (fun g => w.heap.size ≤ g ∧ g ≠ b ∧ g ≠ z)) : Sw w gp A c l b z t (putSt W b 0 t) u fl := by
 have hn := h.n
 have hg := putSt_grown W b 0 t
 have hB : Below w.heap.size W (putSt W b 0 t) := (Below.refl _ _).grown hg h.g.size (fun k e => by injection e with e; omega)
 have key : ∀ g, g ≠ b → g < W.heap.size → (putSt W b 0 t).heap[g]? = W.heap[g]? := fun g h1 h2 => hg.block g h2 (fun e => by injection e with e; exact h1 e)
 refine ⟨h.p.below hB hn.1, ?_, (key z (fun e => hn.2.2.2 e.symm) h.z.lt).trans h.z, XS.Ok.keep (fun g q t => key g q.2.1 t.lt) (fun g q t => key g q.2.1 t.lt) (fun _ q => q) t ht, grown_new h.g hB, hn⟩
 obtain ⟨kd, ln, nm, fl, cl, ty, kA, kc, ks, bA, bc, bd, eA, ec, el⟩ := t
 obtain ⟨kd', ln', nm', fl', cl', ty', kA', kc', ks', bA', bc', bd', eA', ec', el'⟩ := s
 have h0 := h.s
 unfold putSt
 exact ((((((((((h0.set 0 _).set 1 _).set 2 _).set 3 _).set 4 _).set 5 _).set 6 _).set 7 _).set 8 _).set 9 _).set 10 _
theorem sw_end {fn : Func} {p : Tmp} {r : R St} {u0 : List To} {fl0 : Bool} (hf : fn.results = #[.cell p 51]) {tmps : Array Value} (hp : tmps.getD p undef = .pointer (some ⟨z, 0, none⟩)) (h : Sw w gp A c l b z s W u fl) {W9 : World} (hW : W9 = putSt W z 0 s) (hr : Ans fl0 u0 r s.d u fl) :
 bodyPost Try.prog fn (RS w gp A c l u0 fl0 r) .ret { tmps := tmps, defers := [] } W9 := by
 subst hW
 have hn := h.n
 have hg := putSt_grown W z 0 s
 have hB : Below w.heap.size W (putSt W z 0 s) := (Below.refl _ _).grown hg h.g.size (fun k e => by injection e with e; omega)
 have key : ∀ g, g ≠ z → g < W.heap.size → (putSt W z 0 s).heap[g]? = W.heap[g]? := fun g h1 h2 => hg.block g h2 (fun e => by injection e with e; exact h1 e)
 have hc : CAt (putSt W z 0 s) z 51 s.cs := by
  obtain ⟨kd, ln, nm, fl, cl, ty, kA, kc, ks, bA, bc, bd, eA, ec, el⟩ := s
  unfold putSt
  exact ((((((((((h.z.set 0 _).set 1 _).set 2 _).set 3 _).set 4 _).set 5 _).set 6 _).set 7 _).set 8 _).set 9 _).set 10 _
 exact bodyPost_ret (st_back hf hp hc) rfl ⟨s, u, fl, rfl, hr, XS.Ok.keep (fun g q t => key g q.2.2 t.lt) (fun g q t => key g q.2.2 t.lt) (fun _ q => q.1) s h.o, h.p.below hB hn.1, grown_new h.g hB⟩
theorem putSt_alloc {W : World} {z : Nat} (hz : z < W.heap.size) (o : Obj) (t : XS) : putSt (W.alloc o) z 0 t = (putSt W z 0 t).alloc o := by
 obtain ⟨kd, ln, nm, fl, cl, ty, kA, kc, ks, bA, bc, bd, eA, ec, el⟩ := t
 have hs : ∀ (W : World) (i : Nat) (v : Value), (W.setCell ⟨z, i, none⟩ v).heap.size = W.heap.size := fun W i v => by simp [World.setCell]
 unfold putSt
 simp only [Nat.zero_add]
 have key : ∀ (V : World) (i : Nat) (v : Value), V.heap.size = W.heap.size → (V.alloc o).setCell ⟨z, i, none⟩ v = (V.setCell ⟨z, i, none⟩ v).alloc o := fun V i v h => World.setCell_alloc_past o z i v (by rw [h]; exact hz)
 rw [key, key, key, key, key, key, key, key, key, key, key] <;> simp only [hs]
theorem sw_end_kids {fn : Func} {p : Tmp} {r : R St} {u0 : List To} {fl0 : Bool} {kd ln : Int} {nm f cl : List UInt8} {ty : Ty} {kA bA eA : Option Addr} {kc bc ec : Nat} {ks : List XT} {bd el : List XS} (hf : fn.results = #[.cell p 51]) {tmps : Array Value} (hp : tmps.getD p undef = .pointer (some ⟨z, 0, none⟩)) {X : World} {arr : Array Value}
 (h : Sw w gp A c l b z (.mk kd ln nm f cl ty kA kc ks bA bc bd eA ec el) (X.alloc (.cells arr 53)) u fl) (hz : z < X.heap.size) {W9 : World} (hW : W9 = (putSt X z 0 (.mk kd ln nm f cl ty kA kc ks bA bc bd eA ec el)).alloc (.cells arr 53)) (hr : Ans fl0 u0 r (XS.d (.mk kd ln nm f cl ty kA kc ks bA bc bd eA ec el)) u fl) :
 bodyPost Try.prog fn (RS w gp A c l u0 fl0 r) .ret { tmps := tmps, defers := [] } W9 := sw_end hf hp h (hW.trans (putSt_alloc hz _ _).symm) hr
theorem sw_end2 {fn : Func} {p : Tmp} {r : R St} {u0 : List To} {fl0 : Bool} {t : XS} (hf : fn.results = #[.cell p 51]) {tmps : Array Value} (hp : tmps.getD p undef = .pointer (some ⟨z, 0, none⟩)) (h : Sw w gp A c l b z s W u fl) (ht : t.Ok W (fun g => w.heap.size ≤ g ∧ g ≠ b ∧ g ≠ z)) {W9 : World} (hW : W9 = putSt W z 0 t) (hr : Ans fl0 u0 r t.d u fl) :
 bodyPost Try.prog fn (RS w gp A c l u0 fl0 r) .ret { tmps := tmps, defers := [] } W9 := by
 subst hW
 have hn := h.n
 have hg := putSt_grown W z 0 t
 have hB : Below w.heap.size W (putSt W z 0 t) := (Below.refl _ _).grown hg h.g.size (fun k e => by injection e with e; omega)
 have key : ∀ g, g ≠ z → g < W.heap.size → (putSt W z 0 t).heap[g]? = W.heap[g]? := fun g h1 h2 => hg.block g h2 (fun e => by injection e with e; exact h1 e)
 have hc : CAt (putSt W z 0 t) z 51 t.cs := by
  obtain ⟨kd, ln, nm, fl, cl, ty, kA, kc, ks, bA, bc, bd, eA, ec, el⟩ := t
  unfold putSt
  exact ((((((((((h.z.set 0 _).set 1 _).set 2 _).set 3 _).set 4 _).set 5 _).set 6 _).set 7 _).set 8 _).set 9 _).set 10 _
 exact bodyPost_ret (st_back hf hp hc) rfl ⟨t, u, fl, rfl, hr, XS.Ok.keep (fun g q t => key g q.2.2 t.lt) (fun g q t => key g q.2.2 t.lt) (fun _ q => q.1) t ht, h.p.below hB hn.1, grown_new h.g hB⟩
theorem Sw.is (h : Sw w gp A c l b z s W u fl) (kd : Int) (tx : List UInt8) :
 Calls Try.prog 19 #[.pointer (some ⟨gp, 0, none⟩), .int .u8 kd, .string (str tx)] W (fun e W' => e = .returned (.bool (!fl && isX kd tx u)) ∧ Sw w gp A c l b z s W' u fl) := by
 refine (ris_any h.p kd tx).mono fun e W' ⟨he, m, hm⟩ => ⟨he, ?_⟩
 rw [hm]
 exact h.draws m
theorem Sw.sign (h : Sw w gp A c l b z s W u fl) (tx : List UInt8) (hx : tx ≠ []) :
 Calls Try.prog 22 #[.pointer (some ⟨gp, 0, none⟩), .string (str tx)] W (fun e W' => e = .returned (.tuple #[]) ∧ ∃ u' f', Hid (Ans fl u (sgR 4 tx u) () u' f') ∧ Sw w gp A c l b z s W' u' f') :=
 (rsign_any h.p tx hx).mono fun _ _ ⟨he, u', f', ha, hp, hg⟩ => ⟨he, u', f', Lib.hid ha, h.step hp hg⟩
theorem Sw.name (h : Sw w gp A c l b z s W u fl) :
 Calls Try.prog 20 #[.pointer (some ⟨gp, 0, none⟩)] W (fun e W' => ∃ t u' f', e = .returned (.string (str t.tx)) ∧ Hid (Ans fl u (takeR 1 [] u) t u' f') ∧ Sw w gp A c l b z s W' u' f') :=
 (rname_any h.p).mono fun _ _ ⟨t, u', f', he, ha, hp, hg⟩ => ⟨t, u', f', he, Lib.hid ha, h.step hp hg⟩
theorem Sw.kind (h : Sw w gp A c l b z s W u fl) (mu : Bool) :
 Calls Try.prog 40 #[.pointer (some ⟨gp, 0, none⟩), .bool mu] W (fun e W' => ∃ t u' f', e = .returned (tyV t) ∧ Hid (Ans fl u (tyR mu u) t u' f') ∧ Sw w gp A c l b z s W' u' f') :=
 (rkind_any h.p mu).mono fun _ _ ⟨t, u', f', he, ha, hp, hg⟩ => ⟨t, u', f', he, Lib.hid ha, h.step hp hg⟩
theorem Sw.new_ok (h : Sw w gp A c l b z s W u fl) {g : Nat} (hg : W.heap.size ≤ g) : w.heap.size ≤ g ∧ g ≠ b ∧ g ≠ z := by
 have h1 := h.s.lt
 have h2 := h.z.lt
 have h3 := h.g.size
 omega
theorem Sw.exp (h : Sw w gp A c l b z s W u fl) :
 Calls Try.prog 74 #[.pointer (some ⟨gp, 0, none⟩), .int .i64 0] W (fun e W' => ∃ t u' f', e = .returned (xV t) ∧ Hid (Ans fl u (exP u) t.d u' f') ∧ Hid (t.Ok W' (fun g => w.heap.size ≤ g ∧ g ≠ b ∧ g ≠ z)) ∧ Sw w gp A c l b z s W' u' f') :=
 (rexp_any h.p).mono fun _ _ ⟨t, u', f', he, ha, ho, hp, hg⟩ => ⟨t, u', f', he, Lib.hid ha, Lib.hid (ho.up fun _ q => h.new_ok q), h.step hp hg⟩
theorem Sw.args (h : Sw w gp A c l b z s W u fl) :
 Calls Try.prog 81 #[.pointer (some ⟨gp, 0, none⟩)] W (fun e W' => ∃ kA kc xs u' f', e = .returned (.slice kA xs.length kc) ∧ Hid (Ans fl u (argR u) (xsd xs) u' f') ∧ Hid (RowP eX W' (fun g => w.heap.size ≤ g ∧ g ≠ b ∧ g ≠ z) kA kc xs ∧ xsOk W' (fun g => w.heap.size ≤ g ∧ g ≠ b ∧ g ≠ z) xs) ∧ Sw w gp A c l b z s W' u' f') := by
 refine (rargs_any h.p).mono fun _ _ ⟨xs, v, u', f', he, ha, hr⟩ => ?_
 obtain ⟨kA, kc, rfl, hrow⟩ := hr.r.rowP
 exact ⟨kA, kc, xs, u', f', he, Lib.hid ha, Lib.hid ⟨hrow.keep (fun _ _ _ => rfl) fun _ q => h.new_ok q, xsOk.keep (fun _ _ _ => rfl) (fun _ q => h.new_ok q.1) xs hr.k⟩, h.step hr.p hr.g⟩
theorem Sw.at_ (h : Sw w gp A c l b z s W u fl) : ∃ k : Nat, k ≤ 1000000 ∧ W.cell? ⟨gp, 1, none⟩ = some (.int .i64 k) ∧ W.frozen? ⟨gp, 1, none⟩ = false ∧ gp < W.heap.size ∧ b < W.heap.size ∧ z < W.heap.size ∧ ¬ gp = b ∧ ¬ b = gp ∧ ¬ gp = z ∧ ¬ z = gp ∧
 Hid (u ≠ [] → Sw w gp A c l b z s (W.setCell ⟨gp, 1, none⟩ (.int .i64 ((k : Int) + 1))) u.tail fl) := by
 obtain ⟨k, hk, hu, hc⟩ := h.p.k
 have hn := h.p.n
 have hlt := h.n
 have p1 := hc.cell (j := 1) (by simp)
 exact ⟨k, by omega, p1, hc.frozen 1, h.p.lt, h.s.lt, h.z.lt, by omega, by omega, by omega, by omega, Lib.hid fun hne => h.step (h.p.step p1 hne) (grown_set _ _ _ _)⟩
section
variable {kd ln k : Int} {nm f cl tx : List UInt8} {ty t : Ty} {kA bA eA : Option Addr} {kc bc ec : Nat} {ks : List XT} {bd el : List XS}
theorem Sw.kd_ (h : Sw w gp A c l b z (.mk kd ln nm f cl ty kA kc ks bA bc bd eA ec el) W u fl) (k : Int) : Sw w gp A c l b z (.mk k ln nm f cl ty kA kc ks bA bc bd eA ec el) (W.setCell ⟨b, 0, none⟩ (.int .u8 k)) u fl := h.set 0 _ rfl (by have := h.o; rw [XS.Ok] at this ⊢; exact this)
theorem Sw.nm_ (h : Sw w gp A c l b z (.mk kd ln nm f cl ty kA kc ks bA bc bd eA ec el) W u fl) (k : List UInt8) : Sw w gp A c l b z (.mk kd ln k f cl ty kA kc ks bA bc bd eA ec el) (W.setCell ⟨b, 2, none⟩ (.string (str k))) u fl := h.set 2 _ rfl (by have := h.o; rw [XS.Ok] at this ⊢; exact this)
theorem Sw.fl_ (h : Sw w gp A c l b z (.mk kd ln nm f cl ty kA kc ks bA bc bd eA ec el) W u fl) (k : List UInt8) : Sw w gp A c l b z (.mk kd ln nm k cl ty kA kc ks bA bc bd eA ec el) (W.setCell ⟨b, 3, none⟩ (.string (str k))) u fl := h.set 3 _ rfl (by have := h.o; rw [XS.Ok] at this ⊢; exact this)
theorem Sw.cl_ (h : Sw w gp A c l b z (.mk kd ln nm f cl ty kA kc ks bA bc bd eA ec el) W u fl) (k : List UInt8) : Sw w gp A c l b z (.mk kd ln nm f k ty kA kc ks bA bc bd eA ec el) (W.setCell ⟨b, 4, none⟩ (.string (str k))) u fl := h.set 4 _ rfl (by have := h.o; rw [XS.Ok] at this ⊢; exact this)
theorem Sw.ty_ (h : Sw w gp A c l b z (.mk kd ln nm f cl ty kA kc ks bA bc bd eA ec el) W u fl) (t : Ty) : Sw w gp A c l b z (.mk kd ln nm f cl t kA kc ks bA bc bd eA ec el) (((W.setCell ⟨b, 5, none⟩ (.int .u8 t.kd)).setCell ⟨b, 6, none⟩ (.int .i64 t.n)).setCell ⟨b, 7, none⟩ (.string (str t.nm))) u fl := by
 have key : ∀ {W : World} {ty t : Ty}, XS.Ok W (fun g => w.heap.size ≤ g ∧ g ≠ b ∧ g ≠ z) (.mk kd ln nm f cl ty kA kc ks bA bc bd eA ec el) → XS.Ok W (fun g => w.heap.size ≤ g ∧ g ≠ b ∧ g ≠ z) (.mk kd ln nm f cl t kA kc ks bA bc bd eA ec el) := fun q => by rw [XS.Ok] at q ⊢; exact q
 have h1 := h.set (s' := .mk kd ln nm f cl ⟨t.kd, ty.n, ty.nm⟩ kA kc ks bA bc bd eA ec el) 5 (.int .u8 t.kd) rfl (key h.o)
 have h2 := h1.set (s' := .mk kd ln nm f cl ⟨t.kd, t.n, ty.nm⟩ kA kc ks bA bc bd eA ec el) 6 (.int .i64 t.n) rfl (key h1.o)
 exact h2.set (s' := .mk kd ln nm f cl t kA kc ks bA bc bd eA ec el) 7 (.string (str t.nm)) rfl (key h2.o)
theorem Sw.ks_ (h : Sw w gp A c l b z (.mk kd ln nm f cl ty kA kc ks bA bc bd eA ec el) W u fl) {kA2 : Option Addr} {kc2 : Nat} {ks2 : List XT} (hk : RowP eX W (fun g => w.heap.size ≤ g ∧ g ≠ b ∧ g ≠ z) kA2 kc2 ks2 ∧ xsOk W (fun g => w.heap.size ≤ g ∧ g ≠ b ∧ g ≠ z) ks2) : Sw w gp A c l b z (.mk kd ln nm f cl ty kA2 kc2 ks2 bA bc bd eA ec el) (W.setCell ⟨b, 8, none⟩ (.slice kA2 ks2.length kc2)) u fl :=
 h.set 8 _ rfl (by have := h.o; rw [XS.Ok] at this ⊢; exact ⟨⟨hk.1, this.1.2⟩, hk.2, this.2.2⟩)
theorem Sw.bd_ (h : Sw w gp A c l b z (.mk kd ln nm f cl ty kA kc ks bA bc bd eA ec el) W u fl) {kA2 : Option Addr} {kc2 : Nat} {ks2 : List XS} (hk : RowP eSt W (fun g => w.heap.size ≤ g ∧ g ≠ b ∧ g ≠ z) kA2 kc2 ks2 ∧ xssOk W (fun g => w.heap.size ≤ g ∧ g ≠ b ∧ g ≠ z) ks2) : Sw w gp A c l b z (.mk kd ln nm f cl ty kA kc ks kA2 kc2 ks2 eA ec el) (W.setCell ⟨b, 9, none⟩ (.slice kA2 ks2.length kc2)) u fl :=
 h.set 9 _ rfl (by have := h.o; rw [XS.Ok] at this ⊢; exact ⟨⟨this.1.1, hk.1, this.1.2.2⟩, this.2.1, hk.2, this.2.2.2⟩)
theorem Sw.el_ (h : Sw w gp A c l b z (.mk kd ln nm f cl ty kA kc ks bA bc bd eA ec el) W u fl) {kA2 : Option Addr} {kc2 : Nat} {ks2 : List XS} (hk : RowP eSt W (fun g => w.heap.size ≤ g ∧ g ≠ b ∧ g ≠ z) kA2 kc2 ks2 ∧ xssOk W (fun g => w.heap.size ≤ g ∧ g ≠ b ∧ g ≠ z) ks2) : Sw w gp A c l b z (.mk kd ln nm f cl ty kA kc ks bA bc bd kA2 kc2 ks2) (W.setCell ⟨b, 10, none⟩ (.slice kA2 ks2.length kc2)) u fl :=
 h.set 10 _ rfl (by have := h.o; rw [XS.Ok] at this ⊢; exact ⟨⟨this.1.1, this.1.2.1, hk.1⟩, this.2.1, this.2.2.1, hk.2⟩)
theorem Sw.kids (h : Sw w gp A c l b z (.mk kd ln nm f cl ty kA kc ks bA bc bd eA ec el) W u fl) (ks2 : List XT) (hk : xsOk W (fun g => w.heap.size ≤ g ∧ g ≠ b ∧ g ≠ z) ks2) (n : Nat) (hn : n = ks2.length) (arr : Array Value) (ha : arr = (ks2.flatMap XT.cs).toArray) :
 Sw w gp A c l b z (.mk kd ln nm f cl ty (some ⟨W.heap.size, 0, none⟩) n ks2 bA bc bd eA ec el) ((W.setCell ⟨b, 8, none⟩ (.slice (some ⟨W.heap.size, 0, none⟩) n n)).alloc (.cells arr 53)) u fl := by
 subst hn ha
 have hnn := h.n
 have hnew := h.new_ok (Nat.le_refl W.heap.size)
 have hB : Below w.heap.size W (W.setCell ⟨b, 8, none⟩ (.slice (some ⟨W.heap.size, 0, none⟩) ks2.length ks2.length)) := (Below.refl _ W).setCell (p := ⟨b, 8, none⟩) hnn.2.1 _
 have key : ∀ g, g ≠ b → (W.setCell ⟨b, 8, none⟩ (.slice (some ⟨W.heap.size, 0, none⟩) ks2.length ks2.length)).heap[g]? = W.heap[g]? := fun g hg => Below.heap_setCell _ _ _ g hg
 have hs : (W.setCell ⟨b, 8, none⟩ (.slice (some ⟨W.heap.size, 0, none⟩) ks2.length ks2.length)).heap.size = W.heap.size := by simp [World.setCell]
 have hc := h.s.set 8 (.slice (some ⟨W.heap.size, 0, none⟩) ks2.length ks2.length)
 have hz := (key z (fun e => hnn.2.2.2 e.symm)).trans h.z
 have hp := h.p.below hB hnn.1
 have hg := grown_new h.g hB
 have hx := xsOk.keep (w' := W.setCell ⟨b, 8, none⟩ (.slice (some ⟨W.heap.size, 0, none⟩) ks2.length ks2.length)) (Q := fun g => w.heap.size ≤ g ∧ g ≠ b ∧ g ≠ z) (fun g q _ => key g q.2.1) (fun _ q => q) ks2 hk
 have ho := XS.Ok.keep (w' := W.setCell ⟨b, 8, none⟩ (.slice (some ⟨W.heap.size, 0, none⟩) ks2.length ks2.length)) (Q := fun g => w.heap.size ≤ g ∧ g ≠ b ∧ g ≠ z) (fun g q _ => key g q.2.1) (fun g q _ => key g q.2.1) (fun _ q => q) _ h.o
 obtain ⟨W2, hW2⟩ : ∃ W2, W.setCell ⟨b, 8, none⟩ (.slice (some ⟨W.heap.size, 0, none⟩) ks2.length ks2.length) = W2 := ⟨_, rfl⟩
 rw [hW2] at hs hc hz hp hg hx ho ⊢
 rw [← hs] at hnew
 have hm := many_ok (W := W2) (P := fun g => w.heap.size ≤ g ∧ g ≠ b ∧ g ≠ z) ks2 hx hnew 0 0 [] [] []
 have hl := below_lnew W2 (.cells (ks2.flatMap XT.cs).toArray 53)
 have ho2 := ho.below hl
 rw [XT.Ok] at hm
 rw [XS.Ok] at ho2
 rw [hs] at hm
 refine ⟨hp.next hl, CAt.below hc hl (CAt.lt hc), CAt.below hz hl (CAt.lt hz), ?_, grown_trans hg (grown_below hl _), hnn⟩
 rw [XS.Ok]
 exact ⟨⟨hm.1, ho2.1.2⟩, hm.2, ho2.2.2⟩
theorem Sw.cells (h : Sw w gp A c l b z (.mk kd ln nm f cl ty kA kc ks bA bc bd eA ec el) W u fl) :
 (W.cell? ⟨b, 0, none⟩ = some (.int .u8 kd) ∧ W.cell? ⟨b, 1, none⟩ = some (.int .i64 ln) ∧ W.cell? ⟨b, 2, none⟩ = some (.string (str nm)) ∧ W.cell? ⟨b, 3, none⟩ = some (.string (str f)) ∧ W.cell? ⟨b, 4, none⟩ = some (.string (str cl)) ∧ W.cell? ⟨b, 5, none⟩ = some (.int .u8 ty.kd) ∧ W.cell? ⟨b, 6, none⟩ = some (.int .i64 ty.n) ∧ W.cell? ⟨b, 7, none⟩ = some (.string (str ty.nm)) ∧ W.cell? ⟨b, 8, none⟩ = some (.slice kA ks.length kc) ∧ W.cell? ⟨b, 9, none⟩ = some (.slice bA bd.length bc) ∧ W.cell? ⟨b, 10, none⟩ = some (.slice eA el.length ec)) ∧
 (W.frozen? ⟨b, 0, none⟩ = false ∧ W.frozen? ⟨b, 1, none⟩ = false ∧ W.frozen? ⟨b, 2, none⟩ = false ∧ W.frozen? ⟨b, 3, none⟩ = false ∧ W.frozen? ⟨b, 4, none⟩ = false ∧ W.frozen? ⟨b, 5, none⟩ = false ∧ W.frozen? ⟨b, 6, none⟩ = false ∧ W.frozen? ⟨b, 7, none⟩ = false ∧ W.frozen? ⟨b, 8, none⟩ = false ∧ W.frozen? ⟨b, 9, none⟩ = false ∧ W.frozen? ⟨b, 10, none⟩ = false) :=
 ⟨⟨h.s.cell (j := 0) (by simp [XS.cs]), h.s.cell (j := 1) (by simp [XS.cs]), h.s.cell (j := 2) (by simp [XS.cs]), h.s.cell (j := 3) (by simp [XS.cs]), h.s.cell (j := 4) (by simp [XS.cs]), h.s.cell (j := 5) (by simp [XS.cs]), h.s.cell (j := 6) (by simp [XS.cs]), h.s.cell (j := 7) (by simp [XS.cs]), h.s.cell (j := 8) (by simp [XS.cs]), h.s.cell (j := 9) (by simp [XS.cs]), h.s.cell (j := 10) (by simp [XS.cs])⟩,
  ⟨h.s.frozen 0, h.s.frozen 1, h.s.frozen 2, h.s.frozen 3, h.s.frozen 4, h.s.frozen 5, h.s.frozen 6, h.s.frozen 7, h.s.frozen 8, h.s.frozen 9, h.s.frozen 10⟩⟩
end
theorem Sw.zeros (h : Sw w gp A c l b z s W u fl) :
 (W.cell? ⟨z, 0, none⟩ = some (.int .u8 0) ∧ W.cell? ⟨z, 1, none⟩ = some (.int .i64 0) ∧ W.cell? ⟨z, 2, none⟩ = some (.string ⟨#[]⟩) ∧ W.cell? ⟨z, 3, none⟩ = some (.string ⟨#[]⟩) ∧ W.cell? ⟨z, 4, none⟩ = some (.string ⟨#[]⟩) ∧ W.cell? ⟨z, 5, none⟩ = some (.int .u8 0) ∧ W.cell? ⟨z, 6, none⟩ = some (.int .i64 0) ∧ W.cell? ⟨z, 7, none⟩ = some (.string ⟨#[]⟩) ∧ W.cell? ⟨z, 8, none⟩ = some (.slice none 0 0) ∧ W.cell? ⟨z, 9, none⟩ = some (.slice none 0 0) ∧ W.cell? ⟨z, 10, none⟩ = some (.slice none 0 0)) ∧
 (W.frozen? ⟨z, 0, none⟩ = false ∧ W.frozen? ⟨z, 1, none⟩ = false ∧ W.frozen? ⟨z, 2, none⟩ = false ∧ W.frozen? ⟨z, 3, none⟩ = false ∧ W.frozen? ⟨z, 4, none⟩ = false ∧ W.frozen? ⟨z, 5, none⟩ = false ∧ W.frozen? ⟨z, 6, none⟩ = false ∧ W.frozen? ⟨z, 7, none⟩ = false ∧ W.frozen? ⟨z, 8, none⟩ = false ∧ W.frozen? ⟨z, 9, none⟩ = false ∧ W.frozen? ⟨z, 10, none⟩ = false) :=
 ⟨⟨h.z.cell (j := 0) (by simp [zSt]), h.z.cell (j := 1) (by simp [zSt]), h.z.cell (j := 2) (by simp [zSt]), h.z.cell (j := 3) (by simp [zSt]), h.z.cell (j := 4) (by simp [zSt]), h.z.cell (j := 5) (by simp [zSt]), h.z.cell (j := 6) (by simp [zSt]), h.z.cell (j := 7) (by simp [zSt]), h.z.cell (j := 8) (by simp [zSt]), h.z.cell (j := 9) (by simp [zSt]), h.z.cell (j := 10) (by simp [zSt])⟩,
  ⟨h.z.frozen 0, h.z.frozen 1, h.z.frozen 2, h.z.frozen 3, h.z.frozen 4, h.z.frozen 5, h.z.frozen 6, h.z.frozen 7, h.z.frozen 8, h.z.frozen 9, h.z.frozen 10⟩⟩
theorem Sw.new1 (h : Rp w gp A c l u fl) (ln : Int) (nm : List UInt8) : Sw w gp A c l w.heap.size (w.heap.size + 1) (.mk 0 ln nm [] [] ty0 none 0 [] none 0 [] none 0 []) ((w.alloc (.cells (XS.cs (.mk 0 ln nm [] [] ty0 none 0 [] none 0 [] none 0 [])).toArray 51)).alloc (.cells zSt.toArray 51)) u fl := by
 have b1 := below_lnew w (.cells (XS.cs (.mk 0 ln nm [] [] ty0 none 0 [] none 0 [] none 0 [])).toArray 51)
 have c1 : CAt (w.alloc (.cells (XS.cs (.mk 0 ln nm [] [] ty0 none 0 [] none 0 [] none 0 [])).toArray 51)) w.heap.size 51 (XS.cs (.mk 0 ln nm [] [] ty0 none 0 [] none 0 [] none 0 [])) := heap_alloc_new w _
 have s1 : (w.alloc (.cells (XS.cs (.mk 0 ln nm [] [] ty0 none 0 [] none 0 [] none 0 [])).toArray 51)).heap.size = w.heap.size + 1 := by rw [World.size_alloc]
 obtain ⟨W1, h1⟩ : ∃ W1, w.alloc (.cells (XS.cs (.mk 0 ln nm [] [] ty0 none 0 [] none 0 [] none 0 [])).toArray 51) = W1 := ⟨_, rfl⟩
 rw [h1] at b1 c1 s1 ⊢
 have b2 := below_lnew W1 (.cells zSt.toArray 51)
 have c2 : CAt (W1.alloc (.cells zSt.toArray 51)) W1.heap.size 51 zSt := heap_alloc_new W1 _
 rw [s1] at c2
 have hgp := h.lt
 refine ⟨(h.next b1).next b2, CAt.below c1 b2 (CAt.lt c1), c2, ?_, grown_trans (grown_below b1 _) (grown_below b2 _), ⟨hgp, Nat.le_refl _, by omega, by omega⟩⟩
 rw [XS.Ok, xsOk, xssOk]
 exact ⟨⟨⟨El.LiesT.nil _ _, Nat.le_refl _, fun _ => rfl, fun hl => absurd hl (by simp)⟩, ⟨El.LiesT.nil _ _, Nat.le_refl _, fun _ => rfl, fun hl => absurd hl (by simp)⟩, ⟨El.LiesT.nil _ _, Nat.le_refl _, fun _ => rfl, fun hl => absurd hl (by simp)⟩⟩, trivial, trivial, trivial⟩
theorem Sw.new2 (h : Rw w gp A c l 51 zSt W u fl) (ln : Int) : Sw w gp A c l W.heap.size w.heap.size (.mk 0 ln [] [] [] ty0 none 0 [] none 0 [] none 0 []) (W.alloc (.cells (XS.cs (.mk 0 ln [] [] [] ty0 none 0 [] none 0 [] none 0 [])).toArray 51)) u fl := by
 have b1 := below_lnew W (.cells (XS.cs (.mk 0 ln [] [] [] ty0 none 0 [] none 0 [] none 0 [])).toArray 51)
 have hz := h.z.lt
 refine ⟨h.p.next b1, heap_alloc_new W _, h.z.below b1 h.z.lt, ?_, grown_trans h.g (grown_below b1 _), ⟨h.n, by omega, Nat.le_refl _, by omega⟩⟩
 rw [XS.Ok, xsOk, xssOk]
 exact ⟨⟨⟨El.LiesT.nil _ _, Nat.le_refl _, fun _ => rfl, fun hl => absurd hl (by simp)⟩, ⟨El.LiesT.nil _ _, Nat.le_refl _, fun _ => rfl, fun hl => absurd hl (by simp)⟩, ⟨El.LiesT.nil _ _, Nat.le_refl _, fun _ => rfl, fun hl => absurd hl (by simp)⟩⟩, trivial, trivial, trivial⟩
end
end Go.Proofs.Ytjllbacefbjjaaa
