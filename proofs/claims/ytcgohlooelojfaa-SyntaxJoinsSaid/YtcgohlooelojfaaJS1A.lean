/-
  Merged for a claim: S1A.
-/
import Derived.Test.YtcgohlooelojfaaJS0J
namespace Go.Proofs.Ytcgohlooelojfaa
open Go Go.RowKit

/-- names -/
def eSr : El (List UInt8) := ⟨9, 1, fun s => [.string (str s)], fun _ => rfl, fun x u hu => by simp at hu; subst hu; rfl, by omega⟩
def ePm : El Pm := ⟨77, 4, fun p => [.string (str p.nm), .int .u8 p.ty.kd, .int .i64 p.ty.n, .string (str p.ty.nm)], fun _ => rfl, fun x u hu => by simp at hu; rcases hu with rfl | rfl | rfl | rfl <;> rfl, by omega⟩
/-- a struct's declaration in memory -/
structure ScM where
  nm : List UInt8
  A : Option Addr
  c : Nat
  fs : List (List UInt8)
def ScM.cs (s : ScM) : List Value := [.string (str s.nm), .slice s.A s.fs.length s.c]
def ScM.d (s : ScM) : Sc := ⟨s.nm, s.fs⟩
def ScM.Ok (w : World) (P : Nat → Prop) (s : ScM) : Prop := RowP eSr w P s.A s.c s.fs
def eSc : El ScM := ⟨71, 2, ScM.cs, fun _ => rfl, fun x u hu => by simp [ScM.cs] at hu; rcases hu with rfl | rfl <;> rfl, by omega⟩
/-- a function's declaration in memory -/
structure DcM where
  nm : List UInt8
  ln : Int
  pA : Option Addr
  pc : Nat
  ps : List Pm
  rs : Ty
  bA : Option Addr
  bc : Nat
  bd : List XS
def DcM.cs (d : DcM) : List Value := [.string (str d.nm), .int .i64 d.ln, .slice d.pA d.ps.length d.pc, .int .u8 d.rs.kd, .int .i64 d.rs.n, .string (str d.rs.nm), .slice d.bA d.bd.length d.bc]
def DcM.d (d : DcM) : Dc := ⟨d.nm, d.ln, d.ps, d.rs, xssd d.bd⟩
def DcM.Ok (w : World) (P : Nat → Prop) (d : DcM) : Prop := RowP ePm w P d.pA d.pc d.ps ∧ RowP eSt w P d.bA d.bc d.bd ∧ xssOk w P d.bd
def eDc : El DcM := ⟨50, 7, DcM.cs, fun _ => rfl, fun x u hu => by simp [DcM.cs] at hu; rcases hu with rfl | rfl | rfl | rfl | rfl | rfl | rfl <;> rfl, by omega⟩
theorem sr_info : (Try.prog.info? 9).map (fun i => (i.zero, i.size, i.bytes)) = some (some (.string ⟨#[]⟩), 1, 16) := by kernel_rfl
theorem pm_info : (Try.prog.info? 77).map (fun i => (i.zero, i.size, i.bytes)) = some (some (.agg #[.string ⟨#[]⟩, .int .u8 0, .int .i64 0, .string ⟨#[]⟩]), 4, 48) := by kernel_rfl
theorem sc_info : (Try.prog.info? 71).map (fun i => (i.zero, i.size, i.bytes)) = some (some (.agg #[.string ⟨#[]⟩, .slice none 0 0]), 2, 40) := by kernel_rfl
theorem dc_info : (Try.prog.info? 50).map (fun i => (i.zero, i.size, i.bytes)) = some (some (.agg #[.string ⟨#[]⟩, .int .i64 0, .slice none 0 0, .int .u8 0, .int .i64 0, .string ⟨#[]⟩, .slice none 0 0]), 7, 104) := by kernel_rfl
/-- blocks of other types than these are as they were -/
def FrT (Ts : List TypeId) (W Z : World) : Prop := ∀ k e, HasT W k e → e ∉ Ts → Z.heap[k]? = W.heap[k]?
theorem FrT.of_but {T : TypeId} {Ts : List TypeId} {W Z : World} (h : ButT T W Z) (hT : T ∈ Ts) : FrT Ts W Z := fun k e hk he => h k e hk (fun q => he (q ▸ hT))
theorem FrT.of_below {Ts : List TypeId} {W Z : World} (h : Below W.heap.size W Z) : FrT Ts W Z := fun k _ hk _ => h.block k hk.lt
theorem FrT.less {Ts Us : List TypeId} {W Z : World} (h : FrT Ts W Z) (hs : ∀ t ∈ Ts, t ∈ Us) : FrT Us W Z := fun k e hk he => h k e hk fun q => he (hs e q)
theorem ScM.Ok.keep {W Z : World} {P Q : Nat → Prop} {s : ScM} (h : s.Ok W P) (hf : ∀ g, P g → HasT W g 9 → Z.heap[g]? = W.heap[g]?) (hm : ∀ g, P g → Q g) : s.Ok Z Q := RowP.keep h hf hm
theorem DcM.Ok.keep {W Z : World} {P Q : Nat → Prop} {d : DcM} (h : d.Ok W P) (h0 : ∀ g, P g → HasT W g 77 → Z.heap[g]? = W.heap[g]?) (h1 : ∀ g, P g → HasT W g 55 → Z.heap[g]? = W.heap[g]?) (h2 : ∀ g, P g → HasT W g 53 → Z.heap[g]? = W.heap[g]?) (hm : ∀ g, P g → Q g) : d.Ok Z Q :=
  ⟨h.1.keep h0 hm, h.2.1.keep h2 hm, xssOk.keep h1 h2 hm _ h.2.2⟩
/-- a thing in the making, in a block of its own; one of its cells is a row of the call's own -/
structure RwW {α : Type} (K : El α) (T : TypeId) (cs : Value → List Value) (X : World → Prop) (w : World) (gp gs : Nat) (A : Option Addr) (c : Nat) (l : List To) (vc v : Value) (xs : List α) (W : World) (u : List To) : Prop where
  p : Ps W gp A c l u
  s : CAt W gs T (cs vc)
  r : K.Own W w.heap.size v xs
  x : X W
  g : w.grownBy W (some gp)
  n : gp < w.heap.size ∧ w.heap.size ≤ gs ∧ xs.length + u.length ≤ l.length
  kx : ∀ W Z, FrT [59, T, K.e] W Z → X W → X Z
  t : T ≠ 59 ∧ K.e ≠ 59 ∧ K.e ≠ T
section
variable {α : Type} {K : El α} {T : TypeId} {cs cs' : Value → List Value} {X X' : World → Prop} {w W Z : World} {gp gs : Nat} {A : Option Addr} {c : Nat} {l u u' : List To} {vc v v9 : Value} {xs : List α} {y : α}
theorem RwW.below (h : RwW K T cs X w gp gs A c l vc v xs W u) (hb : Below W.heap.size W Z) : RwW K T cs X w gp gs A c l vc v xs Z u :=
  ⟨h.p.next hb, h.s.below hb h.s.lt, h.r.below hb, h.kx _ _ (.of_below hb) h.x, grown_trans h.g (grown_below hb _), h.n, h.kx, h.t⟩
theorem RwW.drew (h : RwW K T cs X w gp gs A c l vc v xs W u) : RwW K T cs X w gp gs A c l vc v xs W.drew u := h.below ((Below.refl _ W).drew)
theorem RwW.step (h : RwW K T cs X w gp gs A c l vc v xs W u) (hp : Ps Z gp A c l u') (hg : W.grownBy Z (some gp)) (hu : u'.length ≤ u.length) : RwW K T cs X w gp gs A c l vc v xs Z u' := by
  have hb : ButT 59 W Z := ButT.grown hg fun k e => by injection e with e; subst e; exact h.p.has
  have hn := h.n
  exact ⟨hp, (hb gs _ ⟨_, _, h.s⟩ h.t.1).trans h.s, h.r.but hb h.t.2.1, h.kx _ _ (.of_but hb (by simp)) h.x, grown_trans h.g hg, ⟨hn.1, hn.2.1, by omega⟩, h.kx, h.t⟩
/-- the row is one longer, and its last thing lies where it should -/
theorem RwW.app (h : RwW K T cs X w gp gs A c l vc v xs W u) (hg : W.grownBy Z v.ownBlock) (ho : K.Own Z w.heap.size v9 (xs ++ [y])) (hl : xs.length + 1 + u.length ≤ l.length) (hx : X' Z) (hk : ∀ W Z, FrT [59, T, K.e] W Z → X' W → X' Z) : RwW K T cs X' w gp gs A c l vc v9 (xs ++ [y]) Z u := by
  have hb : ButT K.e W Z := ButT.grown hg fun k e => h.r.has k e
  have hn := h.n
  have hz : w.heap.size ≤ W.heap.size := h.g.size
  have hB : Below w.heap.size W Z := (Below.refl _ _).grown hg hz (fun k e => (h.r.lt k e).1)
  exact ⟨h.p.below hB hn.1, (hb gs _ ⟨_, _, h.s⟩ (fun e => h.t.2.2 e.symm)).trans h.s, ho, hx, grown_new h.g hB, ⟨hn.1, hn.2.1, by rw [List.length_append, List.length_singleton]; exact hl⟩, hk, h.t⟩
theorem RwW.frApp (h : RwW K T cs X w gp gs A c l vc v xs W u) (hg : W.grownBy Z v.ownBlock) : FrT [59, T, K.e] W Z := .of_but (ButT.grown hg fun k e => h.r.has k e) (by simp)
/-- a cell of it is set -/
theorem RwW.cell (h : RwW K T cs X w gp gs A c l vc v xs W u) (j : Nat) (z vd : Value) (hs : (cs vc).set j z = cs' vd) : RwW K T cs' X w gp gs A c l vd v xs (W.setCell ⟨gs, j, none⟩ z) u := by
  have hn := h.n
  have hb : ButT T W (W.setCell ⟨gs, j, none⟩ z) := ButT.set (p := ⟨gs, j, none⟩) ⟨_, _, h.s⟩ z
  have hB : Below w.heap.size W (W.setCell ⟨gs, j, none⟩ z) := (Below.refl _ _).setCell (p := ⟨gs, j, none⟩) hn.2.1 z
  have h1 := h.s.set j z
  rw [hs] at h1
  exact ⟨h.p.below hB hn.1, h1, h.r.but hb h.t.2.2, h.kx _ _ (.of_but hb (by simp)) h.x, grown_new h.g hB, hn, h.kx, h.t⟩
theorem El.Own.rowP {B : Nat} (h : K.Own W B v xs) : ∃ A2 c2, v = .slice A2 xs.length c2 ∧ RowP K W (fun g => B ≤ g) A2 c2 xs := by
  obtain ⟨A2, c2, e2, k1, k2, k3⟩ := h.form
  refine ⟨A2, c2, e2, k3, k1, k2, fun hl d e => ?_⟩
  obtain ⟨g8, c8, e8⟩ := El.Own.at0 h hl
  have e9 := e8
  rw [e2] at e8
  injection e8 with e8
  rw [e] at e8
  injection e8 with e8
  subst e8
  exact (h.lt g8 (by rw [e9]; rfl)).1
end
end Go.Proofs.Ytcgohlooelojfaa
