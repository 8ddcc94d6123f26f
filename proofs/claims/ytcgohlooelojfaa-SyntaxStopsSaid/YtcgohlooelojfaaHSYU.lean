/-
  Merged for a claim: SYU.
-/
import Derived.Test.YtcgohlooelojfaaHJ7
namespace Go.Proofs.Ytcgohlooelojfaa
open Go Go.RowKit

theorem El.Own.at0 {α : Type} {K : El α} {w : World} {B : Nat} {v : Value} {xs : List α} (h : K.Own w B v xs) (hn : 0 < xs.length) : ∃ g c, v = .slice (some ⟨g, 0, none⟩) xs.length c := by
  rcases h.2 with ⟨_, h0⟩ | ⟨g, cap, _, e, _⟩
  · omega
  · exact ⟨g, cap, e⟩
structure SF where
  kd : Int
  ln : Int
  nm : List UInt8
  fl : List UInt8
  cl : List UInt8
  ty : Ty
def SF.cs (s : SF) (v : Value) : List Value := [.int .u8 s.kd, .int .i64 s.ln, .string (str s.nm), .string (str s.fl), .string (str s.cl), .int .u8 s.ty.kd, .int .i64 s.ty.n, .string (str s.ty.nm), v, .slice none 0 0, .slice none 0 0]
/-- blocks of other types are as they were -/
def FrS (w W : World) : Prop := ∀ k e, HasT w k e → e ≠ 59 → e ≠ 53 → e ≠ 55 → W.heap[k]? = w.heap[k]?
theorem FrS.refl (w : World) : FrS w w := fun _ _ _ _ _ _ => rfl
theorem FrS.trans {w W Z : World} (h : FrS w W) (h2 : FrS W Z) : FrS w Z := fun k e hk h1 h3 h4 => (h2 k e (hk.same (h k e hk h1 h3 h4)) h1 h3 h4).trans (h k e hk h1 h3 h4)
theorem FrS.of_below {w W : World} (hb : Below w.heap.size w W) : FrS w W := fun k _ hk _ _ _ => hb.block k hk.lt
theorem FrS.below {w W Z : World} (h : FrS w W) (hb : Below W.heap.size W Z) : FrS w Z := h.trans (.of_below hb)
theorem FrS.of_but {T : TypeId} {w W : World} (hb : ButT T w W) (hT : T = 59 ∨ T = 53 ∨ T = 55) : FrS w W := fun k e hk h1 h2 h3 => hb k e hk (by rcases hT with rfl | rfl | rfl <;> assumption)
theorem FrS.but {T : TypeId} {w W Z : World} (h : FrS w W) (hb : ButT T W Z) (hT : T = 59 ∨ T = 53 ∨ T = 55) : FrS w Z := h.trans (.of_but hb hT)
/-- the parser, the statement in its block, its expressions in blocks behind it -/
structure SmZ (w wf : World) (gp gs : Nat) (A : Option Addr) (c : Nat) (l : List To) (s : SF) (vc : Value) (rows xs : List XT) (v : Value) (W : World) (u : List To) : Prop where
  p : Ps W gp A c l u
  s : CAt W gs 53 (s.cs vc)
  r : eX.Own W (gs + 1) v rows
  k : xsOk W (fun g => gs < g ∧ v.ownBlock ≠ some g) xs
  g : w.grownBy W (some gp)
  n : gp < w.heap.size ∧ w.heap.size ≤ gs ∧ xs.length + u.length ≤ l.length
  f : FrS wf W
def SmW (w wf : World) (gp gs : Nat) (A : Option Addr) (c : Nat) (l : List To) (s : SF) (ks : List XT) (v : Value) (W : World) (u : List To) : Prop := SmZ w wf gp gs A c l s v ks ks v W u
section
variable {w wf W Z : World} {gp gs : Nat} {A : Option Addr} {c : Nat} {l u u' : List To} {s : SF} {vc v v9 : Value} {rows xs ks : List XT} {x : XT}
theorem Ps.ulen (h : Ps W gp A c l u) : u.length ≤ l.length := by
  obtain ⟨k, _, rfl, _⟩ := h.k
  simp
theorem SmZ.below (h : SmZ w wf gp gs A c l s vc rows xs v W u) (hb : Below W.heap.size W Z) : SmZ w wf gp gs A c l s vc rows xs v Z u :=
  ⟨h.p.next hb, h.s.below hb h.s.lt, h.r.below hb, xsOk.keep (fun g _ hg => hb.block g hg.lt) (fun _ q => q) xs h.k, grown_trans h.g (grown_below hb _), h.n, h.f.below hb⟩
theorem SmZ.drew (h : SmZ w wf gp gs A c l s vc rows xs v W u) : SmZ w wf gp gs A c l s vc rows xs v W.drew u := h.below ((Below.refl _ W).drew)
theorem SmZ.step (h : SmZ w wf gp gs A c l s vc rows xs v W u) (hp : Ps Z gp A c l u') (hg : W.grownBy Z (some gp)) (hu : u'.length ≤ u.length) : SmZ w wf gp gs A c l s vc rows xs v Z u' := by
  have hb : ButT 59 W Z := ButT.grown hg fun k e => by injection e with e; subst e; exact h.p.has
  have hn := h.n
  exact ⟨hp, (hb gs _ ⟨_, _, h.s⟩ (by decide)).trans h.s, h.r.but hb (by decide), xsOk.keep (fun g _ ht => hb g _ ht (by decide)) (fun _ q => q) xs h.k, grown_trans h.g hg, ⟨hn.1, hn.2.1, by omega⟩, h.f.but hb (.inl rfl)⟩
/-- a row of expressions grew by one, and there is one more -/
theorem SmZ.add (h : SmZ w wf gp gs A c l s v ks ks v W u) (hx : x.Ok W (fun g => gs < g ∧ v.ownBlock ≠ some g)) (hl : ks.length + 1 + u.length ≤ l.length) (hg : W.grownBy Z v.ownBlock) (ho : eX.Own Z (gs + 1) v9 rows) (hk : ∀ k, v9.ownBlock = some k → v.ownBlock = some k ∨ W.heap.size ≤ k) : SmZ w wf gp gs A c l s v rows (ks ++ [x]) v9 Z u := by
  have hn := h.n
  have hb : ButT 55 W Z := ButT.grown hg fun k e => h.r.has k e
  have hB : Below w.heap.size W Z := (Below.refl _ _).grown hg (Nat.le_trans hn.2.1 (Nat.le_of_lt h.s.lt)) (fun k e => Nat.le_trans (Nat.le_succ_of_le hn.2.1) (h.r.lt k e).1)
  have key : ∀ y : XT, y.Ok W (fun g => gs < g ∧ v.ownBlock ≠ some g) → y.Ok Z (fun g => gs < g ∧ v9.ownBlock ≠ some g) := fun y hy => by
    refine XT.Ok.keep (P := fun g => (gs < g ∧ v.ownBlock ≠ some g) ∧ g < W.heap.size) (fun g q hg' => hg.block g hg'.lt (fun e => q.1.2 e.symm)) (fun g q => ⟨q.1.1, fun e => ?_⟩) y (XT.Ok.low y hy)
    rcases hk g e with e2 | e2
    · exact q.1.2 e2
    · have := q.2
      omega
  refine ⟨h.p.below hB hn.1, (hb gs _ ⟨_, _, h.s⟩ (by decide)).trans h.s, ho, xsOk.of fun y hy => ?_, grown_new h.g hB, ⟨hn.1, hn.2.1, by rw [List.length_append, List.length_singleton]; omega⟩, h.f.but hb (.inr (.inr rfl))⟩
  rcases List.mem_append.1 hy with hy | hy
  · exact key y (xsOk.all h.k y hy)
  · rw [List.mem_singleton.1 hy]
    exact key x hx
theorem SmZ.setK (h : SmZ w wf gp gs A c l s vc rows xs v W u) : SmZ w wf gp gs A c l s v rows xs v (W.setCell ⟨gs, 8, none⟩ v) u := by
  have hn := h.n
  have hb : ButT 53 W (W.setCell ⟨gs, 8, none⟩ v) := ButT.set (p := ⟨gs, 8, none⟩) ⟨_, _, h.s⟩ v
  have hB : Below w.heap.size W (W.setCell ⟨gs, 8, none⟩ v) := (Below.refl _ _).setCell (p := ⟨gs, 8, none⟩) hn.2.1 v
  exact ⟨h.p.below hB hn.1, h.s.set 8 v, h.r.but hb (by decide), xsOk.keep (fun g _ ht => hb g _ ht (by decide)) (fun _ q => q) xs h.k, grown_new h.g hB, hn, h.f.but hb (.inr (.inl rfl))⟩
/-- an expression stored at a place of a row -/
def putX (W : World) (g o : Nat) : XT → World
  | .mk kd nu nm fl op A c ks => (((((W.setCell ⟨g, o, none⟩ (.int .u8 kd)).setCell ⟨g, o + 1, none⟩ (.int .i64 nu)).setCell ⟨g, o + 2, none⟩ (.string (str nm))).setCell ⟨g, o + 3, none⟩ (.string (str fl))).setCell ⟨g, o + 4, none⟩ (.string (str op))).setCell ⟨g, o + 5, none⟩ (.slice A ks.length c)
theorem putX_own {B g cp : Nat} {y : XT} (h : eX.Own W B (.slice (some ⟨g, 0, none⟩) (ks ++ [y]).length cp) (ks ++ [y])) (x : XT) : eX.Own (putX W g (ks.length * 6) x) B (.slice (some ⟨g, 0, none⟩) (ks ++ [x]).length cp) (ks ++ [x]) := by
  have e : (ks ++ [x]).length = (ks ++ [y]).length := by simp
  rw [e]
  have hf : (ks.flatMap eX.f).length = ks.length * 6 := El.flat_len eX ks
  obtain ⟨kd, nu, nm, fl, op, A, c, ks2⟩ := x
  obtain ⟨kd', nu', nm', fl', op', A', c', ks'⟩ := y
  have h1 := ((((((World.ownsRow.stored h (ks.length * 6) (.int .u8 kd)).1.stored (ks.length * 6 + 1) (.int .i64 nu)).1.stored (ks.length * 6 + 2) (.string (str nm))).1.stored (ks.length * 6 + 3) (.string (str fl))).1.stored (ks.length * 6 + 4) (.string (str op))).1.stored (ks.length * 6 + 5) (.slice A ks2.length c)).1
  have hl : (((((((ks ++ [XT.mk kd' nu' nm' fl' op' A' c' ks']).flatMap eX.f).set (ks.length * 6) (.int .u8 kd)).set (ks.length * 6 + 1) (.int .i64 nu)).set (ks.length * 6 + 2) (.string (str nm))).set (ks.length * 6 + 3) (.string (str fl))).set (ks.length * 6 + 4) (.string (str op))).set (ks.length * 6 + 5) (.slice A ks2.length c) = (ks ++ [XT.mk kd nu nm fl op A c ks2]).flatMap eX.f := by
    rw [List.flatMap_append, List.flatMap_append]
    have hs : ∀ (a : List Value) (n : Nat) (v : Value), (ks.flatMap eX.f ++ a).set (ks.length * 6 + n) v = ks.flatMap eX.f ++ a.set n v := fun a n v => by
      rw [List.set_append_right _ _ (by rw [hf]; omega), hf, Nat.add_sub_cancel_left]
    have hs0 := fun a v => hs a 0 v
    simp only [Nat.add_zero] at hs0
    rw [hs0, hs, hs, hs, hs, hs]
    rfl
  rw [hl] at h1
  show (putX W g (ks.length * 6) _).ownsRow B eX.e eX.sz _ (ks ++ [_]).length ((ks ++ [_]).flatMap eX.f)
  rw [e]
  exact h1
theorem putX_heap (g o : Nat) (x : XT) {k : Nat} (hk : k ≠ g) : (putX W g o x).heap[k]? = W.heap[k]? := by
  obtain ⟨kd, nu, nm, fl, op, A, c, ks2⟩ := x
  unfold putX
  rw [Below.heap_setCell _ _ _ k hk, Below.heap_setCell _ _ _ k hk, Below.heap_setCell _ _ _ k hk, Below.heap_setCell _ _ _ k hk, Below.heap_setCell _ _ _ k hk, Below.heap_setCell _ _ _ k hk]
theorem putX_below {B g : Nat} (o : Nat) (x : XT) (hg : B ≤ g) : Below B W (putX W g o x) := by
  obtain ⟨kd, nu, nm, fl, op, A, c, ks2⟩ := x
  exact ((((((Below.refl B W).setCell (p := ⟨g, o, none⟩) hg _).setCell (p := ⟨g, o + 1, none⟩) hg _).setCell (p := ⟨g, o + 2, none⟩) hg _).setCell (p := ⟨g, o + 3, none⟩) hg _).setCell (p := ⟨g, o + 4, none⟩) hg _).setCell (p := ⟨g, o + 5, none⟩) hg _
theorem SmZ.putX {g cp : Nat} {y : XT} (h : SmZ w wf gp gs A c l s vc (ks ++ [y]) xs (.slice (some ⟨g, 0, none⟩) (ks ++ [y]).length cp) W u) (x : XT) : SmZ w wf gp gs A c l s vc (ks ++ [x]) xs (.slice (some ⟨g, 0, none⟩) (ks ++ [y]).length cp) (putX W g (ks.length * 6) x) u := by
  have hn := h.n
  have hg1 := (h.r.lt g rfl).1
  have hB : Below w.heap.size W (Go.Proofs.Ytcgohlooelojfaa.putX W g (ks.length * 6) x) := putX_below _ x (by omega)
  have ho := putX_own h.r x
  have e : (ks ++ [x]).length = (ks ++ [y]).length := by simp
  rw [e] at ho
  have hbt : ButT 55 W (Go.Proofs.Ytcgohlooelojfaa.putX W g (ks.length * 6) x) := fun k e hk he => putX_heap _ _ x (fun q => by subst q; exact he (hk.one (h.r.has _ rfl)))
  exact ⟨h.p.below hB hn.1, (putX_heap _ _ x (by omega)).trans h.s, ho, xsOk.keep (fun k q _ => putX_heap _ _ x (fun e => q.2 (by subst e; rfl))) (fun _ q => q) xs h.k, grown_new h.g hB, hn, h.f.but hbt (.inr (.inr rfl))⟩
/-- the place for one more -/
theorem putX_at {B g cp : Nat} {y : XT} (h : eX.Own W B (.slice (some ⟨g, 0, none⟩) (ks ++ [y]).length cp) (ks ++ [y])) {f : Nat} {z : Value} (hz : y.cs[f]? = some z) : W.cell? ⟨g, ks.length * 6 + f, none⟩ = some z := by
  have hf : f < 6 := by
    have := (List.getElem?_eq_some_iff.1 hz).1
    rwa [show y.cs.length = 6 from eX.len y] at this
  have h1 := World.ownsRow.cellAt h (ks.length * 6 + f) (by rw [List.length_append, List.length_singleton]; show _ < (ks.length + 1) * 6; omega)
  rw [h1]
  refine (El.flat_get eX (ks ++ [y]) ks.length f (by simp) hf).trans ?_
  have hz2 : (eX.f y)[f]? = some z := hz
  simpa using hz2
theorem SmZ.putX1 {g cp : Nat} {y : XT} (h : SmZ w wf gp gs A c l s vc (ks ++ [y]) xs (.slice (some ⟨g, 0, none⟩) (ks.length + 1) cp) W u) (x : XT) : SmZ w wf gp gs A c l s vc (ks ++ [x]) xs (.slice (some ⟨g, 0, none⟩) (ks.length + 1) cp) (Go.Proofs.Ytcgohlooelojfaa.putX W g (ks.length * 6) x) u := by
  have e : ks.length + 1 = (ks ++ [y]).length := by simp
  rw [e] at h ⊢
  exact h.putX x
theorem putX_at1 {B g cp : Nat} {y : XT} (h : eX.Own W B (.slice (some ⟨g, 0, none⟩) (ks.length + 1) cp) (ks ++ [y])) {f : Nat} {z : Value} (hz : y.cs[f]? = some z) : W.cell? ⟨g, ks.length * 6 + f, none⟩ = some z := by
  have e : ks.length + 1 = (ks ++ [y]).length := by simp
  rw [e] at h
  exact putX_at h hz
theorem putX_frozen1 {B g cp : Nat} {y : XT} (h : eX.Own W B (.slice (some ⟨g, 0, none⟩) (ks.length + 1) cp) (ks ++ [y])) (j : Nat) : W.frozen? ⟨g, j, none⟩ = false := by
  have e : ks.length + 1 = (ks ++ [y]).length := by simp
  rw [e] at h
  exact World.ownsRow.frozenAt h j
end
end Go.Proofs.Ytcgohlooelojfaa
