/-
  Merged for a claim: GF, S1L, S1P.
-/
import Derived.Test.YtcgohlooelojfaaJJ0
import Derived.Test.YtcgohlooelojfaaJJ3
import Derived.Deep.Slices
import Derived.Deep.Fields
import Derived.Test.YtcgohlooelojfaaJS1K
import Derived.Test.YtcgohlooelojfaaJS1O
namespace Go.Proofs.Ytcgohlooelojfaa
open Go.ChangeShapes Go.WideShapes Go.ChangeAt Go.RowKit Go.Deep

theorem str_of (s : ByteArray) : ∃ l, s = str l := ⟨s.data.toList, by cases s; simp [str]⟩
/-- a slice of things of one kind -/
theorem open_els {H : Type} {enc : TypeId × Value → H} {P : Program} {W : World} {t e : TypeId} {fuel : Nat} {cs : List Value} {x : DataW H × List MemPlace} {α : Type} (K : El α) (Q : α → Prop)
    (ht : P.underlying t = some (.slice e)) (hC : P.cellsOf e = K.sz)
    (one : ∀ fuel cs x, DataW.trod enc P W 0 (fun _ => true) true fuel e cs = some x → ∃ y, cs = K.f y ∧ Q y)
    (h : DataW.trod enc P W 0 (fun _ => true) true fuel t cs = some x) :
    ∃ (A : Option Addr) (c : Nat) (xs : List α), cs = [.slice A xs.length c] ∧ xs.length ≤ c ∧ (A = none → c = 0) ∧ K.Lies W W.heap.size A xs ∧ ∀ x ∈ xs, Q x := by
  rcases open_slice ht h with ⟨hcs, _⟩ | ⟨a, len, cap, m, n, D, Pl, hcs, _, hl, _, hm, _, hel⟩
  · exact ⟨none, 0, [], hcs, Nat.le_refl _, fun _ => rfl, El.Lies.nil _ _ _, fun x hx => absurd hx (by simp)⟩
  · simp only [if_true] at hm
    subst hm
    have each : ∀ i, i < len → ∃ y : α, Q y ∧ ∀ f u, (K.f y)[f]? = some u → W.cell? (a.add (i * K.sz + f)) = some u := fun i hi => by
      obtain ⟨cs', hc, htr⟩ := hel i (by omega)
      obtain ⟨y, rfl, hy⟩ := one _ _ _ htr
      obtain ⟨_, hcl, hat⟩ := World.cells?_some hc
      refine ⟨y, hy, fun f u hu => ?_⟩
      have hf5 : f < K.sz := by have := (List.getElem?_eq_some_iff.1 hu).1; simpa [K.len] using this
      have := hat f (by rw [hC]; exact hf5)
      rw [hu, hC, add_add] at this
      exact this
    have hlist : ∀ k, k ≤ len → ∃ xs : List α, xs.length = k ∧ (∀ x ∈ xs, Q x) ∧ ∀ j (hj : j < xs.length) f u, (K.f xs[j])[f]? = some u → W.cell? (a.add (j * K.sz + f)) = some u := by
      intro k
      induction k with
      | zero => intro _; exact ⟨[], rfl, fun x hx => absurd hx (by simp), fun j hj => absurd hj (by simp)⟩
      | succ k ih =>
        intro hk
        obtain ⟨xs, hx, hr, hall⟩ := ih (by omega)
        obtain ⟨y, hyr, hy⟩ := each k (by omega)
        refine ⟨xs ++ [y], by simp [hx], fun x hx => ?_, fun j hj f u hu => ?_⟩
        · rcases List.mem_append.1 hx with h | h
          · exact hr x h
          · simp at h; subst h; exact hyr
        · by_cases hjk : j < xs.length
          · rw [List.getElem_append_left hjk] at hu
            exact hall j hjk f u hu
          · have : j = xs.length := by simp at hj; omega
            subst this
            simp at hu
            rw [hx]
            exact hy f u hu
    obtain ⟨xs, hx, hr, hall⟩ := hlist len (Nat.le_refl _)
    subst hx
    refine ⟨some a, _, xs, hcs, hl, fun h => (by cases h), fun hp => ?_, hr⟩
    obtain ⟨v0, hv0⟩ : ∃ v0, (K.f xs[0])[0]? = some v0 := ⟨_, List.getElem?_eq_getElem (l := K.f (xs[0]'hp)) (by rw [K.len]; exact K.pos)⟩
    have h0 := hall 0 hp 0 _ hv0
    obtain ⟨b, off, spot⟩ := a
    have hspot : spot = none := by simpa [Addr.add] using World.cell?_spot h0
    subst hspot
    refine ⟨b, off, rfl, ?_, fun j hj f u hu => ?_⟩
    · have := World.block_lt_of_cell? W _ h0
      simpa [Addr.add] using this
    · have := hall j hj f u hu
      rw [add_zero_off] at this
      exact this

section
variable {H : Type} {enc : TypeId × Value → H} {P : Program} {W : World} {base : Nat}
theorem tok_cells {s : TypeId} {f0 f1 f2 f3 : Field} {fuel : Nat} {cs : List Value} {x : DataW H × List MemPlace}
    (hs : P.underlying s = some (.struct #[f0, f1, f2, f3])) (hone : oneCellFields P #[f0, f1, f2, f3] = true) (hC : P.cellsOf s = 4)
    (t0 : P.underlying f0.type = some (.int .u8)) (t1 : P.underlying f1.type = some .string) (t2 : P.underlying f2.type = some (.int .i64)) (t3 : P.underlying f3.type = some (.int .i64))
    (h : DataW.trod enc P W 0 (fun _ => true) true fuel s cs = some x) : ∃ t : To, cs = tS t := by
  obtain ⟨ys, n, _, _, hlen, hyl, hf⟩ := DataW.trod_struct hs h
  rw [hC] at hlen
  have hsome : ∀ j, j < 4 → ∃ z, ys[j]? = some z := fun j hj => ⟨_, List.getElem?_eq_getElem (by rw [hyl]; exact hj)⟩
  match cs, hlen with
  | [v0, v1, v2, v3], _ =>
    obtain ⟨o0, k0⟩ := hone_of hone 0 f0 rfl
    have q0 := hf 0 f0 rfl
    obtain ⟨z0, e0⟩ := hsome 0 (by omega)
    rw [e0, o0, k0] at q0
    obtain ⟨a0, r0, _, _⟩ := DataW.trod_int t0 q0
    obtain ⟨o1, k1⟩ := hone_of hone 1 f1 rfl
    have q1 := hf 1 f1 rfl
    obtain ⟨z1, e1⟩ := hsome 1 (by omega)
    rw [e1, o1, k1] at q1
    obtain ⟨b, r1, _, _⟩ := DataW.trod_string t1 q1
    obtain ⟨l, rfl⟩ := str_of b
    obtain ⟨o2, k2⟩ := hone_of hone 2 f2 rfl
    have q2 := hf 2 f2 rfl
    obtain ⟨z2, e2⟩ := hsome 2 (by omega)
    rw [e2, o2, k2] at q2
    obtain ⟨a2, r2, _, _⟩ := DataW.trod_int t2 q2
    obtain ⟨o3, k3⟩ := hone_of hone 3 f3 rfl
    have q3 := hf 3 f3 rfl
    obtain ⟨z3, e3⟩ := hsome 3 (by omega)
    rw [e3, o3, k3] at q3
    obtain ⟨a3, r3, _, _⟩ := DataW.trod_int t3 q3
    simp at r0 r1 r2 r3
    exact ⟨⟨a0, l, a2, a3⟩, by unfold tS; rw [r0, r1, r2, r3]⟩
set_option maxRecDepth 100000 in
theorem open_toks {v : Value} {d : DataW H} {p : List MemPlace} (hv : Value.okWide Try.prog W .any base 22 v) (h : DataW.Trod enc Try.prog W 0 (fun _ => true) true 22 v d p) :
    ∃ (A : Option Addr) (c : Nat) (l : List To), v = .slice A l.length c ∧ l.length ≤ c ∧ (A = none → c = 0) ∧ eTo.Lies W W.heap.size A l := by
  obtain ⟨a0, len, cap, rfl⟩ := okWide_slice Try.underlying22 hv
  obtain ⟨fuel, hf⟩ := h
  obtain ⟨A, c, xs, h1, h2, h3, h4, _⟩ := open_els eTo (fun _ => True) Try.underlying22 (by kernel_rfl) (fun fuel cs x h => by
    obtain ⟨t, rfl⟩ := tok_cells Try.underlying79 (by kernel_rfl) (by kernel_rfl) (by kernel_rfl) (by kernel_rfl) (by kernel_rfl) (by kernel_rfl) h
    exact ⟨t, rfl, trivial⟩) hf
  simp [Value.cells] at h1
  obtain ⟨rfl, rfl, rfl⟩ := h1
  exact ⟨_, _, xs, rfl, h2, h3, h4⟩
end
end Go.Proofs.Ytcgohlooelojfaa

namespace Go.Proofs.Ytcgohlooelojfaa
open Go Go.RowKit

def TrueR12 (w : World) (e : Ending) (w' : World) : Prop := e = .returned (.bool true) ∧ Below w.heap.size w w'
theorem El.Lies.take {α : Type} {K : El α} {w : World} {B : Nat} {A : Option Addr} {l : List α} (h : K.Lies w B A l) (k : Nat) : K.Lies w B A (l.take k) := fun hl => by
  have h0 : 0 < l.length := by rw [List.length_take] at hl; omega
  obtain ⟨g, o, e, hg, hc⟩ := h h0
  refine ⟨g, o, e, hg, fun j hj f u hu => hc j (by rw [List.length_take] at hj; omega) f u ?_⟩
  rw [List.getElem_take] at hu
  exact hu
end Go.Proofs.Ytcgohlooelojfaa

namespace Go.Proofs.Ytcgohlooelojfaa
open Go Go.RowKit

/-- on the way: the row of structs, the row of functions, the variable; each if it is there -/
structure JnW (W0 : World) (o1 : Option (Value × List ScM)) (o2 : Option (Value × List DcM)) (o3 : Option Nat) (W : World) : Prop where
  b : Below W0.heap.size W0 W
  r1 : ∀ v xs, o1 = some (v, xs) → eSc.Own W W0.heap.size v xs
  r2 : ∀ v xs, o2 = some (v, xs) → eDc.Own W W0.heap.size v xs
  r3 : ∀ g, o3 = some g → W0.heap.size ≤ g ∧ CAt W g 27 [.slice none 0 0, .slice none 0 0]
section
variable {W0 W Z : World} {o1 : Option (Value × List ScM)} {o2 : Option (Value × List DcM)} {o3 : Option Nat} {v v' : Value} {xs xs' : List ScM} {ys ys' : List DcM} {g : Nat}
theorem JnW.new (W0 : World) : JnW W0 none none none W0 := ⟨Below.refl _ _, fun _ _ e => (by cases e), fun _ _ e => (by cases e), fun _ e => (by cases e)⟩
theorem JnW.below (h : JnW W0 o1 o2 o3 W) (hb : Below W.heap.size W Z) : JnW W0 o1 o2 o3 Z :=
  ⟨h.b.trans (hb.mono h.b.size), fun v xs e => (h.r1 v xs e).below hb, fun v xs e => (h.r2 v xs e).below hb, fun g e => ⟨(h.r3 g e).1, (h.r3 g e).2.below hb (h.r3 g e).2.lt⟩⟩
theorem JnW.drew (h : JnW W0 o1 o2 o3 W) : JnW W0 o1 o2 o3 W.drew := h.below ((Below.refl _ W).drew)
theorem JnW.build1 (h : JnW W0 o1 o2 o3 W) : JnW W0 (some (.slice (some ⟨W.heap.size, 0, none⟩) 0 0, [])) o2 o3 (W.alloc (.cells #[] 71)) := by
  have h2 := h.below (below_lnew W (.cells #[] 71))
  exact ⟨h2.b, fun v xs e => by injection e with e; injection e with e1 e2; subst e1 e2; exact (El.own_empty eSc W).base h.b.size, h2.r2, h2.r3⟩
theorem JnW.build2 (h : JnW W0 o1 o2 o3 W) : JnW W0 o1 (some (.slice (some ⟨W.heap.size, 0, none⟩) 0 0, [])) o3 (W.alloc (.cells #[] 50)) := by
  have h2 := h.below (below_lnew W (.cells #[] 50))
  exact ⟨h2.b, h2.r1, fun v xs e => by injection e with e; injection e with e1 e2; subst e1 e2; exact (El.own_empty eDc W).base h.b.size, h2.r3⟩
theorem JnW.al (h : JnW W0 o1 o2 o3 W) : JnW W0 o1 o2 (some W.heap.size) (W.alloc (.cells #[.slice none 0 0, .slice none 0 0] 27)) := by
  have h2 := h.below (below_lnew W (.cells #[.slice none 0 0, .slice none 0 0] 27))
  exact ⟨h2.b, h2.r1, h2.r2, fun g e => by injection e with e; subst e; exact ⟨h.b.size, heap_alloc_new W _⟩⟩
theorem JnW.app1 (h : JnW W0 (some (v, xs)) o2 o3 W) (ho : eSc.Own Z W0.heap.size v' xs') (hg : W.grownBy Z v.ownBlock) : JnW W0 (some (v', xs')) o2 o3 Z := by
  have hown := h.r1 _ _ rfl
  have hb : ButT 71 W Z := ButT.grown hg hown.has
  exact ⟨El.below_grown h.b hg hown h.b.size, fun v xs e => by injection e with e; injection e with e1 e2; subst e1 e2; exact ho, fun v xs e => (h.r2 v xs e).but hb (by decide), fun g e => ⟨(h.r3 g e).1, (hb g _ ⟨_, _, (h.r3 g e).2⟩ (by decide)).trans (h.r3 g e).2⟩⟩
theorem JnW.app2 (h : JnW W0 o1 (some (v, ys)) o3 W) (ho : eDc.Own Z W0.heap.size v' ys') (hg : W.grownBy Z v.ownBlock) : JnW W0 o1 (some (v', ys')) o3 Z := by
  have hown := h.r2 _ _ rfl
  have hb : ButT 50 W Z := ButT.grown hg hown.has
  exact ⟨El.below_grown h.b hg hown h.b.size, fun v xs e => (h.r1 v xs e).but hb (by decide), fun v xs e => by injection e with e; injection e with e1 e2; subst e1 e2; exact ho, fun g e => ⟨(h.r3 g e).1, (hb g _ ⟨_, _, (h.r3 g e).2⟩ (by decide)).trans (h.r3 g e).2⟩⟩
/-- what is there behind the store -/
def JnE (W0 : World) (xs : List ScM) (ys : List DcM) (g : Nat) (W : World) : Prop :=
  Below W0.heap.size W0 W ∧ ∃ A c B d, CAt W g 27 [.slice A xs.length c, .slice B ys.length d] ∧ eSc.LiesT W A xs ∧ eDc.LiesT W B ys ∧ xs.length ≤ c ∧ (A = none → c = 0) ∧ ys.length ≤ d ∧ (B = none → d = 0) ∧ W0.heap.size ≤ g
theorem JnW.store {A B : Option Addr} {n c m d : Nat} (h : JnW W0 (some (.slice A n c, xs)) (some (.slice B m d, ys)) (some g) W) : JnE W0 xs ys g ((W.setCell ⟨g, 0, none⟩ (.slice A n c)).setCell ⟨g, 1, none⟩ (.slice B m d)) := by
  obtain ⟨hg, hc⟩ := h.r3 _ rfl
  have hb : ButT 27 W ((W.setCell ⟨g, 0, none⟩ (.slice A n c)).setCell ⟨g, 1, none⟩ (.slice B m d)) := (ButT.set (p := ⟨g, 0, none⟩) ⟨_, _, hc⟩ _).trans (ButT.set (p := ⟨g, 1, none⟩) ⟨_, _, hc.set 0 _⟩ _)
  have hB : Below W0.heap.size W ((W.setCell ⟨g, 0, none⟩ (.slice A n c)).setCell ⟨g, 1, none⟩ (.slice B m d)) := ((Below.refl _ W).setCell (p := ⟨g, 0, none⟩) hg _).setCell (p := ⟨g, 1, none⟩) hg _
  have o1 := (h.r1 _ _ rfl).but hb (by decide)
  have o2 := (h.r2 _ _ rfl).but hb (by decide)
  obtain ⟨A2, c2, e2, k1, k2, k3⟩ := o1.form
  injection e2 with e1 e2 e3
  obtain ⟨B2, d2, f2, q1, q2, q3⟩ := o2.form
  injection f2 with f1 f2 f3
  subst e1 e2 e3 f1 f2 f3
  exact ⟨h.b.trans hB, A, c, B, d, (hc.set 0 _).set 1 _, k3, q3, k1, k2, q1, q2, hg⟩
end
end Go.Proofs.Ytcgohlooelojfaa
