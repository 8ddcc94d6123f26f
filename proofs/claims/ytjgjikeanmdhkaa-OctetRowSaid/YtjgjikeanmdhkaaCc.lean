/-
  A slice of things that came in.
-/
import Derived.Test.YtjgjikeanmdhkaaX
import Derived.Test.YtjgjikeanmdhkaaAa
import Derived.Deep.Slices
import Derived.Deep.Fields
namespace Go.Proofs.Ytjgjikeanmdhkaa
open Go.ChangeShapes Go.WideShapes Go.ChangeAt Go.RowKit Go.Deep

theorem open_thing {H : Type} {enc : TypeId × Value → H} {P : Program} {w : World} {base : Nat} {spare : Nat → Bool} {held : Bool} {e : TypeId} {f0 f1 f2 f3 f4 : Field} {fuel : Nat} {cs : List Value} {x : DataW H × List MemPlace}
    (hs : P.underlying e = some (.struct #[f0, f1, f2, f3, f4])) (hone : oneCellFields P #[f0, f1, f2, f3, f4] = true) (hC : P.cellsOf e = 5)
    (t0 : P.underlying f0.type = some (.int .u8)) (t1 : P.underlying f1.type = some (.int .i64)) (t2 : P.underlying f2.type = some (.int .i64)) (t3 : P.underlying f3.type = some (.int .i64)) (t4 : P.underlying f4.type = some .string)
    (h : DataW.trod enc P w base spare held fuel e cs = some x) : ∃ y : Thing, cs = tCells y := by
  obtain ⟨ys, n, _, _, hlen, hyl, hf⟩ := DataW.trod_struct hs h
  rw [hC] at hlen
  have hsome : ∀ j, j < 5 → ∃ z, ys[j]? = some z := fun j hj => ⟨_, List.getElem?_eq_getElem (by rw [hyl]; exact hj)⟩
  match cs, hlen with
  | [v0, v1, v2, v3, v4], _ =>
    obtain ⟨o0, k0⟩ := hone_of hone 0 f0 rfl
    obtain ⟨o1, k1⟩ := hone_of hone 1 f1 rfl
    obtain ⟨o2, k2⟩ := hone_of hone 2 f2 rfl
    obtain ⟨o3, k3⟩ := hone_of hone 3 f3 rfl
    obtain ⟨o4, k4⟩ := hone_of hone 4 f4 rfl
    have g0 := hf 0 f0 rfl
    have g1 := hf 1 f1 rfl
    have g2 := hf 2 f2 rfl
    have g3 := hf 3 f3 rfl
    have g4 := hf 4 f4 rfl
    obtain ⟨z0, e0⟩ := hsome 0 (by omega)
    obtain ⟨z1, e1⟩ := hsome 1 (by omega)
    obtain ⟨z2, e2⟩ := hsome 2 (by omega)
    obtain ⟨z3, e3⟩ := hsome 3 (by omega)
    obtain ⟨z4, e4⟩ := hsome 4 (by omega)
    rw [e0, o0, k0] at g0
    rw [e1, o1, k1] at g1
    rw [e2, o2, k2] at g2
    rw [e3, o3, k3] at g3
    rw [e4, o4, k4] at g4
    obtain ⟨a0, c0, _, wf⟩ := DataW.trod_int t0 g0
    obtain ⟨a1, c1, _, _⟩ := DataW.trod_int t1 g1
    obtain ⟨a2, c2, _, _⟩ := DataW.trod_int t2 g2
    obtain ⟨a3, c3, _, _⟩ := DataW.trod_int t3 g3
    obtain ⟨a4, c4, _, _⟩ := DataW.trod_string t4 g4
    simp at c0 c1 c2 c3 c4
    have hb := bounds_u8 wf
    refine ⟨⟨UInt8.ofNat a0.toNat, a1, a2, a3, a4.data.toList⟩, ?_⟩
    have hu : ((UInt8.ofNat a0.toNat).toNat : Int) = a0 := by
      have : (UInt8.ofNat a0.toNat).toNat = a0.toNat := by simp; omega
      rw [this]; omega
    have hst : str a4.data.toList = a4 := by simp [str]
    simp only [tCells, hu, hst, c0, c1, c2, c3, c4]

theorem open_things {H : Type} {enc : TypeId × Value → H} {P : Program} {W : World} {base : Nat} {t e : TypeId} {f0 f1 f2 f3 f4 : Field} {v : Value} {d : DataW H} {p : List MemPlace}
    (ht : P.underlying t = some (.slice e)) (hs : P.underlying e = some (.struct #[f0, f1, f2, f3, f4])) (hone : oneCellFields P #[f0, f1, f2, f3, f4] = true) (hC : P.cellsOf e = 5)
    (t0 : P.underlying f0.type = some (.int .u8)) (t1 : P.underlying f1.type = some (.int .i64)) (t2 : P.underlying f2.type = some (.int .i64)) (t3 : P.underlying f3.type = some (.int .i64)) (t4 : P.underlying f4.type = some .string)
    (hv : Value.okWide P W .any base t v) (h : DataW.Trod enc P W 0 (fun _ => true) true t v d p) :
    ∃ (A : Option Addr) (c : Nat) (xs : List Thing), v = .slice A xs.length c ∧ TLies W W.heap.size A xs := by
  obtain ⟨a0, len, cap, rfl⟩ := okWide_slice ht hv
  obtain ⟨fuel, hf⟩ := h
  rcases open_slice ht hf with ⟨hcs, _⟩ | ⟨a, len', cap', m, n, D, Pl, hcs, _, hl, _, hm, _, hel⟩
  · simp [Value.cells] at hcs
    obtain ⟨rfl, rfl, rfl⟩ := hcs
    exact ⟨none, 0, [], rfl, fun h => absurd h (by simp)⟩
  · simp [Value.cells] at hcs
    obtain ⟨rfl, rfl, rfl⟩ := hcs
    simp only [if_true] at hm
    subst hm
    have each : ∀ i, i < len → ∃ y : Thing, ∀ f u, (tCells y)[f]? = some u → W.cell? (a.add (i * 5 + f)) = some u := fun i hi => by
      obtain ⟨cs', hc, htr⟩ := hel i (by omega)
      obtain ⟨y, rfl⟩ := open_thing hs hone hC t0 t1 t2 t3 t4 htr
      obtain ⟨_, hcl, hat⟩ := World.cells?_some hc
      refine ⟨y, fun f u hu => ?_⟩
      have hf5 : f < 5 := by have := (List.getElem?_eq_some_iff.1 hu).1; simpa [tCells] using this
      have := hat f (by rw [hC]; exact hf5)
      rw [hu, hC, add_add] at this
      exact this
    have hlist : ∀ k, k ≤ len → ∃ xs : List Thing, xs.length = k ∧ ∀ j (hj : j < xs.length) f u, (tCells xs[j])[f]? = some u → W.cell? (a.add (j * 5 + f)) = some u := by
      intro k
      induction k with
      | zero => intro _; exact ⟨[], rfl, fun j hj => absurd hj (by simp)⟩
      | succ k ih =>
        intro hk
        obtain ⟨xs, hx, hall⟩ := ih (by omega)
        obtain ⟨y, hy⟩ := each k (by omega)
        refine ⟨xs ++ [y], by simp [hx], fun j hj f u hu => ?_⟩
        by_cases hjk : j < xs.length
        · rw [List.getElem_append_left hjk] at hu
          exact hall j hjk f u hu
        · have : j = xs.length := by simp at hj; omega
          subst this
          simp at hu
          rw [hx]
          exact hy f u hu
    obtain ⟨xs, hx, hall⟩ := hlist len (Nat.le_refl _)
    subst hx
    refine ⟨some a, _, xs, rfl, fun hp => ?_⟩
    have h0 := hall 0 hp 0 _ rfl
    obtain ⟨b, off, spot⟩ := a
    have hspot : spot = none := by simpa [Addr.add] using World.cell?_spot h0
    subst hspot
    refine ⟨b, off, rfl, ?_, fun j hj f u hu => ?_⟩
    · have := World.block_lt_of_cell? W _ h0
      simpa [Addr.add] using this
    · have := hall j hj f u hu
      rw [add_zero_off] at this
      rw [Nat.add_assoc]
      exact this

end Go.Proofs.Ytjgjikeanmdhkaa
