/-
  Opens a slice of entries that came in.
-/
import Derived.Test.YtgpoicbbmaimpaaKX
import Derived.Test.YtgpoicbbmaimpaaU8B
import Derived.Deep.Grids
namespace Go.Proofs.Ytgpoicbbmaimpaa
open Go.ChangeShapes Go.WideShapes Go.ChangeAt Go.RowKit Go.Deep

theorem saveds_cells {H : Type} {enc : TypeId × Value → H} {P : Program} {W : World} {t e : TypeId} {f0 f1 : Field} {fuel : Nat} {cs : List Value} {x : DataW H × List MemPlace}
    (ht : P.underlying t = some (.slice e)) (hs : P.underlying e = some (.struct #[f0, f1])) (hone : oneCellFields P #[f0, f1] = true) (hC : P.cellsOf e = 2)
    (t0 : P.underlying f0.type = some (.int .i64)) (t1 : P.underlying f1.type = some (.int .i64))
    (h : DataW.trod enc P W 0 (fun _ => true) true fuel t cs = some x) :
    ∃ (A : Option Addr) (c : Nat) (xs : List Lc), cs = [.slice A xs.length c] ∧ xs.length ≤ c ∧ (∀ x ∈ xs, x.Rng) ∧ LLies W W.heap.size A xs ∧ (A = none → c = 0) := by
  rcases open_slice ht h with ⟨hcs, _⟩ | ⟨a, len, cap, m, n, D, Pl, hcs, _, hl, _, hm, _, hel⟩
  · exact ⟨none, 0, [], hcs, Nat.le_refl _, fun x hx => absurd hx (by simp), fun h => absurd h (by simp), fun _ => rfl⟩
  · simp only [if_true] at hm
    subst hm
    have each : ∀ i, i < len → ∃ y : Lc, y.Rng ∧ ∀ f u, (cC y)[f]? = some u → W.cell? (a.add (i * 2 + f)) = some u := fun i hi => by
      obtain ⟨cs', hc, htr⟩ := hel i (by omega)
      obtain ⟨y, hy, rfl⟩ := open_loc_cells hs hone hC t0 t1 htr
      obtain ⟨_, hcl, hat⟩ := World.cells?_some hc
      refine ⟨y, hy, fun f u hu => ?_⟩
      have hf5 : f < 2 := by have := (List.getElem?_eq_some_iff.1 hu).1; simpa [cC_len] using this
      have := hat f (by rw [hC]; exact hf5)
      rw [hu, hC, add_add] at this
      exact this
    have hlist : ∀ k, k ≤ len → ∃ xs : List Lc, xs.length = k ∧ (∀ x ∈ xs, x.Rng) ∧ ∀ j (hj : j < xs.length) f u, (cC xs[j])[f]? = some u → W.cell? (a.add (j * 2 + f)) = some u := by
      intro k
      induction k with
      | zero => intro _; exact ⟨[], rfl, fun x hx => absurd hx (by simp), fun j hj => absurd hj (by simp)⟩
      | succ k ih =>
        intro hk
        obtain ⟨xs, hx, hr, hall⟩ := ih (by omega)
        obtain ⟨y, hyr, hy⟩ := each k (by omega)
        refine ⟨xs ++ [y], by simp [hx], fun x hx => ?_, fun j hj f u hu => ?_⟩
        · rcases List.mem_append.1 hx with h | h
          · exact hr x h
          · simp at h; subst h; exact hyr
        · by_cases hjk : j < xs.length
          · rw [List.getElem_append_left hjk] at hu
            exact hall j hjk f u hu
          · have : j = xs.length := by simp at hj; omega
            subst this
            simp at hu
            rw [hx]
            exact hy f u hu
    obtain ⟨xs, hx, hr, hall⟩ := hlist len (Nat.le_refl _)
    subst hx
    refine ⟨some a, _, xs, hcs, hl, hr, fun hp => ?_, fun h => by cases h⟩
    have h0 := hall 0 hp 0 _ rfl
    obtain ⟨b, off, spot⟩ := a
    have hspot : spot = none := by simpa [Addr.add] using World.cell?_spot h0
    subst hspot
    refine ⟨b, off, rfl, ?_, fun j hj f u hu => ?_⟩
    · have := World.block_lt_of_cell? W _ h0
      simpa [Addr.add] using this
    · have := hall j hj f u hu
      rw [add_zero_off] at this
      exact this

/-- a span that came in: its steps lie, and are of their kinds -/
def PIn (W : World) (p : Ps) : Prop := Mn W W.heap.size p ∧ ∀ x ∈ p.a, x.Rng
theorem entry_cells {H : Type} {enc : TypeId × Value → H} {P : Program} {W : World} {s tl el : TypeId} {f0 f1 f2 f3 g0 g1 : Field} {fuel : Nat} {cs : List Value} {x : DataW H × List MemPlace}
    (hs : P.underlying s = some (.struct #[f0, f1, f2, f3])) (hone : oneCellFields P #[f0, f1, f2, f3] = true) (hC : P.cellsOf s = 4)
    (t0 : P.underlying f0.type = some (.int .i64)) (t1 : P.underlying f1.type = some (.int .i64)) (t2 : P.underlying f2.type = some (.int .i64)) (t3 : f3.type = tl)
    (htl : P.underlying tl = some (.slice el)) (hel : P.underlying el = some (.struct #[g0, g1])) (gone : oneCellFields P #[g0, g1] = true) (gC : P.cellsOf el = 2)
    (u0 : P.underlying g0.type = some (.int .i64)) (u1 : P.underlying g1.type = some (.int .i64))
    (h : DataW.trod enc P W 0 (fun _ => true) true fuel s cs = some x) : ∃ p : Ps, cs = pC p ∧ PIn W p := by
  obtain ⟨ys, n, _, _, hlen, hyl, hf⟩ := DataW.trod_struct hs h
  rw [hC] at hlen
  have hsome : ∀ j, j < 4 → ∃ z, ys[j]? = some z := fun j hj => ⟨_, List.getElem?_eq_getElem (by rw [hyl]; exact hj)⟩
  match cs, hlen with
  | [v0, v1, v2, v3], _ =>
    obtain ⟨o0, k0⟩ := hone_of hone 0 f0 rfl
    have q0 := hf 0 f0 rfl
    obtain ⟨z0, e0⟩ := hsome 0 (by omega)
    rw [e0, o0, k0] at q0
    obtain ⟨a0, r0, _, _⟩ := DataW.trod_int t0 q0
    obtain ⟨o1, k1⟩ := hone_of hone 1 f1 rfl
    have q1 := hf 1 f1 rfl
    obtain ⟨z1, e1⟩ := hsome 1 (by omega)
    rw [e1, o1, k1] at q1
    obtain ⟨a1, r1, _, _⟩ := DataW.trod_int t1 q1
    obtain ⟨o2, k2⟩ := hone_of hone 2 f2 rfl
    have q2 := hf 2 f2 rfl
    obtain ⟨z2, e2⟩ := hsome 2 (by omega)
    rw [e2, o2, k2] at q2
    obtain ⟨a2, r2, _, _⟩ := DataW.trod_int t2 q2
    obtain ⟨o3, k3⟩ := hone_of hone 3 f3 rfl
    have q3 := hf 3 f3 rfl
    obtain ⟨z3, e3⟩ := hsome 3 (by omega)
    rw [e3, o3, k3, t3] at q3
    obtain ⟨A, c, xs, r3, h1, h2, h3, h4⟩ := saveds_cells htl hel gone gC u0 u1 q3
    simp at r0 r1 r2 r3
    exact ⟨⟨a0, a1, a2, xs, A, c⟩, by simp only [pC, pK, r0, r1, r2, r3], ⟨h1, h4, h3⟩, h2⟩

set_option maxRecDepth 100000 in
theorem open_entries {H : Type} {enc : TypeId × Value → H} {W : World} {base : Nat} {v : Value} {d : DataW H} {p : List MemPlace}
    (hv : Value.okWide Try.prog W .any base 23 v) (h : DataW.Trod enc Try.prog W 0 (fun _ => true) true 23 v d p) :
    ∃ (A : Option Addr) (c : Nat) (ps : List Ps), v = .slice A ps.length c ∧ ps.length ≤ c ∧ (A = none → c = 0) ∧ SLies W W.heap.size A ps ∧ ∀ p ∈ ps, ∀ x ∈ p.a, x.Rng := by
  obtain ⟨a0, len, cap, rfl⟩ := okWide_slice Try.underlying23 hv
  obtain ⟨fuel, hf⟩ := h
  have hC : Try.prog.cellsOf 48 = 4 := by kernel_rfl
  rcases open_slice Try.underlying23 hf with ⟨hcs, _⟩ | ⟨a, len', cap', m, n, D, Pl, hcs, _, hl, _, hm, _, hel⟩
  · simp [Value.cells] at hcs
    obtain ⟨rfl, rfl, rfl⟩ := hcs
    exact ⟨none, 0, [], rfl, Nat.le_refl _, fun _ => rfl, SLies.nil _ _ _, fun x hx => absurd hx (by simp)⟩
  · simp [Value.cells] at hcs
    obtain ⟨rfl, rfl, rfl⟩ := hcs
    simp only [if_true] at hm
    subst hm
    have each : ∀ i, i < len → ∃ y : Ps, PIn W y ∧ ∀ f u, (pC y)[f]? = some u → W.cell? (a.add (i * 4 + f)) = some u := fun i hi => by
      obtain ⟨cs', hc, htr⟩ := hel i (by omega)
      obtain ⟨y, rfl, hy⟩ := entry_cells (tl := 46) (el := 50) Try.underlying48 (by kernel_rfl) hC (by kernel_rfl) (by kernel_rfl) (by kernel_rfl) rfl Try.underlying46 Try.underlying50 (by kernel_rfl) (by kernel_rfl) (by kernel_rfl) (by kernel_rfl) htr
      obtain ⟨_, hcl, hat⟩ := World.cells?_some hc
      refine ⟨y, hy, fun f u hu => ?_⟩
      have hf5 : f < 4 := by have := (List.getElem?_eq_some_iff.1 hu).1; simpa [pC_len] using this
      have := hat f (by rw [hC]; exact hf5)
      rw [hu, hC, add_add] at this
      exact this
    have hlist : ∀ k, k ≤ len → ∃ xs : List Ps, xs.length = k ∧ (∀ x ∈ xs, PIn W x) ∧ ∀ j (hj : j < xs.length) f u, (pC xs[j])[f]? = some u → W.cell? (a.add (j * 4 + f)) = some u := by
      intro k
      induction k with
      | zero => intro _; exact ⟨[], rfl, fun x hx => absurd hx (by simp), fun j hj => absurd hj (by simp)⟩
      | succ k ih =>
        intro hk
        obtain ⟨xs, hx, hr, hall⟩ := ih (by omega)
        obtain ⟨y, hyr, hy⟩ := each k (by omega)
        refine ⟨xs ++ [y], by simp [hx], fun x hx => ?_, fun j hj f u hu => ?_⟩
        · rcases List.mem_append.1 hx with h | h
          · exact hr x h
          · simp at h; subst h; exact hyr
        · by_cases hjk : j < xs.length
          · rw [List.getElem_append_left hjk] at hu
            exact hall j hjk f u hu
          · have : j = xs.length := by simp at hj; omega
            subst this
            simp at hu
            rw [hx]
            exact hy f u hu
    obtain ⟨xs, hx, hr, hall⟩ := hlist len (Nat.le_refl _)
    subst hx
    refine ⟨some a, _, xs, rfl, hl, fun h => (by cases h), ⟨fun hp => ?_, fun p hp => (hr p hp).1⟩, fun p hp => (hr p hp).2⟩
    have h0 := hall 0 hp 0 _ rfl
    obtain ⟨b, off, spot⟩ := a
    have hspot : spot = none := by simpa [Addr.add] using World.cell?_spot h0
    subst hspot
    refine ⟨b, off, rfl, ?_, fun j hj f u hu => ?_⟩
    · have := World.block_lt_of_cell? W _ h0
      simpa [Addr.add] using this
    · have := hall j hj f u hu
      rw [add_zero_off] at this
      exact this
end Go.Proofs.Ytgpoicbbmaimpaa
