/-
  Merged for a claim: L7T, T9I.
-/
import Derived.Test.YtjagjkogloggpaaGreatHJ0
import Derived.Test.YtjagjkogloggpaaGreatHJ2
import Derived.Deep.Grids
import Derived.Test.YtjagjkogloggpaaGreatHJ11
namespace Go.Proofs.YtjagjkogloggpaaGreat
open Go.ChangeShapes Go.WideShapes Go.ChangeAt Go.RowKit Go.Deep

theorem locs_cells {H : Type} {enc : TypeId × Value → H} {P : Program} {W : World} {t e : TypeId} {f0 f1 : Field} {fuel : Nat} {cs : List Value} {x : DataW H × List MemPlace}
    (ht : P.underlying t = some (.slice e)) (hs : P.underlying e = some (.struct #[f0, f1])) (hone : oneCellFields P #[f0, f1] = true) (hC : P.cellsOf e = 2)
    (t0 : P.underlying f0.type = some (.int .u8)) (t1 : P.underlying f1.type = some (.int .i64))
    (h : DataW.trod enc P W 0 (fun _ => true) true fuel t cs = some x) :
    ∃ (A : Option Addr) (c : Nat) (xs : List Lc), cs = [.slice A xs.length c] ∧ xs.length ≤ c ∧ (∀ x ∈ xs, x.Rng) ∧ LLies W W.heap.size A xs ∧ (A = none → c = 0) := by
  rcases open_slice ht h with ⟨hcs, _⟩ | ⟨a, len, cap, m, n, D, Pl, hcs, _, hl, _, hm, _, hel⟩
  · exact ⟨none, 0, [], hcs, Nat.le_refl _, fun x hx => absurd hx (by simp), fun h => absurd h (by simp), fun _ => rfl⟩
  · simp only [if_true] at hm
    subst hm
    have each : ∀ i, i < len → ∃ y : Lc, y.Rng ∧ ∀ f u, (cC y)[f]? = some u → W.cell? (a.add (i * 2 + f)) = some u := fun i hi => by
      obtain ⟨cs', hc, htr⟩ := hel i (by omega)
      obtain ⟨y, hy, rfl⟩ := open_loc_cells hs hone hC t0 t1 htr
      obtain ⟨_, hcl, hat⟩ := World.cells?_some hc
      refine ⟨y, hy, fun f u hu => ?_⟩
      have hf5 : f < 2 := by have := (List.getElem?_eq_some_iff.1 hu).1; simpa [cC_len] using this
      have := hat f (by rw [hC]; exact hf5)
      rw [hu, hC, add_add] at this
      exact this
    have hlist : ∀ k, k ≤ len → ∃ xs : List Lc, xs.length = k ∧ (∀ x ∈ xs, x.Rng) ∧ ∀ j (hj : j < xs.length) f u, (cC xs[j])[f]? = some u → W.cell? (a.add (j * 2 + f)) = some u := by
      intro k
      induction k with
      | zero => intro _; exact ⟨[], rfl, fun x hx => absurd hx (by simp), fun j hj => absurd hj (by simp)⟩
      | succ k ih =>
        intro hk
        obtain ⟨xs, hx, hr, hall⟩ := ih (by omega)
        obtain ⟨y, hyr, hy⟩ := each k (by omega)
        refine ⟨xs ++ [y], by simp [hx], fun x hx => ?_, fun j hj f u hu => ?_⟩
        · rcases List.mem_append.1 hx with h | h
          · exact hr x h
          · simp at h; subst h; exact hyr
        · by_cases hjk : j < xs.length
          · rw [List.getElem_append_left hjk] at hu
            exact hall j hjk f u hu
          · have : j = xs.length := by simp at hj; omega
            subst this
            simp at hu
            rw [hx]
            exact hy f u hu
    obtain ⟨xs, hx, hr, hall⟩ := hlist len (Nat.le_refl _)
    subst hx
    refine ⟨some a, _, xs, hcs, hl, hr, fun hp => ?_, fun h => by cases h⟩
    have h0 := hall 0 hp 0 _ rfl
    obtain ⟨b, off, spot⟩ := a
    have hspot : spot = none := by simpa [Addr.add] using World.cell?_spot h0
    subst hspot
    refine ⟨b, off, rfl, ?_, fun j hj f u hu => ?_⟩
    · have := World.block_lt_of_cell? W _ h0
      simpa [Addr.add] using this
    · have := hall j hj f u hu
      rw [add_zero_off] at this
      exact this

/-- a span that came in: its steps lie, and are of their kinds -/
def PIn (W : World) (p : Ps) : Prop := Mn W W.heap.size p ∧ ∀ x ∈ p.a, x.Rng
theorem span_cells {H : Type} {enc : TypeId × Value → H} {P : Program} {W : World} {s tl el : TypeId} {f0 f1 f2 g0 g1 : Field} {fuel : Nat} {cs : List Value} {x : DataW H × List MemPlace}
    (hs : P.underlying s = some (.struct #[f0, f1, f2])) (hone : oneCellFields P #[f0, f1, f2] = true) (hC : P.cellsOf s = 3)
    (t0 : P.underlying f0.type = some (.int .i64)) (t1 : P.underlying f1.type = some (.int .i64)) (t2 : f2.type = tl)
    (htl : P.underlying tl = some (.slice el)) (hel : P.underlying el = some (.struct #[g0, g1])) (gone : oneCellFields P #[g0, g1] = true) (gC : P.cellsOf el = 2)
    (u0 : P.underlying g0.type = some (.int .u8)) (u1 : P.underlying g1.type = some (.int .i64))
    (h : DataW.trod enc P W 0 (fun _ => true) true fuel s cs = some x) : ∃ p : Ps, cs = pC p ∧ PIn W p := by
  obtain ⟨ys, n, _, _, hlen, hyl, hf⟩ := DataW.trod_struct hs h
  rw [hC] at hlen
  have hsome : ∀ j, j < 3 → ∃ z, ys[j]? = some z := fun j hj => ⟨_, List.getElem?_eq_getElem (by rw [hyl]; exact hj)⟩
  match cs, hlen with
  | [v0, v1, v2], _ =>
    obtain ⟨o0, k0⟩ := hone_of hone 0 f0 rfl
    have q0 := hf 0 f0 rfl
    obtain ⟨z0, e0⟩ := hsome 0 (by omega)
    rw [e0, o0, k0] at q0
    obtain ⟨a0, r0, _, _⟩ := DataW.trod_int t0 q0
    obtain ⟨o1, k1⟩ := hone_of hone 1 f1 rfl
    have q1 := hf 1 f1 rfl
    obtain ⟨z1, e1⟩ := hsome 1 (by omega)
    rw [e1, o1, k1] at q1
    obtain ⟨a1, r1, _, _⟩ := DataW.trod_int t1 q1
    obtain ⟨o2, k2⟩ := hone_of hone 2 f2 rfl
    have q2 := hf 2 f2 rfl
    obtain ⟨z2, e2⟩ := hsome 2 (by omega)
    rw [e2, o2, k2, t2] at q2
    obtain ⟨A, c, xs, r2, h1, h2, h3, h4⟩ := locs_cells htl hel gone gC u0 u1 q2
    simp at r0 r1 r2
    exact ⟨⟨a0, a1, xs, A, c⟩, by simp only [pC, pK, r0, r1, r2], ⟨h1, h4, h3⟩, h2⟩

set_option maxRecDepth 100000 in
theorem open_spans {H : Type} {enc : TypeId × Value → H} {W : World} {base : Nat} {v : Value} {d : DataW H} {p : List MemPlace}
    (hv : Value.okWide Tryz.prog W .any base 57 v) (h : DataW.Trod enc Tryz.prog W 0 (fun _ => true) true 57 v d p) :
    ∃ (A : Option Addr) (c : Nat) (ps : List Ps), v = .slice A ps.length c ∧ ps.length ≤ c ∧ (A = none → c = 0) ∧ SLies W W.heap.size A ps ∧ ∀ p ∈ ps, ∀ x ∈ p.a, x.Rng := by
  obtain ⟨a0, len, cap, rfl⟩ := okWide_slice Tryz.underlying57 hv
  obtain ⟨fuel, hf⟩ := h
  have hC : Tryz.prog.cellsOf 56 = 3 := by kernel_rfl
  rcases open_slice Tryz.underlying57 hf with ⟨hcs, _⟩ | ⟨a, len', cap', m, n, D, Pl, hcs, _, hl, _, hm, _, hel⟩
  · simp [Value.cells] at hcs
    obtain ⟨rfl, rfl, rfl⟩ := hcs
    exact ⟨none, 0, [], rfl, Nat.le_refl _, fun _ => rfl, SLies.nil _ _ _, fun x hx => absurd hx (by simp)⟩
  · simp [Value.cells] at hcs
    obtain ⟨rfl, rfl, rfl⟩ := hcs
    simp only [if_true] at hm
    subst hm
    have each : ∀ i, i < len → ∃ y : Ps, PIn W y ∧ ∀ f u, (pC y)[f]? = some u → W.cell? (a.add (i * 3 + f)) = some u := fun i hi => by
      obtain ⟨cs', hc, htr⟩ := hel i (by omega)
      obtain ⟨y, rfl, hy⟩ := span_cells (tl := 54) (el := 53) Tryz.underlying56 (by kernel_rfl) hC (by kernel_rfl) (by kernel_rfl) rfl Tryz.underlying54 Tryz.underlying53 (by kernel_rfl) (by kernel_rfl) (by kernel_rfl) (by kernel_rfl) htr
      obtain ⟨_, hcl, hat⟩ := World.cells?_some hc
      refine ⟨y, hy, fun f u hu => ?_⟩
      have hf5 : f < 3 := by have := (List.getElem?_eq_some_iff.1 hu).1; simpa [pC_len] using this
      have := hat f (by rw [hC]; exact hf5)
      rw [hu, hC, add_add] at this
      exact this
    have hlist : ∀ k, k ≤ len → ∃ xs : List Ps, xs.length = k ∧ (∀ x ∈ xs, PIn W x) ∧ ∀ j (hj : j < xs.length) f u, (pC xs[j])[f]? = some u → W.cell? (a.add (j * 3 + f)) = some u := by
      intro k
      induction k with
      | zero => intro _; exact ⟨[], rfl, fun x hx => absurd hx (by simp), fun j hj => absurd hj (by simp)⟩
      | succ k ih =>
        intro hk
        obtain ⟨xs, hx, hr, hall⟩ := ih (by omega)
        obtain ⟨y, hyr, hy⟩ := each k (by omega)
        refine ⟨xs ++ [y], by simp [hx], fun x hx => ?_, fun j hj f u hu => ?_⟩
        · rcases List.mem_append.1 hx with h | h
          · exact hr x h
          · simp at h; subst h; exact hyr
        · by_cases hjk : j < xs.length
          · rw [List.getElem_append_left hjk] at hu
            exact hall j hjk f u hu
          · have : j = xs.length := by simp at hj; omega
            subst this
            simp at hu
            rw [hx]
            exact hy f u hu
    obtain ⟨xs, hx, hr, hall⟩ := hlist len (Nat.le_refl _)
    subst hx
    refine ⟨some a, _, xs, rfl, hl, fun h => (by cases h), ⟨fun hp => ?_, fun p hp => (hr p hp).1⟩, fun p hp => (hr p hp).2⟩
    have h0 := hall 0 hp 0 _ rfl
    obtain ⟨b, off, spot⟩ := a
    have hspot : spot = none := by simpa [Addr.add] using World.cell?_spot h0
    subst hspot
    refine ⟨b, off, rfl, ?_, fun j hj f u hu => ?_⟩
    · have := World.block_lt_of_cell? W _ h0
      simpa [Addr.add] using this
    · have := hall j hj f u hu
      rw [add_zero_off] at this
      exact this
end Go.Proofs.YtjagjkogloggpaaGreat

namespace Go.Proofs.YtjagjkogloggpaaGreat
open Go.ChangeShapes Go.WideShapes Go.ChangeAt Go.RowKit Go.Deep

theorem str_of (s : ByteArray) : ∃ l, s = str l := ⟨s.data.toList, by cases s; simp [str]⟩
/-- a slice of things of one kind -/
theorem open_els {H : Type} {enc : TypeId × Value → H} {P : Program} {W : World} {t e : TypeId} {fuel : Nat} {cs : List Value} {x : DataW H × List MemPlace} {α : Type} (K : El α) (Q : α → Prop)
    (ht : P.underlying t = some (.slice e)) (hC : P.cellsOf e = K.sz)
    (one : ∀ fuel cs x, DataW.trod enc P W 0 (fun _ => true) true fuel e cs = some x → ∃ y, cs = K.f y ∧ Q y)
    (h : DataW.trod enc P W 0 (fun _ => true) true fuel t cs = some x) :
    ∃ (A : Option Addr) (c : Nat) (xs : List α), cs = [.slice A xs.length c] ∧ xs.length ≤ c ∧ (A = none → c = 0) ∧ K.Lies W W.heap.size A xs ∧ ∀ x ∈ xs, Q x := by
  rcases open_slice ht h with ⟨hcs, _⟩ | ⟨a, len, cap, m, n, D, Pl, hcs, _, hl, _, hm, _, hel⟩
  · exact ⟨none, 0, [], hcs, Nat.le_refl _, fun _ => rfl, El.Lies.nil _ _ _, fun x hx => absurd hx (by simp)⟩
  · simp only [if_true] at hm
    subst hm
    have each : ∀ i, i < len → ∃ y : α, Q y ∧ ∀ f u, (K.f y)[f]? = some u → W.cell? (a.add (i * K.sz + f)) = some u := fun i hi => by
      obtain ⟨cs', hc, htr⟩ := hel i (by omega)
      obtain ⟨y, rfl, hy⟩ := one _ _ _ htr
      obtain ⟨_, hcl, hat⟩ := World.cells?_some hc
      refine ⟨y, hy, fun f u hu => ?_⟩
      have hf5 : f < K.sz := by have := (List.getElem?_eq_some_iff.1 hu).1; simpa [K.len] using this
      have := hat f (by rw [hC]; exact hf5)
      rw [hu, hC, add_add] at this
      exact this
    have hlist : ∀ k, k ≤ len → ∃ xs : List α, xs.length = k ∧ (∀ x ∈ xs, Q x) ∧ ∀ j (hj : j < xs.length) f u, (K.f xs[j])[f]? = some u → W.cell? (a.add (j * K.sz + f)) = some u := by
      intro k
      induction k with
      | zero => intro _; exact ⟨[], rfl, fun x hx => absurd hx (by simp), fun j hj => absurd hj (by simp)⟩
      | succ k ih =>
        intro hk
        obtain ⟨xs, hx, hr, hall⟩ := ih (by omega)
        obtain ⟨y, hyr, hy⟩ := each k (by omega)
        refine ⟨xs ++ [y], by simp [hx], fun x hx => ?_, fun j hj f u hu => ?_⟩
        · rcases List.mem_append.1 hx with h | h
          · exact hr x h
          · simp at h; subst h; exact hyr
        · by_cases hjk : j < xs.length
          · rw [List.getElem_append_left hjk] at hu
            exact hall j hjk f u hu
          · have : j = xs.length := by simp at hj; omega
            subst this
            simp at hu
            rw [hx]
            exact hy f u hu
    obtain ⟨xs, hx, hr, hall⟩ := hlist len (Nat.le_refl _)
    subst hx
    refine ⟨some a, _, xs, hcs, hl, fun h => (by cases h), fun hp => ?_, hr⟩
    obtain ⟨v0, hv0⟩ : ∃ v0, (K.f xs[0])[0]? = some v0 := ⟨_, List.getElem?_eq_getElem (l := K.f (xs[0]'hp)) (by rw [K.len]; exact K.pos)⟩
    have h0 := hall 0 hp 0 _ hv0
    obtain ⟨b, off, spot⟩ := a
    have hspot : spot = none := by simpa [Addr.add] using World.cell?_spot h0
    subst hspot
    refine ⟨b, off, rfl, ?_, fun j hj f u hu => ?_⟩
    · have := World.block_lt_of_cell? W _ h0
      simpa [Addr.add] using this
    · have := hall j hj f u hu
      rw [add_zero_off] at this
      exact this

section
variable {H : Type} {enc : TypeId × Value → H} {P : Program} {W : World}
theorem str_cells {s : TypeId} {fuel : Nat} {cs : List Value} {x : DataW H × List MemPlace} (hs : P.underlying s = some .string) (h : DataW.trod enc P W 0 (fun _ => true) true fuel s cs = some x) : ∃ l, cs = [tv l] := by
  obtain ⟨b, rfl, _, _⟩ := DataW.trod_string hs h
  obtain ⟨l, rfl⟩ := str_of b
  exact ⟨l, rfl⟩
theorem var_cells {s ss : TypeId} {f0 f1 f2 f3 g0 g1 g2 : Field} {fuel : Nat} {cs : List Value} {x : DataW H × List MemPlace}
    (hs : P.underlying s = some (.struct #[f0, f1, f2, f3])) (ho : f0.offset = 0 ∧ f1.offset = 1 ∧ f2.offset = 4 ∧ f3.offset = 5) (hk : P.cellsOf f0.type = 1 ∧ P.cellsOf f1.type = 3 ∧ P.cellsOf f2.type = 1 ∧ P.cellsOf f3.type = 1) (hC : P.cellsOf s = 6)
    (t0 : P.underlying f0.type = some .string) (t1 : P.underlying f1.type = some (.struct #[g0, g1, g2])) (gone : oneCellFields P #[g0, g1, g2] = true) (u0 : P.underlying g0.type = some (.int .u8)) (u1 : P.underlying g1.type = some (.int .i64)) (u2 : P.underlying g2.type = some .string)
    (t2 : P.underlying f2.type = some (.int .i64)) (t3 : P.underlying f3.type = some (.slice ss)) (hss : P.underlying ss = some .string) (hsc : P.cellsOf ss = 1)
    (h : DataW.trod enc P W 0 (fun _ => true) true fuel s cs = some x) : ∃ p : Pv, cs = (vK p).toList ∧ VL W W.heap.size p := by
  obtain ⟨ys, n, _, _, hlen, hyl, hf⟩ := DataW.trod_struct hs h
  rw [hC] at hlen
  obtain ⟨o0, o1, o2, o3⟩ := ho
  obtain ⟨k0, k1, k2, k3⟩ := hk
  have hsome : ∀ j, j < 4 → ∃ z, ys[j]? = some z := fun j hj => ⟨_, List.getElem?_eq_getElem (by rw [hyl]; exact hj)⟩
  match cs, hlen with
  | [v0, v1, v2, v3, v4, v5], _ =>
    have q0 := hf 0 f0 rfl
    obtain ⟨z0, e0⟩ := hsome 0 (by omega)
    rw [e0, o0, k0] at q0
    obtain ⟨nm, r0⟩ := str_cells t0 q0
    have q1 := hf 1 f1 rfl
    obtain ⟨z1, e1⟩ := hsome 1 (by omega)
    rw [e1, o1, k1] at q1
    obtain ⟨ws, m, _, _, hwl, hwn, hw⟩ := DataW.trod_struct t1 q1
    have hwsome : ∀ j, j < 3 → ∃ z, ws[j]? = some z := fun j hj => ⟨_, List.getElem?_eq_getElem (by rw [hwn]; exact hj)⟩
    obtain ⟨b0, c0⟩ := hone_of gone 0 g0 rfl
    have p0 := hw 0 g0 rfl
    obtain ⟨w0, d0⟩ := hwsome 0 (by omega)
    rw [d0, b0, c0] at p0
    obtain ⟨a0, s0, _, _⟩ := DataW.trod_int u0 p0
    obtain ⟨b1, c1⟩ := hone_of gone 1 g1 rfl
    have p1 := hw 1 g1 rfl
    obtain ⟨w1, d1⟩ := hwsome 1 (by omega)
    rw [d1, b1, c1] at p1
    obtain ⟨a1, s1, _, _⟩ := DataW.trod_int u1 p1
    obtain ⟨b2, c2⟩ := hone_of gone 2 g2 rfl
    have p2 := hw 2 g2 rfl
    obtain ⟨w2, d2⟩ := hwsome 2 (by omega)
    rw [d2, b2, c2] at p2
    obtain ⟨tn, s2⟩ := str_cells u2 p2
    have q2 := hf 2 f2 rfl
    obtain ⟨z2, e2⟩ := hsome 2 (by omega)
    rw [e2, o2, k2] at q2
    obtain ⟨a2, r2, _, _⟩ := DataW.trod_int t2 q2
    have q3 := hf 3 f3 rfl
    obtain ⟨z3, e3⟩ := hsome 3 (by omega)
    rw [e3, o3, k3] at q3
    obtain ⟨A, c, fs, r3, h1, h2, h3, _⟩ := open_els eS (fun _ => True) t3 hsc (fun fuel cs x h => by obtain ⟨l, rfl⟩ := str_cells hss h; exact ⟨l, rfl, trivial⟩) q3
    simp at r0 r2 r3 s0 s1 s2
    exact ⟨⟨⟨nm, a0, a1, tn, a2, fs⟩, A, c⟩, by simp only [vK, r0, r2, r3, s0, s1, s2], h3, h1, h2⟩
/-- a list of spans that came in, its steps of their kinds -/
def RIn (W : World) (r : Rs) : Prop := RL W W.heap.size r ∧ ∀ p ∈ r.l, ∀ x ∈ p.a, x.Rng
theorem spans_cells {t s tl el : TypeId} {f0 f1 f2 g0 g1 : Field} {fuel : Nat} {cs : List Value} {x : DataW H × List MemPlace}
    (ht : P.underlying t = some (.slice s)) (hs : P.underlying s = some (.struct #[f0, f1, f2])) (hone : oneCellFields P #[f0, f1, f2] = true) (hC : P.cellsOf s = 3)
    (t0 : P.underlying f0.type = some (.int .i64)) (t1 : P.underlying f1.type = some (.int .i64)) (t2 : f2.type = tl)
    (htl : P.underlying tl = some (.slice el)) (hel : P.underlying el = some (.struct #[g0, g1])) (gone : oneCellFields P #[g0, g1] = true) (gC : P.cellsOf el = 2)
    (u0 : P.underlying g0.type = some (.int .u8)) (u1 : P.underlying g1.type = some (.int .i64))
    (h : DataW.trod enc P W 0 (fun _ => true) true fuel t cs = some x) : ∃ r : Rs, cs = eR.f r ∧ RIn W r := by
  obtain ⟨A, c, ps, rfl, h1, h2, h3, h4⟩ := open_els ePs (PIn W) ht hC (fun fuel cs x h => span_cells hs hone hC t0 t1 t2 htl hel gone gC u0 u1 h) h
  exact ⟨⟨ps, A, c⟩, rfl, ⟨⟨h3, fun p hp => (h4 p hp).1⟩, h1, h2⟩, fun p hp => (h4 p hp).2⟩
def PIn9 (W : World) (p : Pp) : Prop := PL W W.heap.size p ∧ ∀ r ∈ p.ss, ∀ q ∈ r.l, ∀ x ∈ q.a, x.Rng
theorem place_cells {s tv_ tr : TypeId} {ev er : TypeId} {f0 f1 f2 f3 f4 : Field} {fuel : Nat} {cs : List Value} {x : DataW H × List MemPlace}
    (hs : P.underlying s = some (.struct #[f0, f1, f2, f3, f4])) (hone : oneCellFields P #[f0, f1, f2, f3, f4] = true) (hC : P.cellsOf s = 5)
    (t0 : P.underlying f0.type = some .string) (t1 : P.underlying f1.type = some (.int .i64)) (t2 : P.underlying f2.type = some (.int .i64)) (t3 : f3.type = tv_) (t4 : f4.type = tr)
    (hv : P.underlying tv_ = some (.slice ev)) (hvC : P.cellsOf ev = 6) (hr : P.underlying tr = some (.slice er)) (hrC : P.cellsOf er = 1)
    (vone : ∀ fuel cs x, DataW.trod enc P W 0 (fun _ => true) true fuel ev cs = some x → ∃ p : Pv, cs = (vK p).toList ∧ VL W W.heap.size p)
    (rone : ∀ fuel cs x, DataW.trod enc P W 0 (fun _ => true) true fuel er cs = some x → ∃ r : Rs, cs = eR.f r ∧ RIn W r)
    (h : DataW.trod enc P W 0 (fun _ => true) true fuel s cs = some x) : ∃ p : Pp, cs = (lK p).toList ∧ PIn9 W p := by
  obtain ⟨ys, n, _, _, hlen, hyl, hf⟩ := DataW.trod_struct hs h
  rw [hC] at hlen
  have hsome : ∀ j, j < 5 → ∃ z, ys[j]? = some z := fun j hj => ⟨_, List.getElem?_eq_getElem (by rw [hyl]; exact hj)⟩
  match cs, hlen with
  | [v0, v1, v2, v3, v4], _ =>
    obtain ⟨o0, k0⟩ := hone_of hone 0 f0 rfl
    have q0 := hf 0 f0 rfl
    obtain ⟨z0, e0⟩ := hsome 0 (by omega)
    rw [e0, o0, k0] at q0
    obtain ⟨nm, r0⟩ := str_cells t0 q0
    obtain ⟨o1, k1⟩ := hone_of hone 1 f1 rfl
    have q1 := hf 1 f1 rfl
    obtain ⟨z1, e1⟩ := hsome 1 (by omega)
    rw [e1, o1, k1] at q1
    obtain ⟨a1, r1, _, _⟩ := DataW.trod_int t1 q1
    obtain ⟨o2, k2⟩ := hone_of hone 2 f2 rfl
    have q2 := hf 2 f2 rfl
    obtain ⟨z2, e2⟩ := hsome 2 (by omega)
    rw [e2, o2, k2] at q2
    obtain ⟨a2, r2, _, _⟩ := DataW.trod_int t2 q2
    obtain ⟨o3, k3⟩ := hone_of hone 3 f3 rfl
    have q3 := hf 3 f3 rfl
    obtain ⟨z3, e3⟩ := hsome 3 (by omega)
    rw [e3, o3, k3, t3] at q3
    obtain ⟨A3, c3, vs, r3, b1, b2, b3, b4⟩ := open_els eV (VL W W.heap.size) hv hvC vone q3
    obtain ⟨o4, k4⟩ := hone_of hone 4 f4 rfl
    have q4 := hf 4 f4 rfl
    obtain ⟨z4, e4⟩ := hsome 4 (by omega)
    rw [e4, o4, k4, t4] at q4
    obtain ⟨A4, c4, ss, r4, d1, d2, d3, d4⟩ := open_els eR (RIn W) hr hrC rone q4
    simp at r0 r1 r2 r3 r4
    exact ⟨⟨nm, a1, a2, vs, A3, c3, ss, A4, c4⟩, by simp only [lK, r0, r1, r2, r3, r4], ⟨b3, b4, ⟨b1, b2⟩, d3, fun y hy => (d4 y hy).1, ⟨d1, d2⟩⟩, fun r hr => (d4 r hr).2⟩
theorem point_cells {s tn en : TypeId} {f0 f1 f2 : Field} {fuel : Nat} {cs : List Value} {x : DataW H × List MemPlace}
    (hs : P.underlying s = some (.struct #[f0, f1, f2])) (hone : oneCellFields P #[f0, f1, f2] = true) (hC : P.cellsOf s = 3)
    (t0 : P.underlying f0.type = some (.int .i64)) (t1 : P.underlying f1.type = some (.int .i64)) (t2 : f2.type = tn)
    (hn : P.underlying tn = some (.slice en)) (hnC : P.cellsOf en = 1) (hen : P.underlying en = some (.int .i64))
    (h : DataW.trod enc P W 0 (fun _ => true) true fuel s cs = some x) : ∃ p : Pq, cs = (qK p).toList ∧ QL W W.heap.size p := by
  obtain ⟨ys, n, _, _, hlen, hyl, hf⟩ := DataW.trod_struct hs h
  rw [hC] at hlen
  have hsome : ∀ j, j < 3 → ∃ z, ys[j]? = some z := fun j hj => ⟨_, List.getElem?_eq_getElem (by rw [hyl]; exact hj)⟩
  match cs, hlen with
  | [v0, v1, v2], _ =>
    obtain ⟨o0, k0⟩ := hone_of hone 0 f0 rfl
    have q0 := hf 0 f0 rfl
    obtain ⟨z0, e0⟩ := hsome 0 (by omega)
    rw [e0, o0, k0] at q0
    obtain ⟨a0, r0, _, _⟩ := DataW.trod_int t0 q0
    obtain ⟨o1, k1⟩ := hone_of hone 1 f1 rfl
    have q1 := hf 1 f1 rfl
    obtain ⟨z1, e1⟩ := hsome 1 (by omega)
    rw [e1, o1, k1] at q1
    obtain ⟨a1, r1, _, _⟩ := DataW.trod_int t1 q1
    obtain ⟨o2, k2⟩ := hone_of hone 2 f2 rfl
    have q2 := hf 2 f2 rfl
    obtain ⟨z2, e2⟩ := hsome 2 (by omega)
    rw [e2, o2, k2, t2] at q2
    obtain ⟨A, c, xs, r2, b1, b2, b3, _⟩ := open_els eI (fun _ => True) hn hnC (fun fuel cs x h => by obtain ⟨a, rfl, _, _⟩ := DataW.trod_int hen h; exact ⟨a, rfl, trivial⟩) q2
    simp at r0 r1 r2
    exact ⟨⟨⟨a0, a1, xs⟩, A, c⟩, by simp only [qK, r0, r1, r2], b3, b1, b2⟩
end
/-- a table that came in -/
structure TIn (W : World) (A : Option Addr) (c : Nat) (ps : List Pp) (A2 : Option Addr) (c2 : Nat) (qs : List Pq) : Prop where
  l : TL W W.heap.size A ps
  p : UL W W.heap.size A2 qs
  r : ∀ p ∈ ps, ∀ r ∈ p.ss, ∀ q ∈ r.l, ∀ x ∈ q.a, x.Rng
  lc : ps.length ≤ c ∧ (A = none → c = 0)
  pc : qs.length ≤ c2 ∧ (A2 = none → c2 = 0)
set_option maxRecDepth 100000 in
theorem places_cells {H : Type} {enc : TypeId × Value → H} {W : World} {fuel : Nat} {cs : List Value} {x : DataW H × List MemPlace} (h : DataW.trod enc Tryz.prog W 0 (fun _ => true) true fuel 25 cs = some x) :
    ∃ (A : Option Addr) (c : Nat) (ps : List Pp), cs = [.slice A ps.length c] ∧ ps.length ≤ c ∧ (A = none → c = 0) ∧ TL W W.heap.size A ps ∧ ∀ p ∈ ps, ∀ r ∈ p.ss, ∀ q ∈ r.l, ∀ x ∈ q.a, x.Rng := by
  obtain ⟨A, c, ps, e, h1, h2, h3, h4⟩ := open_els eL (PIn9 W) Tryz.underlying25 (by kernel_rfl) (fun fuel cs x h =>
    place_cells (tv_ := 48) (tr := 49) (ev := 65) (er := 57) Tryz.underlying51 (by kernel_rfl) (by kernel_rfl) (by kernel_rfl) (by kernel_rfl) (by kernel_rfl) rfl rfl
      Tryz.underlying48 (by kernel_rfl) Tryz.underlying49 (by kernel_rfl)
      (fun fuel cs x h => var_cells (ss := 9) Tryz.underlying65 ⟨rfl, rfl, rfl, rfl⟩ ⟨by kernel_rfl, by kernel_rfl, by kernel_rfl, by kernel_rfl⟩ (by kernel_rfl) (by kernel_rfl) Tryz.underlying62 (by kernel_rfl) (by kernel_rfl) (by kernel_rfl) (by kernel_rfl) (by kernel_rfl) Tryz.underlying63 (by kernel_rfl) (by kernel_rfl) h)
      (fun fuel cs x h => spans_cells (s := 56) (tl := 54) (el := 53) Tryz.underlying57 Tryz.underlying56 (by kernel_rfl) (by kernel_rfl) (by kernel_rfl) (by kernel_rfl) rfl Tryz.underlying54 Tryz.underlying53 (by kernel_rfl) (by kernel_rfl) (by kernel_rfl) (by kernel_rfl) h) h) h
  exact ⟨A, c, ps, e, h1, h2, ⟨h3, fun p hp => (h4 p hp).1⟩, fun p hp => (h4 p hp).2⟩
set_option maxRecDepth 100000 in
theorem points_cells {H : Type} {enc : TypeId × Value → H} {W : World} {fuel : Nat} {cs : List Value} {x : DataW H × List MemPlace} (h : DataW.trod enc Tryz.prog W 0 (fun _ => true) true fuel 26 cs = some x) :
    ∃ (A : Option Addr) (c : Nat) (qs : List Pq), cs = [.slice A qs.length c] ∧ qs.length ≤ c ∧ (A = none → c = 0) ∧ UL W W.heap.size A qs := by
  obtain ⟨A, c, ps, e, h1, h2, h3, h4⟩ := open_els eQ (QL W W.heap.size) Tryz.underlying26 (by kernel_rfl) (fun fuel cs x h =>
    point_cells (tn := 58) (en := 3) Tryz.underlying60 (by kernel_rfl) (by kernel_rfl) (by kernel_rfl) (by kernel_rfl) rfl Tryz.underlying58 (by kernel_rfl) (by kernel_rfl) h) h
  exact ⟨A, c, ps, e, h1, h2, h3, h4⟩
set_option maxRecDepth 100000 in
theorem open_table {H : Type} {enc : TypeId × Value → H} {W : World} {base : Nat} {v : Value} {d : DataW H} {p : List MemPlace}
    (hv : Value.okWide Tryz.prog W .any base 35 v) (h : DataW.Trod enc Tryz.prog W 0 (fun _ => true) true 35 v d p) :
    ∃ A c ps A2 c2 qs, v = .agg #[.slice A ps.length c, .slice A2 qs.length c2] ∧ TIn W A c ps A2 c2 qs := by
  obtain ⟨cs, rfl, _⟩ := okWide_struct Tryz.underlying35 hv
  obtain ⟨fuel, hf0⟩ := h
  obtain ⟨ys, n, _, _, hlen, hyl, hf⟩ := DataW.trod_struct Tryz.underlying35 hf0
  rw [show Tryz.prog.cellsOf 35 = 2 by kernel_rfl] at hlen
  have hsome : ∀ j, j < 2 → ∃ z, ys[j]? = some z := fun j hj => ⟨_, List.getElem?_eq_getElem (by rw [hyl]; exact hj)⟩
  obtain ⟨z0, e0⟩ := hsome 0 (by omega)
  obtain ⟨z1, e1⟩ := hsome 1 (by omega)
  have q0 := hf 0 _ rfl
  have q1 := hf 1 _ rfl
  rw [e0] at q0
  rw [e1] at q1
  have hl2 : cs.toList.length = 2 := by simpa [Value.cells] using hlen
  obtain ⟨l, hl⟩ : ∃ l, cs.toList = l := ⟨_, rfl⟩
  rw [hl] at hl2
  match l, hl2 with
  | [v0, v1], _ =>
    simp only [Value.cells, hl] at q0 q1
    obtain ⟨A, c, ps, r0, h1, h2, h3, h4⟩ := places_cells q0
    obtain ⟨A2, c2, qs, r1, k1, k2, k3⟩ := points_cells q1
    have s0 : v0 = .slice A ps.length c := by have := r0; rw [show ([v0, v1].drop _).take _ = [v0] by rfl] at this; injection this
    have s1 : v1 = .slice A2 qs.length c2 := by have := r1; rw [show ([v0, v1].drop _).take _ = [v1] by rfl] at this; injection this
    refine ⟨A, c, ps, A2, c2, qs, ?_, h3, k3, h4, ⟨h1, h2⟩, ⟨k1, k2⟩⟩
    congr 1
    apply Array.ext'
    rw [hl, s0, s1]
end Go.Proofs.YtjagjkogloggpaaGreat
