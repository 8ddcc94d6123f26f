/-
  Merged for a claim: T9I, T9J.
-/
import Derived.Test.YtjagjkogloggpaaGreatFJ0
import Derived.Test.YtjagjkogloggpaaGreatFJ10
import Derived.Test.YtjagjkogloggpaaGreatFJ22
import Derived.Deep.Grids
namespace Go.Proofs.YtjagjkogloggpaaGreat
open Go.ChangeShapes Go.WideShapes Go.ChangeAt Go.RowKit Go.Deep

theorem str_of (s : ByteArray) : ∃ l, s = str l := ⟨s.data.toList, by cases s; simp [str]⟩
/-- a slice of things of one kind -/
theorem open_els {H : Type} {enc : TypeId × Value → H} {P : Program} {W : World} {t e : TypeId} {fuel : Nat} {cs : List Value} {x : DataW H × List MemPlace} {α : Type} (K : El α) (Q : α → Prop)
    (ht : P.underlying t = some (.slice e)) (hC : P.cellsOf e = K.sz)
    (one : ∀ fuel cs x, DataW.trod enc P W 0 (fun _ => true) true fuel e cs = some x → ∃ y, cs = K.f y ∧ Q y)
    (h : DataW.trod enc P W 0 (fun _ => true) true fuel t cs = some x) :
    ∃ (A : Option Addr) (c : Nat) (xs : List α), cs = [.slice A xs.length c] ∧ xs.length ≤ c ∧ (A = none → c = 0) ∧ K.Lies W W.heap.size A xs ∧ ∀ x ∈ xs, Q x := by
  rcases open_slice ht h with ⟨hcs, _⟩ | ⟨a, len, cap, m, n, D, Pl, hcs, _, hl, _, hm, _, hel⟩
  · exact ⟨none, 0, [], hcs, Nat.le_refl _, fun _ => rfl, El.Lies.nil _ _ _, fun x hx => absurd hx (by simp)⟩
  · simp only [if_true] at hm
    subst hm
    have each : ∀ i, i < len → ∃ y : α, Q y ∧ ∀ f u, (K.f y)[f]? = some u → W.cell? (a.add (i * K.sz + f)) = some u := fun i hi => by
      obtain ⟨cs', hc, htr⟩ := hel i (by omega)
      obtain ⟨y, rfl, hy⟩ := one _ _ _ htr
      obtain ⟨_, hcl, hat⟩ := World.cells?_some hc
      refine ⟨y, hy, fun f u hu => ?_⟩
      have hf5 : f < K.sz := by have := (List.getElem?_eq_some_iff.1 hu).1; simpa [K.len] using this
      have := hat f (by rw [hC]; exact hf5)
      rw [hu, hC, add_add] at this
      exact this
    have hlist : ∀ k, k ≤ len → ∃ xs : List α, xs.length = k ∧ (∀ x ∈ xs, Q x) ∧ ∀ j (hj : j < xs.length) f u, (K.f xs[j])[f]? = some u → W.cell? (a.add (j * K.sz + f)) = some u := by
      intro k
      induction k with
      | zero => intro _; exact ⟨[], rfl, fun x hx => absurd hx (by simp), fun j hj => absurd hj (by simp)⟩
      | succ k ih =>
        intro hk
        obtain ⟨xs, hx, hr, hall⟩ := ih (by omega)
        obtain ⟨y, hyr, hy⟩ := each k (by omega)
        refine ⟨xs ++ [y], by simp [hx], fun x hx => ?_, fun j hj f u hu => ?_⟩
        · rcases List.mem_append.1 hx with h | h
          · exact hr x h
          · simp at h; subst h; exact hyr
        · by_cases hjk : j < xs.length
          · rw [List.getElem_append_left hjk] at hu
            exact hall j hjk f u hu
          · have : j = xs.length := by simp at hj; omega
            subst this
            simp at hu
            rw [hx]
            exact hy f u hu
    obtain ⟨xs, hx, hr, hall⟩ := hlist len (Nat.le_refl _)
    subst hx
    refine ⟨some a, _, xs, hcs, hl, fun h => (by cases h), fun hp => ?_, hr⟩
    obtain ⟨v0, hv0⟩ : ∃ v0, (K.f xs[0])[0]? = some v0 := ⟨_, List.getElem?_eq_getElem (l := K.f (xs[0]'hp)) (by rw [K.len]; exact K.pos)⟩
    have h0 := hall 0 hp 0 _ hv0
    obtain ⟨b, off, spot⟩ := a
    have hspot : spot = none := by simpa [Addr.add] using World.cell?_spot h0
    subst hspot
    refine ⟨b, off, rfl, ?_, fun j hj f u hu => ?_⟩
    · have := World.block_lt_of_cell? W _ h0
      simpa [Addr.add] using this
    · have := hall j hj f u hu
      rw [add_zero_off] at this
      exact this

section
variable {H : Type} {enc : TypeId × Value → H} {P : Program} {W : World}
theorem str_cells {s : TypeId} {fuel : Nat} {cs : List Value} {x : DataW H × List MemPlace} (hs : P.underlying s = some .string) (h : DataW.trod enc P W 0 (fun _ => true) true fuel s cs = some x) : ∃ l, cs = [tv l] := by
  obtain ⟨b, rfl, _, _⟩ := DataW.trod_string hs h
  obtain ⟨l, rfl⟩ := str_of b
  exact ⟨l, rfl⟩
theorem var_cells {s ss : TypeId} {f0 f1 f2 f3 g0 g1 g2 : Field} {fuel : Nat} {cs : List Value} {x : DataW H × List MemPlace}
    (hs : P.underlying s = some (.struct #[f0, f1, f2, f3])) (ho : f0.offset = 0 ∧ f1.offset = 1 ∧ f2.offset = 4 ∧ f3.offset = 5) (hk : P.cellsOf f0.type = 1 ∧ P.cellsOf f1.type = 3 ∧ P.cellsOf f2.type = 1 ∧ P.cellsOf f3.type = 1) (hC : P.cellsOf s = 6)
    (t0 : P.underlying f0.type = some .string) (t1 : P.underlying f1.type = some (.struct #[g0, g1, g2])) (gone : oneCellFields P #[g0, g1, g2] = true) (u0 : P.underlying g0.type = some (.int .u8)) (u1 : P.underlying g1.type = some (.int .i64)) (u2 : P.underlying g2.type = some .string)
    (t2 : P.underlying f2.type = some (.int .i64)) (t3 : P.underlying f3.type = some (.slice ss)) (hss : P.underlying ss = some .string) (hsc : P.cellsOf ss = 1)
    (h : DataW.trod enc P W 0 (fun _ => true) true fuel s cs = some x) : ∃ p : Pv, cs = (vK p).toList ∧ VL W W.heap.size p := by
  obtain ⟨ys, n, _, _, hlen, hyl, hf⟩ := DataW.trod_struct hs h
  rw [hC] at hlen
  obtain ⟨o0, o1, o2, o3⟩ := ho
  obtain ⟨k0, k1, k2, k3⟩ := hk
  have hsome : ∀ j, j < 4 → ∃ z, ys[j]? = some z := fun j hj => ⟨_, List.getElem?_eq_getElem (by rw [hyl]; exact hj)⟩
  match cs, hlen with
  | [v0, v1, v2, v3, v4, v5], _ =>
    have q0 := hf 0 f0 rfl
    obtain ⟨z0, e0⟩ := hsome 0 (by omega)
    rw [e0, o0, k0] at q0
    obtain ⟨nm, r0⟩ := str_cells t0 q0
    have q1 := hf 1 f1 rfl
    obtain ⟨z1, e1⟩ := hsome 1 (by omega)
    rw [e1, o1, k1] at q1
    obtain ⟨ws, m, _, _, hwl, hwn, hw⟩ := DataW.trod_struct t1 q1
    have hwsome : ∀ j, j < 3 → ∃ z, ws[j]? = some z := fun j hj => ⟨_, List.getElem?_eq_getElem (by rw [hwn]; exact hj)⟩
    obtain ⟨b0, c0⟩ := hone_of gone 0 g0 rfl
    have p0 := hw 0 g0 rfl
    obtain ⟨w0, d0⟩ := hwsome 0 (by omega)
    rw [d0, b0, c0] at p0
    obtain ⟨a0, s0, _, _⟩ := DataW.trod_int u0 p0
    obtain ⟨b1, c1⟩ := hone_of gone 1 g1 rfl
    have p1 := hw 1 g1 rfl
    obtain ⟨w1, d1⟩ := hwsome 1 (by omega)
    rw [d1, b1, c1] at p1
    obtain ⟨a1, s1, _, _⟩ := DataW.trod_int u1 p1
    obtain ⟨b2, c2⟩ := hone_of gone 2 g2 rfl
    have p2 := hw 2 g2 rfl
    obtain ⟨w2, d2⟩ := hwsome 2 (by omega)
    rw [d2, b2, c2] at p2
    obtain ⟨tn, s2⟩ := str_cells u2 p2
    have q2 := hf 2 f2 rfl
    obtain ⟨z2, e2⟩ := hsome 2 (by omega)
    rw [e2, o2, k2] at q2
    obtain ⟨a2, r2, _, _⟩ := DataW.trod_int t2 q2
    have q3 := hf 3 f3 rfl
    obtain ⟨z3, e3⟩ := hsome 3 (by omega)
    rw [e3, o3, k3] at q3
    obtain ⟨A, c, fs, r3, h1, h2, h3, _⟩ := open_els eS (fun _ => True) t3 hsc (fun fuel cs x h => by obtain ⟨l, rfl⟩ := str_cells hss h; exact ⟨l, rfl, trivial⟩) q3
    simp at r0 r2 r3 s0 s1 s2
    exact ⟨⟨⟨nm, a0, a1, tn, a2, fs⟩, A, c⟩, by simp only [vK, r0, r2, r3, s0, s1, s2], h3, h1, h2⟩
/-- a list of spans that came in, its steps of their kinds -/
def RIn (W : World) (r : Rs) : Prop := RL W W.heap.size r ∧ ∀ p ∈ r.l, ∀ x ∈ p.a, x.Rng
theorem spans_cells {t s tl el : TypeId} {f0 f1 f2 g0 g1 : Field} {fuel : Nat} {cs : List Value} {x : DataW H × List MemPlace}
    (ht : P.underlying t = some (.slice s)) (hs : P.underlying s = some (.struct #[f0, f1, f2])) (hone : oneCellFields P #[f0, f1, f2] = true) (hC : P.cellsOf s = 3)
    (t0 : P.underlying f0.type = some (.int .i64)) (t1 : P.underlying f1.type = some (.int .i64)) (t2 : f2.type = tl)
    (htl : P.underlying tl = some (.slice el)) (hel : P.underlying el = some (.struct #[g0, g1])) (gone : oneCellFields P #[g0, g1] = true) (gC : P.cellsOf el = 2)
    (u0 : P.underlying g0.type = some (.int .u8)) (u1 : P.underlying g1.type = some (.int .i64))
    (h : DataW.trod enc P W 0 (fun _ => true) true fuel t cs = some x) : ∃ r : Rs, cs = eR.f r ∧ RIn W r := by
  obtain ⟨A, c, ps, rfl, h1, h2, h3, h4⟩ := open_els ePs (PIn W) ht hC (fun fuel cs x h => span_cells hs hone hC t0 t1 t2 htl hel gone gC u0 u1 h) h
  exact ⟨⟨ps, A, c⟩, rfl, ⟨⟨h3, fun p hp => (h4 p hp).1⟩, h1, h2⟩, fun p hp => (h4 p hp).2⟩
def PIn9 (W : World) (p : Pp) : Prop := PL W W.heap.size p ∧ ∀ r ∈ p.ss, ∀ q ∈ r.l, ∀ x ∈ q.a, x.Rng
theorem place_cells {s tv_ tr : TypeId} {ev er : TypeId} {f0 f1 f2 f3 f4 : Field} {fuel : Nat} {cs : List Value} {x : DataW H × List MemPlace}
    (hs : P.underlying s = some (.struct #[f0, f1, f2, f3, f4])) (hone : oneCellFields P #[f0, f1, f2, f3, f4] = true) (hC : P.cellsOf s = 5)
    (t0 : P.underlying f0.type = some .string) (t1 : P.underlying f1.type = some (.int .i64)) (t2 : P.underlying f2.type = some (.int .i64)) (t3 : f3.type = tv_) (t4 : f4.type = tr)
    (hv : P.underlying tv_ = some (.slice ev)) (hvC : P.cellsOf ev = 6) (hr : P.underlying tr = some (.slice er)) (hrC : P.cellsOf er = 1)
    (vone : ∀ fuel cs x, DataW.trod enc P W 0 (fun _ => true) true fuel ev cs = some x → ∃ p : Pv, cs = (vK p).toList ∧ VL W W.heap.size p)
    (rone : ∀ fuel cs x, DataW.trod enc P W 0 (fun _ => true) true fuel er cs = some x → ∃ r : Rs, cs = eR.f r ∧ RIn W r)
    (h : DataW.trod enc P W 0 (fun _ => true) true fuel s cs = some x) : ∃ p : Pp, cs = (lK p).toList ∧ PIn9 W p := by
  obtain ⟨ys, n, _, _, hlen, hyl, hf⟩ := DataW.trod_struct hs h
  rw [hC] at hlen
  have hsome : ∀ j, j < 5 → ∃ z, ys[j]? = some z := fun j hj => ⟨_, List.getElem?_eq_getElem (by rw [hyl]; exact hj)⟩
  match cs, hlen with
  | [v0, v1, v2, v3, v4], _ =>
    obtain ⟨o0, k0⟩ := hone_of hone 0 f0 rfl
    have q0 := hf 0 f0 rfl
    obtain ⟨z0, e0⟩ := hsome 0 (by omega)
    rw [e0, o0, k0] at q0
    obtain ⟨nm, r0⟩ := str_cells t0 q0
    obtain ⟨o1, k1⟩ := hone_of hone 1 f1 rfl
    have q1 := hf 1 f1 rfl
    obtain ⟨z1, e1⟩ := hsome 1 (by omega)
    rw [e1, o1, k1] at q1
    obtain ⟨a1, r1, _, _⟩ := DataW.trod_int t1 q1
    obtain ⟨o2, k2⟩ := hone_of hone 2 f2 rfl
    have q2 := hf 2 f2 rfl
    obtain ⟨z2, e2⟩ := hsome 2 (by omega)
    rw [e2, o2, k2] at q2
    obtain ⟨a2, r2, _, _⟩ := DataW.trod_int t2 q2
    obtain ⟨o3, k3⟩ := hone_of hone 3 f3 rfl
    have q3 := hf 3 f3 rfl
    obtain ⟨z3, e3⟩ := hsome 3 (by omega)
    rw [e3, o3, k3, t3] at q3
    obtain ⟨A3, c3, vs, r3, b1, b2, b3, b4⟩ := open_els eV (VL W W.heap.size) hv hvC vone q3
    obtain ⟨o4, k4⟩ := hone_of hone 4 f4 rfl
    have q4 := hf 4 f4 rfl
    obtain ⟨z4, e4⟩ := hsome 4 (by omega)
    rw [e4, o4, k4, t4] at q4
    obtain ⟨A4, c4, ss, r4, d1, d2, d3, d4⟩ := open_els eR (RIn W) hr hrC rone q4
    simp at r0 r1 r2 r3 r4
    exact ⟨⟨nm, a1, a2, vs, A3, c3, ss, A4, c4⟩, by simp only [lK, r0, r1, r2, r3, r4], ⟨b3, b4, ⟨b1, b2⟩, d3, fun y hy => (d4 y hy).1, ⟨d1, d2⟩⟩, fun r hr => (d4 r hr).2⟩
theorem point_cells {s tn en : TypeId} {f0 f1 f2 : Field} {fuel : Nat} {cs : List Value} {x : DataW H × List MemPlace}
    (hs : P.underlying s = some (.struct #[f0, f1, f2])) (hone : oneCellFields P #[f0, f1, f2] = true) (hC : P.cellsOf s = 3)
    (t0 : P.underlying f0.type = some (.int .i64)) (t1 : P.underlying f1.type = some (.int .i64)) (t2 : f2.type = tn)
    (hn : P.underlying tn = some (.slice en)) (hnC : P.cellsOf en = 1) (hen : P.underlying en = some (.int .i64))
    (h : DataW.trod enc P W 0 (fun _ => true) true fuel s cs = some x) : ∃ p : Pq, cs = (qK p).toList ∧ QL W W.heap.size p := by
  obtain ⟨ys, n, _, _, hlen, hyl, hf⟩ := DataW.trod_struct hs h
  rw [hC] at hlen
  have hsome : ∀ j, j < 3 → ∃ z, ys[j]? = some z := fun j hj => ⟨_, List.getElem?_eq_getElem (by rw [hyl]; exact hj)⟩
  match cs, hlen with
  | [v0, v1, v2], _ =>
    obtain ⟨o0, k0⟩ := hone_of hone 0 f0 rfl
    have q0 := hf 0 f0 rfl
    obtain ⟨z0, e0⟩ := hsome 0 (by omega)
    rw [e0, o0, k0] at q0
    obtain ⟨a0, r0, _, _⟩ := DataW.trod_int t0 q0
    obtain ⟨o1, k1⟩ := hone_of hone 1 f1 rfl
    have q1 := hf 1 f1 rfl
    obtain ⟨z1, e1⟩ := hsome 1 (by omega)
    rw [e1, o1, k1] at q1
    obtain ⟨a1, r1, _, _⟩ := DataW.trod_int t1 q1
    obtain ⟨o2, k2⟩ := hone_of hone 2 f2 rfl
    have q2 := hf 2 f2 rfl
    obtain ⟨z2, e2⟩ := hsome 2 (by omega)
    rw [e2, o2, k2, t2] at q2
    obtain ⟨A, c, xs, r2, b1, b2, b3, _⟩ := open_els eI (fun _ => True) hn hnC (fun fuel cs x h => by obtain ⟨a, rfl, _, _⟩ := DataW.trod_int hen h; exact ⟨a, rfl, trivial⟩) q2
    simp at r0 r1 r2
    exact ⟨⟨⟨a0, a1, xs⟩, A, c⟩, by simp only [qK, r0, r1, r2], b3, b1, b2⟩
end
/-- a table that came in -/
structure TIn (W : World) (A : Option Addr) (c : Nat) (ps : List Pp) (A2 : Option Addr) (c2 : Nat) (qs : List Pq) : Prop where
  l : TL W W.heap.size A ps
  p : UL W W.heap.size A2 qs
  r : ∀ p ∈ ps, ∀ r ∈ p.ss, ∀ q ∈ r.l, ∀ x ∈ q.a, x.Rng
  lc : ps.length ≤ c ∧ (A = none → c = 0)
  pc : qs.length ≤ c2 ∧ (A2 = none → c2 = 0)
set_option maxRecDepth 100000 in
theorem places_cells {H : Type} {enc : TypeId × Value → H} {W : World} {fuel : Nat} {cs : List Value} {x : DataW H × List MemPlace} (h : DataW.trod enc Tryz.prog W 0 (fun _ => true) true fuel 25 cs = some x) :
    ∃ (A : Option Addr) (c : Nat) (ps : List Pp), cs = [.slice A ps.length c] ∧ ps.length ≤ c ∧ (A = none → c = 0) ∧ TL W W.heap.size A ps ∧ ∀ p ∈ ps, ∀ r ∈ p.ss, ∀ q ∈ r.l, ∀ x ∈ q.a, x.Rng := by
  obtain ⟨A, c, ps, e, h1, h2, h3, h4⟩ := open_els eL (PIn9 W) Tryz.underlying25 (by kernel_rfl) (fun fuel cs x h =>
    place_cells (tv_ := 48) (tr := 49) (ev := 65) (er := 57) Tryz.underlying51 (by kernel_rfl) (by kernel_rfl) (by kernel_rfl) (by kernel_rfl) (by kernel_rfl) rfl rfl
      Tryz.underlying48 (by kernel_rfl) Tryz.underlying49 (by kernel_rfl)
      (fun fuel cs x h => var_cells (ss := 9) Tryz.underlying65 ⟨rfl, rfl, rfl, rfl⟩ ⟨by kernel_rfl, by kernel_rfl, by kernel_rfl, by kernel_rfl⟩ (by kernel_rfl) (by kernel_rfl) Tryz.underlying62 (by kernel_rfl) (by kernel_rfl) (by kernel_rfl) (by kernel_rfl) (by kernel_rfl) Tryz.underlying63 (by kernel_rfl) (by kernel_rfl) h)
      (fun fuel cs x h => spans_cells (s := 56) (tl := 54) (el := 53) Tryz.underlying57 Tryz.underlying56 (by kernel_rfl) (by kernel_rfl) (by kernel_rfl) (by kernel_rfl) rfl Tryz.underlying54 Tryz.underlying53 (by kernel_rfl) (by kernel_rfl) (by kernel_rfl) (by kernel_rfl) h) h) h
  exact ⟨A, c, ps, e, h1, h2, ⟨h3, fun p hp => (h4 p hp).1⟩, fun p hp => (h4 p hp).2⟩
set_option maxRecDepth 100000 in
theorem points_cells {H : Type} {enc : TypeId × Value → H} {W : World} {fuel : Nat} {cs : List Value} {x : DataW H × List MemPlace} (h : DataW.trod enc Tryz.prog W 0 (fun _ => true) true fuel 26 cs = some x) :
    ∃ (A : Option Addr) (c : Nat) (qs : List Pq), cs = [.slice A qs.length c] ∧ qs.length ≤ c ∧ (A = none → c = 0) ∧ UL W W.heap.size A qs := by
  obtain ⟨A, c, ps, e, h1, h2, h3, h4⟩ := open_els eQ (QL W W.heap.size) Tryz.underlying26 (by kernel_rfl) (fun fuel cs x h =>
    point_cells (tn := 58) (en := 3) Tryz.underlying60 (by kernel_rfl) (by kernel_rfl) (by kernel_rfl) (by kernel_rfl) rfl Tryz.underlying58 (by kernel_rfl) (by kernel_rfl) h) h
  exact ⟨A, c, ps, e, h1, h2, h3, h4⟩
set_option maxRecDepth 100000 in
theorem open_table {H : Type} {enc : TypeId × Value → H} {W : World} {base : Nat} {v : Value} {d : DataW H} {p : List MemPlace}
    (hv : Value.okWide Tryz.prog W .any base 35 v) (h : DataW.Trod enc Tryz.prog W 0 (fun _ => true) true 35 v d p) :
    ∃ A c ps A2 c2 qs, v = .agg #[.slice A ps.length c, .slice A2 qs.length c2] ∧ TIn W A c ps A2 c2 qs := by
  obtain ⟨cs, rfl, _⟩ := okWide_struct Tryz.underlying35 hv
  obtain ⟨fuel, hf0⟩ := h
  obtain ⟨ys, n, _, _, hlen, hyl, hf⟩ := DataW.trod_struct Tryz.underlying35 hf0
  rw [show Tryz.prog.cellsOf 35 = 2 by kernel_rfl] at hlen
  have hsome : ∀ j, j < 2 → ∃ z, ys[j]? = some z := fun j hj => ⟨_, List.getElem?_eq_getElem (by rw [hyl]; exact hj)⟩
  obtain ⟨z0, e0⟩ := hsome 0 (by omega)
  obtain ⟨z1, e1⟩ := hsome 1 (by omega)
  have q0 := hf 0 _ rfl
  have q1 := hf 1 _ rfl
  rw [e0] at q0
  rw [e1] at q1
  have hl2 : cs.toList.length = 2 := by simpa [Value.cells] using hlen
  obtain ⟨l, hl⟩ : ∃ l, cs.toList = l := ⟨_, rfl⟩
  rw [hl] at hl2
  match l, hl2 with
  | [v0, v1], _ =>
    simp only [Value.cells, hl] at q0 q1
    obtain ⟨A, c, ps, r0, h1, h2, h3, h4⟩ := places_cells q0
    obtain ⟨A2, c2, qs, r1, k1, k2, k3⟩ := points_cells q1
    have s0 : v0 = .slice A ps.length c := by have := r0; rw [show ([v0, v1].drop _).take _ = [v0] by rfl] at this; injection this
    have s1 : v1 = .slice A2 qs.length c2 := by have := r1; rw [show ([v0, v1].drop _).take _ = [v1] by rfl] at this; injection this
    refine ⟨A, c, ps, A2, c2, qs, ?_, h3, k3, h4, ⟨h1, h2⟩, ⟨k1, k2⟩⟩
    congr 1
    apply Array.ext'
    rw [hl, s0, s1]
end Go.Proofs.YtjagjkogloggpaaGreat

namespace Go.Proofs.YtjagjkogloggpaaGreat
open Go Go.RowKit

theorem mem_like {α β : Type} {f : α → β} {l m : List α} (h : l.map f = m.map f) {x : α} (hx : x ∈ l) : ∃ y ∈ m, f y = f x := by
  have : f x ∈ m.map f := by rw [← h]; exact List.mem_map_of_mem hx
  obtain ⟨y, hy, e⟩ := List.mem_map.1 this
  exact ⟨y, hy, e⟩
theorem sm_like {l m : List Ps} (h : l.map Ps.sp = m.map Ps.sp) (hs : Sm m) : Sm l :=
  ⟨by rw [map_len h]; exact hs.1, fun q hq => by
    obtain ⟨y, hy, e⟩ := mem_like h hq
    have e2 : y.a = q.a := congrArg Sp.a e
    rw [← e2]
    exact hs.2 y hy⟩
theorem few_like {p q : Pp} (h : p.d = q.d) (hs : FewP q) : FewP p := by
  have hv : p.vs.map Pv.d = q.vs.map Pv.d := congrArg Plc.vs h
  have hr : p.ss.map Rs.d = q.ss.map Rs.d := congrArg Plc.ss h
  refine ⟨fun r hr2 => ?_, by rw [map_len hv]; exact hs.2.1, by rw [map_len hr]; exact hs.2.2.1, fun v hv2 => ?_, fun r hr2 => ?_⟩
  · obtain ⟨y, hy, e⟩ := mem_like hr hr2
    exact sm_like e.symm (hs.1 y hy)
  · obtain ⟨y, hy, e⟩ := mem_like hv hv2
    rw [← e]
    exact hs.2.2.2.1 y hy
  · obtain ⟨y, hy, e⟩ := mem_like hr hr2
    have := map_len (show r.l.map Ps.sp = y.l.map Ps.sp from e.symm)
    rw [this]
    exact hs.2.2.2.2 y hy
theorem fewT_like {ps ps2 : List Pp} {qs qs2 : List Pq} (h : ps2.map Pp.d = ps.map Pp.d) (h2 : qs2.map Pq.d = qs.map Pq.d) (hs : FewT ps qs) : FewT ps2 qs2 :=
  ⟨by rw [map_len h]; exact hs.1, by rw [map_len h2]; exact hs.2.1, fun p hp => by
    obtain ⟨y, hy, e⟩ := mem_like h hp
    exact few_like e.symm (hs.2.2.1 y hy), fun q hq => by
    obtain ⟨y, hy, e⟩ := mem_like h2 hq
    rw [← e]
    exact hs.2.2.2 y hy⟩
theorem FewT.same {ps : List Pp} {qs : List Pq} (hs : FewT ps qs) : ps.length ≤ 1099511627776 ∧ ∀ p ∈ ps, SmP p ∧ p.vs.length ≤ 1099511627776 ∧ p.ss.length ≤ 1099511627776 ∧ ∀ v ∈ p.vs, v.d.fs.length ≤ 1099511627776 :=
  ⟨by have := hs.1; omega, fun p hp => ⟨(hs.2.2.1 p hp).1, by have := (hs.2.2.1 p hp).2.1; omega, by have := (hs.2.2.1 p hp).2.2.1; omega, fun v hv => by have := (hs.2.2.1 p hp).2.2.2.1 v hv; omega⟩⟩
theorem FewT.samep {ps : List Pp} {qs : List Pq} (hs : FewT ps qs) : qs.length ≤ 1099511627776 ∧ ∀ q ∈ qs, q.d.sc.length ≤ 1099511627776 :=
  ⟨by have := hs.2.1; omega, fun q hq => by have := hs.2.2.2 q hq; omega⟩
theorem FewT.smT {ps : List Pp} {qs : List Pq} (hs : FewT ps qs) : SmT ps qs := ⟨fun p hp => (hs.2.2.1 p hp).1, fun q hq => by have := hs.2.2.2 q hq; omega⟩

set_option maxRecDepth 100000 in
set_option maxHeartbeats 8000000 in
theorem scopesFinds_any (A A2 : Option Addr) (c c2 : Nat) (ps : List Pp) (qs : List Pq) (pc pt : Int) (nm : List UInt8) (W : World) (hT : TIn W A c ps A2 c2 qs) :
    Calls Tryz.prog 4 #[.agg #[.slice A ps.length c, .slice A2 qs.length c2], .int .i64 pc, .int .i64 pt, .string (str nm)] W (BoolR true W) := by
  have hb1 := below_lnew W (.cells #[.slice A ps.length c, .slice A2 qs.length c2] 35)
  have hc1 : CAt (W.alloc (.cells #[.slice A ps.length c, .slice A2 qs.length c2] 35)) W.heap.size _ [_, _] := heap_alloc_new W (.cells #[.slice A ps.length c, .slice A2 qs.length c2] 35)
  obtain ⟨w1, hw1⟩ : ∃ x, W.alloc (.cells #[.slice A ps.length c, .slice A2 qs.length c2] 35) = x := ⟨_, rfl⟩
  have hz1 : W.heap.size < w1.heap.size := by rw [← hw1]; simp
  rw [hw1] at hb1 hc1
  have t0 := hc1.cell (j := 0) (by simp)
  have t1 := hc1.cell (j := 1) (by simp)
  simp only [List.getElem_cons_zero, List.getElem_cons_succ] at t0 t1
  have HT1 := Lib.hid ((hT.l.below hb1).more hb1.size)
  have HU1 := Lib.hid ((hT.p.below hb1).more hb1.size)
  have HB1 := Lib.hid hb1
  have HV := Lib.hid (vast9_any A A2 c c2 ps qs w1 HT1.out HU1.out)
  clear hT hb1 hc1
  go_enter Tryz.func4, Tryz.ntmps4
  go_wp2_with fail
  clear hw1
  refine HV.out.mono ?_
  rintro e w2 ⟨b, rfl, hb2, hfew⟩
  have HF := Lib.hid hfew
  have HB2 := Lib.hid (HB1.out.trans (hb2.mono (by omega)))
  have t02 := (hb2.cell (p := ⟨W.heap.size, 0, none⟩) hz1).trans t0
  have t12 := (hb2.cell (p := ⟨W.heap.size, 1, none⟩) hz1).trans t1
  have HT2 := Lib.hid (HT1.out.next hb2)
  have HU2 := Lib.hid (HU1.out.next hb2)
  have hz2 : W.heap.size < w2.heap.size := Nat.lt_of_lt_of_le hz1 hb2.size
  clear hfew hb2 t0 t1 HV HT1 HU1
  cases b
  rotate_left
  · go_wp2_with fail
    refine (works9_any _).mono ?_
    rintro e w3 ⟨rfl, hb3⟩
    go_wp2_with fail
    go_ret
    exact ⟨rfl, HB2.out.trans (hb3.mono (by omega))⟩
  have HG := Lib.hid (HF.out rfl)
  clear HF
  by_cases hnm : (1000 : Int) < (str nm).size
  · go_wp2_with fail
    refine (works9_any _).mono ?_
    rintro e w3 ⟨rfl, hb3⟩
    go_wp2_with fail
    go_ret
    exact ⟨rfl, HB2.out.trans (hb3.mono (by omega))⟩
  go_wp2_with fail
  refine (twin9_any A c ps w2 HG.out.1 HG.out.2.2.1 HT2.out).mono ?_
  rintro e w3 ⟨v3, rfl, hm3, hb3⟩
  obtain ⟨A3, c3, ps3, rfl, he3, _, _, hl3⟩ := hm3.tl
  have HE3 := Lib.hid he3
  have HL3 := Lib.hid hl3
  have HB3 := Lib.hid (HB2.out.trans (hb3.mono (by omega)))
  have t03 := (hb3.cell (p := ⟨W.heap.size, 0, none⟩) hz2).trans t02
  have t13 := (hb3.cell (p := ⟨W.heap.size, 1, none⟩) hz2).trans t12
  have HT3 := Lib.hid (HT2.out.next hb3)
  have HU3 := Lib.hid (HU2.out.next hb3)
  have hz3 : W.heap.size < w3.heap.size := Nat.lt_of_lt_of_le hz2 hb3.size
  clear hm3 hb3 he3 hl3 t02 t12 HT2 HU2
  go_wp2_with fail
  refine (twinPoints_any A2 c2 qs w3 HG.out.2.1 HG.out.2.2.2 HU3.out).mono ?_
  rintro e w4 ⟨v4, rfl, hm4, hb4⟩
  obtain ⟨A4, c4, qs4, rfl, he4, _, _, hl4⟩ := hm4.ul
  have HE4 := Lib.hid he4
  have HL4 := Lib.hid (HL3.out.next hb4)
  have HM4 := Lib.hid hl4
  have HB4 := Lib.hid (HB3.out.trans (hb4.mono (by omega)))
  have t04 := (hb4.cell (p := ⟨W.heap.size, 0, none⟩) hz3).trans t03
  have t14 := (hb4.cell (p := ⟨W.heap.size, 1, none⟩) hz3).trans t13
  have HT4 := Lib.hid (HT3.out.next hb4)
  have HU4 := Lib.hid (HU3.out.next hb4)
  have hz4 : W.heap.size < w4.heap.size := Nat.lt_of_lt_of_le hz3 hb4.size
  have HFF := Lib.hid (fewT_like HE3.out he4 HG.out)
  clear hm4 hb4 he4 hl4 t03 t13 HT3 HU3 HL3
  have HIN := Lib.hid (in9_any A3 c3 ps3 pc w4 HFF.out.same.1 HL4.out.1)
  rw [HE3.out] at HIN
  obtain ⟨x1, hx1⟩ : ∃ x, inF pc 0 (ps.map Pp.d) = x := ⟨_, rfl⟩
  rw [hx1] at HIN
  have HX1 := Lib.hid hx1
  clear hx1
  go_wp2_with fail
  refine HIN.out.mono ?_
  rintro e w5 ⟨rfl, hb5⟩
  have HL5 := Lib.hid (HL4.out.next hb5)
  have HM5 := Lib.hid (HM4.out.next hb5)
  have HB5 := Lib.hid (HB4.out.trans (hb5.mono (by omega)))
  have t05 := (hb5.cell (p := ⟨W.heap.size, 0, none⟩) hz4).trans t04
  have t15 := (hb5.cell (p := ⟨W.heap.size, 1, none⟩) hz4).trans t14
  have HT5 := Lib.hid (HT4.out.next hb5)
  have HU5 := Lib.hid (HU4.out.next hb5)
  have hz5 : W.heap.size < w5.heap.size := Nat.lt_of_lt_of_le hz4 hb5.size
  clear hb5 t04 t14 HT4 HU4 HL4 HM4 HIN
  have HIN := Lib.hid (refIn9_any A c ps pc w5 HG.out.same.1 HT5.out.1)
  rw [HX1.out] at HIN
  go_wp2_with fail
  refine HIN.out.mono ?_
  rintro e w6 ⟨rfl, hb6⟩
  have HL6 := Lib.hid (HL5.out.next hb6)
  have HM6 := Lib.hid (HM5.out.next hb6)
  have HB6 := Lib.hid (HB5.out.trans (hb6.mono (by omega)))
  have t06 := (hb6.cell (p := ⟨W.heap.size, 0, none⟩) hz5).trans t05
  have t16 := (hb6.cell (p := ⟨W.heap.size, 1, none⟩) hz5).trans t15
  have HT6 := Lib.hid (HT5.out.next hb6)
  have HU6 := Lib.hid (HU5.out.next hb6)
  have hz6 : W.heap.size < w6.heap.size := Nat.lt_of_lt_of_le hz5 hb6.size
  clear hb6 t05 t15 HT5 HU5 HL5 HM5 HIN
  have HIN := Lib.hid (named9_any A3 A4 c3 c4 ps3 qs4 pt nm w6 HFF.out.samep.2 HL6.out HM6.out)
  rw [HE3.out, HE4.out] at HIN
  obtain ⟨x2, hx2⟩ : ∃ x, nmd (ps.map Pp.d) (qs.map Pq.d) pt nm = x := ⟨_, rfl⟩
  rw [hx2] at HIN
  have HX2 := Lib.hid hx2
  clear hx2
  go_wp2_with fail
  refine HIN.out.mono ?_
  rintro e w7 ⟨rfl, hb7⟩
  have HL7 := Lib.hid (HL6.out.next hb7)
  have HM7 := Lib.hid (HM6.out.next hb7)
  have HB7 := Lib.hid (HB6.out.trans (hb7.mono (by omega)))
  have t07 := (hb7.cell (p := ⟨W.heap.size, 0, none⟩) hz6).trans t06
  have t17 := (hb7.cell (p := ⟨W.heap.size, 1, none⟩) hz6).trans t16
  have HT7 := Lib.hid (HT6.out.next hb7)
  have HU7 := Lib.hid (HU6.out.next hb7)
  have hz7 : W.heap.size < w7.heap.size := Nat.lt_of_lt_of_le hz6 hb7.size
  clear hb7 t06 t16 HT6 HU6 HL6 HM6 HIN
  have HIN := Lib.hid (refNamed9_any A A2 c c2 ps qs pt nm w7 HG.out.samep.2 HT7.out HU7.out)
  rw [HX2.out] at HIN
  go_wp2_with fail
  refine HIN.out.mono ?_
  rintro e w8 ⟨rfl, hb8⟩
  have HL8 := Lib.hid (HL7.out.next hb8)
  have HM8 := Lib.hid (HM7.out.next hb8)
  have HB8 := Lib.hid (HB7.out.trans (hb8.mono (by omega)))
  have t08 := (hb8.cell (p := ⟨W.heap.size, 0, none⟩) hz7).trans t07
  have t18 := (hb8.cell (p := ⟨W.heap.size, 1, none⟩) hz7).trans t17
  have HT8 := Lib.hid (HT7.out.next hb8)
  have HU8 := Lib.hid (HU7.out.next hb8)
  have hz8 : W.heap.size < w8.heap.size := Nat.lt_of_lt_of_le hz7 hb8.size
  clear hb8 t07 t17 HT7 HU7 HL7 HM7 HIN
  go_wp2_with fail
  refine (same9_any A3 A c3 c ps3 ps w8 HE3.out HFF.out.same.1 HFF.out.same.2 HL8.out HT8.out).mono ?_
  rintro e w9 ⟨rfl, hb9⟩
  have HM9 := Lib.hid (HM8.out.next hb9)
  have HB9 := Lib.hid (HB8.out.trans (hb9.mono (by omega)))
  have t19 := (hb9.cell (p := ⟨W.heap.size, 1, none⟩) hz8).trans t18
  have HU9 := Lib.hid (HU8.out.next hb9)
  have hz9 : W.heap.size < w9.heap.size := Nat.lt_of_lt_of_le hz8 hb9.size
  clear hb9 t08 t18 HT8 HU8 HL8 HM8
  go_wp2_with fail
  refine (samePoints_any A4 A2 c4 c2 qs4 qs w9 HE4.out HFF.out.samep.1 HFF.out.samep.2 HM9.out HU9.out).mono ?_
  rintro e wA ⟨rfl, hbA⟩
  have HBA := Lib.hid (HB9.out.trans (hbA.mono (by omega)))
  have hzA : W.heap.size < wA.heap.size := Nat.lt_of_lt_of_le hz9 hbA.size
  clear hbA t19 HU9 HM9
  go_wp2_with fail
  refine (works9_any _).mono ?_
  rintro e wB ⟨rfl, hbB⟩
  have HBB := Lib.hid (HBA.out.trans (hbB.mono (by omega)))
  go_wp2_with fail
  go_ret
  exact ⟨rfl, HBB.out⟩
end Go.Proofs.YtjagjkogloggpaaGreat
