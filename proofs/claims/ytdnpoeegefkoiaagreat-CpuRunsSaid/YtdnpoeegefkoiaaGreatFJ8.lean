/-
  Merged for a claim: KI, C4O.
-/
import Derived.Test.YtdnpoeegefkoiaaGreatFJ0
import Derived.Test.YtdnpoeegefkoiaaGreatFJ3
import Derived.Deep.Slices
import Derived.Deep.Fields
import Derived.Test.YtdnpoeegefkoiaaGreatFC4K
namespace Go.Proofs.YtdnpoeegefkoiaaGreat
open Go.ChangeShapes Go.WideShapes Go.ChangeAt Go.RowKit Go.Deep

def iC (i : Ins) : List Value := (ic i).toList
theorem iC_len (i : Ins) : (iC i).length = 7 := rfl
theorem iC_one (i : Ins) : ∀ u ∈ iC i, u.oneCell' = true := by
  intro u hu
  simp only [iC, ic, List.mem_cons, List.not_mem_nil, or_false] at hu
  rcases hu with rfl | rfl | rfl | rfl | rfl | rfl | rfl <;> rfl

/-- instructions that lie at an address below a block's number -/
def ILies (w : World) (B : Nat) (A : Option Addr) (xs : List Ins) : Prop :=
  0 < xs.length → ∃ g o, A = some ⟨g, o, none⟩ ∧ g < B ∧ ∀ j (hj : j < xs.length) f u, (iC xs[j])[f]? = some u → w.cell? ⟨g, o + (j * 7 + f), none⟩ = some u
theorem ILies.below {w w' : World} {B : Nat} {A : Option Addr} {xs : List Ins} (h : ILies w B A xs) (hb : Below B w w') : ILies w' B A xs := fun hl => by
  obtain ⟨g, o, e, hg, hc⟩ := h hl
  exact ⟨g, o, e, hg, fun j hj f u hu => (hb.cell hg).trans (hc j hj f u hu)⟩
theorem ILies.at_ {w : World} {B : Nat} {A : Option Addr} {xs : List Ins} (h : ILies w B A xs) {j : Nat} (hj : j < xs.length) :
    ∃ g o, A = some ⟨g, o, none⟩ ∧ g < B ∧ w.cell? ⟨g, o + j * 7, none⟩ = some (.int .u8 xs[j].k) ∧ w.cell? ⟨g, o + j * 7 + 1, none⟩ = some (.int .u8 xs[j].o) ∧ w.cell? ⟨g, o + j * 7 + 2, none⟩ = some (.int .i64 xs[j].r) ∧
      w.cell? ⟨g, o + j * 7 + 3, none⟩ = some (.int .i64 xs[j].s) ∧ w.cell? ⟨g, o + j * 7 + 4, none⟩ = some (.int .i64 xs[j].t) ∧ w.cell? ⟨g, o + j * 7 + 5, none⟩ = some (.int .i64 xs[j].n) ∧ w.cell? ⟨g, o + j * 7 + 6, none⟩ = some (.int .i64 xs[j].m) := by
  obtain ⟨g, o, e, hg, hc⟩ := h (by omega)
  have c := fun f u hu => hc j hj f u hu
  simp only [← Nat.add_assoc] at c
  exact ⟨g, o, e, hg, c 0 _ rfl, c 1 _ rfl, c 2 _ rfl, c 3 _ rfl, c 4 _ rfl, c 5 _ rfl, c 6 _ rfl⟩

theorem open_ins_cells {H : Type} {enc : TypeId × Value → H} {P : Program} {w : World} {base : Nat} {spare : Nat → Bool} {held : Bool} {e : TypeId} {f0 f1 f2 f3 f4 f5 f6 : Field} {fuel : Nat} {cs : List Value} {x : DataW H × List MemPlace}
    (hs : P.underlying e = some (.struct #[f0, f1, f2, f3, f4, f5, f6])) (hone : oneCellFields P #[f0, f1, f2, f3, f4, f5, f6] = true) (hC : P.cellsOf e = 7)
    (t0 : P.underlying f0.type = some (.int .u8)) (t1 : P.underlying f1.type = some (.int .u8)) (t2 : P.underlying f2.type = some (.int .i64)) (t3 : P.underlying f3.type = some (.int .i64)) (t4 : P.underlying f4.type = some (.int .i64)) (t5 : P.underlying f5.type = some (.int .i64)) (t6 : P.underlying f6.type = some (.int .i64))
    (h : DataW.trod enc P w base spare held fuel e cs = some x) : ∃ y : Ins, y.Rng ∧ cs = iC y := by
  obtain ⟨ys, n, _, _, hlen, hyl, hf⟩ := DataW.trod_struct hs h
  rw [hC] at hlen
  have hsome : ∀ j, j < 7 → ∃ z, ys[j]? = some z := fun j hj => ⟨_, List.getElem?_eq_getElem (by rw [hyl]; exact hj)⟩
  match cs, hlen with
  | [v0, v1, v2, v3, v4, v5, v6], _ =>
    obtain ⟨o0, k0⟩ := hone_of hone 0 f0 rfl
    have g0 := hf 0 f0 rfl
    obtain ⟨z0, e0⟩ := hsome 0 (by omega)
    rw [e0, o0, k0] at g0
    obtain ⟨a0, c0, _, q0⟩ := DataW.trod_int t0 g0
    obtain ⟨o1, k1⟩ := hone_of hone 1 f1 rfl
    have g1 := hf 1 f1 rfl
    obtain ⟨z1, e1⟩ := hsome 1 (by omega)
    rw [e1, o1, k1] at g1
    obtain ⟨a1, c1, _, q1⟩ := DataW.trod_int t1 g1
    obtain ⟨o2, k2⟩ := hone_of hone 2 f2 rfl
    have g2 := hf 2 f2 rfl
    obtain ⟨z2, e2⟩ := hsome 2 (by omega)
    rw [e2, o2, k2] at g2
    obtain ⟨a2, c2, _, q2⟩ := DataW.trod_int t2 g2
    obtain ⟨o3, k3⟩ := hone_of hone 3 f3 rfl
    have g3 := hf 3 f3 rfl
    obtain ⟨z3, e3⟩ := hsome 3 (by omega)
    rw [e3, o3, k3] at g3
    obtain ⟨a3, c3, _, q3⟩ := DataW.trod_int t3 g3
    obtain ⟨o4, k4⟩ := hone_of hone 4 f4 rfl
    have g4 := hf 4 f4 rfl
    obtain ⟨z4, e4⟩ := hsome 4 (by omega)
    rw [e4, o4, k4] at g4
    obtain ⟨a4, c4, _, q4⟩ := DataW.trod_int t4 g4
    obtain ⟨o5, k5⟩ := hone_of hone 5 f5 rfl
    have g5 := hf 5 f5 rfl
    obtain ⟨z5, e5⟩ := hsome 5 (by omega)
    rw [e5, o5, k5] at g5
    obtain ⟨a5, c5, _, q5⟩ := DataW.trod_int t5 g5
    obtain ⟨o6, k6⟩ := hone_of hone 6 f6 rfl
    have g6 := hf 6 f6 rfl
    obtain ⟨z6, e6⟩ := hsome 6 (by omega)
    rw [e6, o6, k6] at g6
    obtain ⟨a6, c6, _, q6⟩ := DataW.trod_int t6 g6
    simp at c0 c1 c2 c3 c4 c5 c6
    have b0 := bounds_u8 q0
    have b1 := bounds_u8 q1
    have b2 := bounds_i64 q2
    have b3 := bounds_i64 q3
    have b4 := bounds_i64 q4
    have b5 := bounds_i64 q5
    have b6 := bounds_i64 q6
    refine ⟨⟨a0, a1, a2, a3, a4, a5, a6⟩, ⟨(by simp only; omega), (by simp only; omega), (by simp only; omega), (by simp only; omega), (by simp only; omega), (by simp only; omega), (by simp only; omega), (by simp only; omega), (by simp only; omega), (by simp only; omega), (by simp only; omega), (by simp only; omega), (by simp only; omega), (by simp only; omega)⟩, ?_⟩
    simp only [iC, ic, c0, c1, c2, c3, c4, c5, c6]

theorem open_ins {H : Type} {enc : TypeId × Value → H} {P : Program} {W : World} {base : Nat} {e : TypeId} {f0 f1 f2 f3 f4 f5 f6 : Field} {v : Value} {d : DataW H} {p : List MemPlace}
    (hs : P.underlying e = some (.struct #[f0, f1, f2, f3, f4, f5, f6])) (hone : oneCellFields P #[f0, f1, f2, f3, f4, f5, f6] = true) (hC : P.cellsOf e = 7)
    (t0 : P.underlying f0.type = some (.int .u8)) (t1 : P.underlying f1.type = some (.int .u8)) (t2 : P.underlying f2.type = some (.int .i64)) (t3 : P.underlying f3.type = some (.int .i64)) (t4 : P.underlying f4.type = some (.int .i64)) (t5 : P.underlying f5.type = some (.int .i64)) (t6 : P.underlying f6.type = some (.int .i64))
    (hv : Value.okWide P W .any base e v) (h : DataW.Trod enc P W 0 (fun _ => true) true e v d p) : ∃ y : Ins, y.Rng ∧ v = iv y := by
  obtain ⟨cs, rfl, _⟩ := okWide_struct hs hv
  obtain ⟨fuel, hf⟩ := h
  obtain ⟨y, hy, he⟩ := open_ins_cells hs hone hC t0 t1 t2 t3 t4 t5 t6 hf
  refine ⟨y, hy, ?_⟩
  have : cs.toList = iC y := by simpa [Value.cells] using he
  show Value.agg cs = Value.agg (ic y)
  congr 1
  apply Array.ext'
  exact this

theorem open_instrs {H : Type} {enc : TypeId × Value → H} {P : Program} {W : World} {base : Nat} {t e : TypeId} {f0 f1 f2 f3 f4 f5 f6 : Field} {v : Value} {d : DataW H} {p : List MemPlace}
    (ht : P.underlying t = some (.slice e)) (hs : P.underlying e = some (.struct #[f0, f1, f2, f3, f4, f5, f6])) (hone : oneCellFields P #[f0, f1, f2, f3, f4, f5, f6] = true) (hC : P.cellsOf e = 7)
    (t0 : P.underlying f0.type = some (.int .u8)) (t1 : P.underlying f1.type = some (.int .u8)) (t2 : P.underlying f2.type = some (.int .i64)) (t3 : P.underlying f3.type = some (.int .i64)) (t4 : P.underlying f4.type = some (.int .i64)) (t5 : P.underlying f5.type = some (.int .i64)) (t6 : P.underlying f6.type = some (.int .i64))
    (hv : Value.okWide P W .any base t v) (h : DataW.Trod enc P W 0 (fun _ => true) true t v d p) :
    ∃ (A : Option Addr) (c : Nat) (xs : List Ins), v = .slice A xs.length c ∧ xs.length ≤ c ∧ (∀ x ∈ xs, x.Rng) ∧ ILies W W.heap.size A xs := by
  obtain ⟨a0, len, cap, rfl⟩ := okWide_slice ht hv
  obtain ⟨fuel, hf⟩ := h
  rcases open_slice ht hf with ⟨hcs, _⟩ | ⟨a, len', cap', m, n, D, Pl, hcs, _, hl, _, hm, _, hel⟩
  · simp [Value.cells] at hcs
    obtain ⟨rfl, rfl, rfl⟩ := hcs
    exact ⟨none, 0, [], rfl, Nat.le_refl _, fun x hx => absurd hx (by simp), fun h => absurd h (by simp)⟩
  · simp [Value.cells] at hcs
    obtain ⟨rfl, rfl, rfl⟩ := hcs
    simp only [if_true] at hm
    subst hm
    have each : ∀ i, i < len → ∃ y : Ins, y.Rng ∧ ∀ f u, (iC y)[f]? = some u → W.cell? (a.add (i * 7 + f)) = some u := fun i hi => by
      obtain ⟨cs', hc, htr⟩ := hel i (by omega)
      obtain ⟨y, hy, rfl⟩ := open_ins_cells hs hone hC t0 t1 t2 t3 t4 t5 t6 htr
      obtain ⟨_, hcl, hat⟩ := World.cells?_some hc
      refine ⟨y, hy, fun f u hu => ?_⟩
      have hf5 : f < 7 := by have := (List.getElem?_eq_some_iff.1 hu).1; simpa [iC_len] using this
      have := hat f (by rw [hC]; exact hf5)
      rw [hu, hC, add_add] at this
      exact this
    have hlist : ∀ k, k ≤ len → ∃ xs : List Ins, xs.length = k ∧ (∀ x ∈ xs, x.Rng) ∧ ∀ j (hj : j < xs.length) f u, (iC xs[j])[f]? = some u → W.cell? (a.add (j * 7 + f)) = some u := by
      intro k
      induction k with
      | zero => intro _; exact ⟨[], rfl, fun x hx => absurd hx (by simp), fun j hj => absurd hj (by simp)⟩
      | succ k ih =>
        intro hk
        obtain ⟨xs, hx, hr, hall⟩ := ih (by omega)
        obtain ⟨y, hyr, hy⟩ := each k (by omega)
        refine ⟨xs ++ [y], by simp [hx], fun x hx => ?_, fun j hj f u hu => ?_⟩
        · rcases List.mem_append.1 hx with h | h
          · exact hr x h
          · simp at h; subst h; exact hyr
        · by_cases hjk : j < xs.length
          · rw [List.getElem_append_left hjk] at hu
            exact hall j hjk f u hu
          · have : j = xs.length := by simp at hj; omega
            subst this
            simp at hu
            rw [hx]
            exact hy f u hu
    obtain ⟨xs, hx, hr, hall⟩ := hlist len (Nat.le_refl _)
    subst hx
    refine ⟨some a, _, xs, rfl, hl, hr, fun hp => ?_⟩
    have h0 := hall 0 hp 0 _ rfl
    obtain ⟨b, off, spot⟩ := a
    have hspot : spot = none := by simpa [Addr.add] using World.cell?_spot h0
    subst hspot
    refine ⟨b, off, rfl, ?_, fun j hj f u hu => ?_⟩
    · have := World.block_lt_of_cell? W _ h0
      simpa [Addr.add] using this
    · have := hall j hj f u hu
      rw [add_zero_off] at this
      exact this

theorem ins_info : (Tryz.prog.info? 53).map (fun i => (i.zero, i.size, i.bytes)) = some (some (.agg #[.int .u8 0, .int .u8 0, .int .i64 0, .int .i64 0, .int .i64 0, .int .i64 0, .int .i64 0]), 7, 48) := by kernel_rfl
/-- a row of instructions of the call's own -/
def IOwn (w : World) (B : Nat) (v : Value) (xs : List Ins) : Prop := w.ownsRow B 53 7 v xs.length (xs.flatMap iC)
theorem IOwn.nil (w : World) (B : Nat) : IOwn w B (.slice none 0 0) [] := World.ownsRow_nil w B _ _
theorem flat_len (xs : List Ins) : (xs.flatMap iC).length = xs.length * 7 := by
  induction xs with
  | nil => rfl
  | cons x xs ih => simp [iC_len, ih]; omega
theorem flat_get : ∀ (xs : List Ins) (j f : Nat) (hj : j < xs.length) (_ : f < 7), (xs.flatMap iC)[j * 7 + f]? = (iC xs[j])[f]?
  | x :: xs, 0, f, _, hf => by
    rw [List.flatMap_cons, List.getElem?_append_left (by rw [iC_len]; omega)]
    simp
  | x :: xs, j + 1, f, hj, hf => by
    rw [List.flatMap_cons, List.getElem?_append_right (by rw [iC_len]; omega), iC_len, show (j + 1) * 7 + f - 7 = j * 7 + f by omega, flat_get xs j f (by simpa using hj) hf]
    simp
theorem IOwn.form {w : World} {B : Nat} {v : Value} {xs : List Ins} (h : IOwn w B v xs) : ∃ A c, v = .slice A xs.length c ∧ xs.length ≤ c ∧ ILies w w.heap.size A xs := by
  have h' := h
  rcases h.2 with ⟨rfl, h0⟩ | ⟨g, cap, cur, rfl, hg, hh, hn, _, hsz, ht⟩
  · have : xs = [] := List.eq_nil_of_length_eq_zero h0
    subst this
    exact ⟨none, 0, rfl, Nat.le_refl _, fun h => absurd h (by simp)⟩
  · have hlt : g < w.heap.size := by
      rcases Nat.lt_or_ge g w.heap.size with h | h
      · exact h
      · rw [Array.getElem?_eq_none h] at hh; cases hh
    refine ⟨_, cap, rfl, hn, fun _ => ⟨g, 0, rfl, hlt, fun j hj f u hu => ?_⟩⟩
    have hf : f < 7 := by have := (List.getElem?_eq_some_iff.1 hu).1; simpa [iC_len] using this
    have := World.ownsRow.cellAt h' (j * 7 + f) (by omega)
    rw [Nat.zero_add, this, flat_get xs j f hj hf, hu]

section
variable {ops : Array Oper} {rest : List Oper} {o : Oper} {a : Act} {Q : Exit → Act → World → Prop}
/-- append of one instruction onto such a row -/
theorem app_ins (w : World) (hgd : o.guard = none) (s x : Operand) (ho : o.op = .call { callee := .builtin .append, args := #[s, x], argTypes := #[22, 22] })
    (B : Nat) (v : Value) (xs : List Ins) (hs : a.eval s = v) (hown : IOwn w B v xs) (g c : Nat) (y : Ins) (hx : a.eval x = .slice (some ⟨g, 0, none⟩) 1 c) (hy : InsAt w g y)
    (hn : xs.length ≤ 1000) (hB : B ≤ w.heap.size) (h : ∀ v' w', IOwn w' B v' (xs ++ [y]) → w.grownBy w' v.ownBlock → wpList Tryz.prog ops Q rest (a.put o.dst v') w') : wpList Tryz.prog ops Q (o :: rest) a w := by
  obtain ⟨i0, hi0, hz0, hz1, hz2⟩ := info_parts ins_info
  refine wpList_append_own w hgd s x 22 ho B 53 i0 _ 7 48 Tryz.underlying22 hi0 hz0 hz1 hz2 rfl (by omega) v xs.length (xs.flatMap iC) hs hown ⟨g, 0, none⟩ 1 c (iC y) hx rfl ?_ (iC_one y)
    (by simp only [maxLen]; omega) (by omega) hB fun v' w' h1 h2 _ => h v' w' ?_ h2
  · intro j u hu
    have hj : j < 7 := by have := (List.getElem?_eq_some_iff.1 hu).1; simpa [iC_len] using this
    rw [add_zero_off, Nat.zero_add]
    unfold InsAt at hy
    simp only [World.cell?, hy]
    simpa [iC] using hu
  · show w'.ownsRow B _ 7 v' (xs ++ [y]).length ((xs ++ [y]).flatMap iC)
    rw [List.flatMap_append, List.length_append]
    simpa using h1
end
end Go.Proofs.YtdnpoeegefkoiaaGreat

namespace Go.Proofs.YtdnpoeegefkoiaaGreat
open Go.ChangeShapes Go.WideShapes Go.ChangeAt Go.RowKit Go.Deep

section
variable {H : Type} {enc : TypeId × Value → H} {P : Program} {W : World} {t e : TypeId} {fuel : Nat} {cs : List Value} {x : DataW H × List MemPlace}
theorem cells_bytes (ht : P.underlying t = some (.slice e)) (he : P.underlying e = some (.int .u8)) (hc : P.cellsOf e = 1) (h : DataW.trod enc P W 0 (fun _ => true) true fuel t cs = some x) :
    ∃ (A : Option Addr) (c : Nat) (l : List UInt8), cs = [.slice A l.length c] ∧ l.length ≤ c ∧ (A = none → c = 0) ∧ Lies W W.heap.size A l := by
  rcases open_ints ht he hc h with ⟨hcs, hx⟩ | ⟨a, len, cap, zs, hcs, _, hl, hm, hz, hx, hcell, hwz⟩
  · exact ⟨none, 0, [], hcs, Nat.le_refl _, fun _ => rfl, Lies.empty _ _ _⟩
  · simp only [if_true] at hz
    have hlen : ((zs.take len).map fun z => UInt8.ofNat z.toNat).length = len := by simp; omega
    refine ⟨some a, cap, (zs.take len).map fun z => UInt8.ofNat z.toNat, by rw [hlen]; exact hcs, by rw [hlen]; exact hl, fun h => by (cases h), ?_⟩
    intro h0
    rw [hlen] at h0
    obtain ⟨b, off, rfl, hcc⟩ := ints_at hcell (by omega)
    refine ⟨b, off, rfl, World.block_lt_of_cell? W _ (hcc 0 (by omega)), fun j hj => ?_⟩
    rw [hlen] at hj
    have h1 := hcc j (by omega)
    have hb := bounds_u8 (hwz (zs[j]'(by omega)) (List.getElem_mem _))
    rw [h1]
    have e1 : zs.getD j 0 = zs[j]'(by omega) := by simp [List.getD, show j < zs.length by omega]
    have e2 : (((zs.take len).map fun z => UInt8.ofNat z.toNat)[j]'(by rw [hlen]; exact hj)).toNat = (zs[j]'(by omega)).toNat := by
      simp; omega
    rw [e2, e1]
    congr 2
    omega
theorem cells_ints (ht : P.underlying t = some (.slice e)) (he : P.underlying e = some (.int .i64)) (hc : P.cellsOf e = 1) (h : DataW.trod enc P W 0 (fun _ => true) true fuel t cs = some x) :
    ∃ (A : Option Addr) (c : Nat) (l : List Int), cs = [.slice A l.length c] ∧ l.length ≤ c ∧ (A = none → c = 0) ∧ ILs W A l := by
  rcases open_ints ht he hc h with ⟨hcs, hx⟩ | ⟨a, len, cap, zs, hcs, _, hl, hm, hz, hx, hcell, hwz⟩
  · exact ⟨none, 0, [], hcs, Nat.le_refl _, fun _ => rfl, fun h => absurd h (by simp)⟩
  · simp only [if_true] at hz
    have hlen : (zs.take len).length = len := by simp; omega
    refine ⟨some a, cap, zs.take len, by rw [hlen]; exact hcs, by rw [hlen]; exact hl, fun h => by (cases h), ?_⟩
    intro h0
    rw [hlen] at h0
    obtain ⟨b, off, rfl, hcc⟩ := ints_at hcell (by omega)
    refine ⟨b, off, rfl, World.block_lt_of_cell? W _ (hcc 0 (by omega)), fun j hj => ?_⟩
    rw [hlen] at hj
    rw [hcc j (by omega)]
    congr 2
    simp [hj]
theorem cells_instrs {f0 f1 f2 f3 f4 f5 f6 : Field} (ht : P.underlying t = some (.slice e)) (hs : P.underlying e = some (.struct #[f0, f1, f2, f3, f4, f5, f6])) (hone : oneCellFields P #[f0, f1, f2, f3, f4, f5, f6] = true) (hC : P.cellsOf e = 7)
    (t0 : P.underlying f0.type = some (.int .u8)) (t1 : P.underlying f1.type = some (.int .u8)) (t2 : P.underlying f2.type = some (.int .i64)) (t3 : P.underlying f3.type = some (.int .i64)) (t4 : P.underlying f4.type = some (.int .i64)) (t5 : P.underlying f5.type = some (.int .i64)) (t6 : P.underlying f6.type = some (.int .i64))
    (h : DataW.trod enc P W 0 (fun _ => true) true fuel t cs = some x) :
    ∃ (A : Option Addr) (c : Nat) (xs : List Ins), cs = [.slice A xs.length c] ∧ xs.length ≤ c ∧ (∀ x ∈ xs, x.Rng) ∧ ILies W W.heap.size A xs := by
  rcases open_slice ht h with ⟨hcs, _⟩ | ⟨a, len, cap, m, n, D, Pl, hcs, _, hl, _, hm, _, hel⟩
  · exact ⟨none, 0, [], hcs, Nat.le_refl _, fun x hx => absurd hx (by simp), fun h => absurd h (by simp)⟩
  · simp only [if_true] at hm
    subst hm
    have each : ∀ i, i < len → ∃ y : Ins, y.Rng ∧ ∀ f u, (iC y)[f]? = some u → W.cell? (a.add (i * 7 + f)) = some u := fun i hi => by
      obtain ⟨cs', hc, htr⟩ := hel i (by omega)
      obtain ⟨y, hy, rfl⟩ := open_ins_cells hs hone hC t0 t1 t2 t3 t4 t5 t6 htr
      obtain ⟨_, hcl, hat⟩ := World.cells?_some hc
      refine ⟨y, hy, fun f u hu => ?_⟩
      have hf5 : f < 7 := by have := (List.getElem?_eq_some_iff.1 hu).1; simpa [iC_len] using this
      have := hat f (by rw [hC]; exact hf5)
      rw [hu, hC, add_add] at this
      exact this
    have hlist : ∀ k, k ≤ len → ∃ xs : List Ins, xs.length = k ∧ (∀ x ∈ xs, x.Rng) ∧ ∀ j (hj : j < xs.length) f u, (iC xs[j])[f]? = some u → W.cell? (a.add (j * 7 + f)) = some u := by
      intro k
      induction k with
      | zero => intro _; exact ⟨[], rfl, fun x hx => absurd hx (by simp), fun j hj => absurd hj (by simp)⟩
      | succ k ih =>
        intro hk
        obtain ⟨xs, hx, hr, hall⟩ := ih (by omega)
        obtain ⟨y, hyr, hy⟩ := each k (by omega)
        refine ⟨xs ++ [y], by simp [hx], fun x hx => ?_, fun j hj f u hu => ?_⟩
        · rcases List.mem_append.1 hx with h | h
          · exact hr x h
          · simp at h; subst h; exact hyr
        · by_cases hjk : j < xs.length
          · rw [List.getElem_append_left hjk] at hu
            exact hall j hjk f u hu
          · have : j = xs.length := by simp at hj; omega
            subst this
            simp at hu
            rw [hx]
            exact hy f u hu
    obtain ⟨xs, hx, hr, hall⟩ := hlist len (Nat.le_refl _)
    subst hx
    refine ⟨some a, _, xs, hcs, hl, hr, fun hp => ?_⟩
    have h0 := hall 0 hp 0 _ rfl
    obtain ⟨b, off, spot⟩ := a
    have hspot : spot = none := by simpa [Addr.add] using World.cell?_spot h0
    subst hspot
    refine ⟨b, off, rfl, ?_, fun j hj f u hu => ?_⟩
    · have := World.block_lt_of_cell? W _ h0
      simpa [Addr.add] using this
    · have := hall j hj f u hu
      rw [add_zero_off] at this
      exact this
end

/-- a case -/
structure Cs where
  xs : List Ins
  bs : List UInt8
  st : Int
  wd : Int
  inp : List Int
  fu : Int
  A0 : Option Addr
  c0 : Nat
  A1 : Option Addr
  c1 : Nat
  A2 : Option Addr
  c2 : Nat
def csC (c : Cs) : Array Value := #[.slice c.A0 c.xs.length c.c0, .slice c.A1 c.bs.length c.c1, .int .i64 c.st, .int .i64 c.wd, .slice c.A2 c.inp.length c.c2, .int .i64 c.fu]
structure CsIn (W : World) (c : Cs) : Prop where
  rng : ∀ x ∈ c.xs, x.Rng
  l0 : ILies W W.heap.size c.A0 c.xs
  h0 : c.xs.length ≤ c.c0
  l1 : Lies W W.heap.size c.A1 c.bs
  h1 : c.bs.length ≤ c.c1
  n1 : c.A1 = none → c.c1 = 0
  l2 : ILs W c.A2 c.inp
  h2 : c.inp.length ≤ c.c2
  s0 : -9223372036854775808 ≤ c.st
  s1 : c.st < 9223372036854775808
  w0 : -9223372036854775808 ≤ c.wd
  w1 : c.wd < 9223372036854775808
  f0 : -9223372036854775808 ≤ c.fu
  f1 : c.fu < 9223372036854775808
theorem CsIn.below {w w' : World} {c : Cs} (h : CsIn w c) (hb : Below w.heap.size w w') : CsIn w' c :=
  ⟨h.rng, fun hl => by
    obtain ⟨g, o, e, hg, hc⟩ := h.l0 hl
    exact ⟨g, o, e, Nat.lt_of_lt_of_le hg hb.size, fun j hj f u hu => (hb.cell hg).trans (hc j hj f u hu)⟩, h.h0, (h.l1.below hb).more hb.size, h.h1, h.n1, h.l2.below hb, h.h2, h.s0, h.s1, h.w0, h.w1, h.f0, h.f1⟩

theorem case_cells {H : Type} {enc : TypeId × Value → H} {P : Program} {W : World} {e ti tb tn ei eb en : TypeId} {g0 g1 g2 g3 g4 g5 g6 f0 f1 f2 f3 f4 f5 : Field} {fuel : Nat} {cs : List Value} {x : DataW H × List MemPlace}
    (hs : P.underlying e = some (.struct #[f0, f1, f2, f3, f4, f5])) (hone : oneCellFields P #[f0, f1, f2, f3, f4, f5] = true) (hC : P.cellsOf e = 6)
    (t0 : f0.type = ti) (t1 : f1.type = tb) (t2 : P.underlying f2.type = some (.int .i64)) (t3 : P.underlying f3.type = some (.int .i64)) (t4 : f4.type = tn) (t5 : P.underlying f5.type = some (.int .i64))
    (hti : P.underlying ti = some (.slice ei)) (hei : P.underlying ei = some (.struct #[g0, g1, g2, g3, g4, g5, g6])) (hion : oneCellFields P #[g0, g1, g2, g3, g4, g5, g6] = true) (hiC : P.cellsOf ei = 7)
    (u0 : P.underlying g0.type = some (.int .u8)) (u1 : P.underlying g1.type = some (.int .u8)) (u2 : P.underlying g2.type = some (.int .i64)) (u3 : P.underlying g3.type = some (.int .i64)) (u4 : P.underlying g4.type = some (.int .i64)) (u5 : P.underlying g5.type = some (.int .i64)) (u6 : P.underlying g6.type = some (.int .i64))
    (htb : P.underlying tb = some (.slice eb)) (heb : P.underlying eb = some (.int .u8)) (hbC : P.cellsOf eb = 1) (htn : P.underlying tn = some (.slice en)) (hen : P.underlying en = some (.int .i64)) (hnC : P.cellsOf en = 1)
    (h : DataW.trod enc P W 0 (fun _ => true) true fuel e cs = some x) : ∃ c : Cs, cs = (csC c).toList ∧ CsIn W c := by
  obtain ⟨ys, n, _, _, hlen, hyl, hf⟩ := DataW.trod_struct hs h
  rw [hC] at hlen
  have hsome : ∀ j, j < 6 → ∃ z, ys[j]? = some z := fun j hj => ⟨_, List.getElem?_eq_getElem (by rw [hyl]; exact hj)⟩
  match cs, hlen with
  | [v0, v1, v2, v3, v4, v5], _ =>
    obtain ⟨o0, k0⟩ := hone_of hone 0 f0 rfl
    have q0 := hf 0 f0 rfl
    obtain ⟨z0, e0⟩ := hsome 0 (by omega)
    rw [e0, o0, k0, t0] at q0
    obtain ⟨A0, c0, xs, r0, a0, b0, d0⟩ := cells_instrs hti hei hion hiC u0 u1 u2 u3 u4 u5 u6 q0
    obtain ⟨o1, k1⟩ := hone_of hone 1 f1 rfl
    have q1 := hf 1 f1 rfl
    obtain ⟨z1, e1⟩ := hsome 1 (by omega)
    rw [e1, o1, k1, t1] at q1
    obtain ⟨A1, c1, bs, r1, a1, b1, d1⟩ := cells_bytes htb heb hbC q1
    obtain ⟨o2, k2⟩ := hone_of hone 2 f2 rfl
    have q2 := hf 2 f2 rfl
    obtain ⟨z2, e2⟩ := hsome 2 (by omega)
    rw [e2, o2, k2] at q2
    obtain ⟨st, r2, _, w2⟩ := DataW.trod_int t2 q2
    obtain ⟨o3, k3⟩ := hone_of hone 3 f3 rfl
    have q3 := hf 3 f3 rfl
    obtain ⟨z3, e3⟩ := hsome 3 (by omega)
    rw [e3, o3, k3] at q3
    obtain ⟨wd, r3, _, w3⟩ := DataW.trod_int t3 q3
    obtain ⟨o4, k4⟩ := hone_of hone 4 f4 rfl
    have q4 := hf 4 f4 rfl
    obtain ⟨z4, e4⟩ := hsome 4 (by omega)
    rw [e4, o4, k4, t4] at q4
    obtain ⟨A2, c2, inp, r4, a4, b4, d4⟩ := cells_ints htn hen hnC q4
    obtain ⟨o5, k5⟩ := hone_of hone 5 f5 rfl
    have q5 := hf 5 f5 rfl
    obtain ⟨z5, e5⟩ := hsome 5 (by omega)
    rw [e5, o5, k5] at q5
    obtain ⟨fu, r5, _, w5⟩ := DataW.trod_int t5 q5
    simp at r0 r1 r2 r3 r4 r5
    have x2 := bounds_i64 w2
    have x3 := bounds_i64 w3
    have x5 := bounds_i64 w5
    refine ⟨⟨xs, bs, st, wd, inp, fu, A0, c0, A1, c1, A2, c2⟩, ?_, ⟨b0, d0, a0, d1, a1, b1, d4, a4, (by simp only; omega), (by simp only; omega), (by simp only; omega), (by simp only; omega), (by simp only; omega), (by simp only; omega)⟩⟩
    simp only [csC, r0, r1, r2, r3, r4, r5]
set_option maxRecDepth 100000 in
theorem open_case {H : Type} {enc : TypeId × Value → H} {W : World} {base : Nat} {v : Value} {d : DataW H} {p : List MemPlace}
    (hv : Value.okWide Tryz.prog W .any base 26 v) (h : DataW.Trod enc Tryz.prog W 0 (fun _ => true) true 26 v d p) : ∃ c : Cs, v = .agg (csC c) ∧ CsIn W c := by
  obtain ⟨cs, rfl, _⟩ := okWide_struct Tryz.underlying26 hv
  obtain ⟨fuel, hf⟩ := h
  obtain ⟨c, he, hc⟩ := case_cells (ti := 22) (tb := 23) (tn := 24) Tryz.underlying26 (by kernel_rfl) (by kernel_rfl) rfl rfl (by kernel_rfl) (by kernel_rfl) rfl (by kernel_rfl)
    Tryz.underlying22 Tryz.underlying53 (by kernel_rfl) (by kernel_rfl) (by kernel_rfl) (by kernel_rfl) (by kernel_rfl) (by kernel_rfl) (by kernel_rfl) (by kernel_rfl) (by kernel_rfl)
    Tryz.underlying23 Tryz.underlying5 (by kernel_rfl) Tryz.underlying24 Tryz.underlying2 (by kernel_rfl) hf
  refine ⟨c, ?_, hc⟩
  have : cs.toList = (csC c).toList := by simpa [Value.cells] using he
  congr 1
  apply Array.ext'
  exact this

end Go.Proofs.YtdnpoeegefkoiaaGreat
