/-
  Opens a view that came in.
-/
import Derived.Test.YtdnpoeegefkoiaaKX
import Derived.Test.YtdnpoeegefkoiaaE6J
import Derived.Deep.Grids
namespace Go.Proofs.Ytdnpoeegefkoiaa
open Go.ChangeShapes Go.WideShapes Go.ChangeAt Go.RowKit Go.Deep

section
variable {H : Type} {enc : TypeId × Value → H} {P : Program} {W : World} {t e : TypeId} {fuel : Nat} {cs : List Value} {x : DataW H × List MemPlace}
theorem cells_ints6 (ht : P.underlying t = some (.slice e)) (he : P.underlying e = some (.int .i64)) (hc : P.cellsOf e = 1) (h : DataW.trod enc P W 0 (fun _ => true) true fuel t cs = some x) :
    ∃ (A : Option Addr) (c : Nat) (l : List Int), cs = [.slice A l.length c] ∧ l.length ≤ c ∧ CLies W W.heap.size A (l.map iV6) := by
  rcases open_ints ht he hc h with ⟨hcs, hx⟩ | ⟨a, len, cap, zs, hcs, _, hl, hm, hz, hx, hcell, hwz⟩
  · exact ⟨none, 0, [], hcs, Nat.le_refl _, CLies.nil _ _ _⟩
  · simp only [if_true] at hz
    have hlen : (zs.take len).length = len := by simp; omega
    refine ⟨some a, cap, zs.take len, by rw [hlen]; exact hcs, by rw [hlen]; exact hl, ?_⟩
    intro h0
    rw [List.length_map, hlen] at h0
    obtain ⟨b, off, rfl, hcc⟩ := ints_at hcell (by omega)
    refine ⟨b, off, rfl, World.block_lt_of_cell? W _ (hcc 0 (by omega)), fun j hj => ?_⟩
    rw [List.length_map, hlen] at hj
    rw [hcc j (by omega)]
    simp [iV6, show j < zs.length by omega]
theorem cells_bools6 (ht : P.underlying t = some (.slice e)) (he : P.underlying e = some .bool) (hc : P.cellsOf e = 1) (h : DataW.trod enc P W 0 (fun _ => true) true fuel t cs = some x) :
    ∃ (A : Option Addr) (c : Nat) (l : List Bool), cs = [.slice A l.length c] ∧ l.length ≤ c ∧ CLies W W.heap.size A (l.map .bool) := by
  rcases open_bools ht he hc h with ⟨hcs, hx⟩ | ⟨a, len, cap, Z, hcs, _, hl, hm, hx, hcell⟩
  · exact ⟨none, 0, [], hcs, Nat.le_refl _, CLies.nil _ _ _⟩
  · have hlen : ((List.range len).map Z).length = len := by simp
    refine ⟨some a, cap, (List.range len).map Z, by rw [hlen]; exact hcs, by rw [hlen]; exact hl, ?_⟩
    intro h0
    rw [List.length_map, hlen] at h0
    have hc0 := hcell 0 (by omega)
    obtain ⟨b, off, spot⟩ := a
    have hspot : spot = none := by simpa [Addr.add] using World.cell?_spot hc0
    subst hspot
    refine ⟨b, off, rfl, by have := World.block_lt_of_cell? W _ hc0; simpa [Addr.add] using this, fun j hj => ?_⟩
    rw [List.length_map, hlen] at hj
    have := hcell j (by omega)
    rw [add_zero_off] at this
    rw [this]
    simp
end

structure VIn (W : World) (V : Vw) (P : Vp) : Prop where
  k : CLies W W.heap.size P.a1 (V.K.map .bool)
  r : CLies W W.heap.size P.a2 (V.R.map iV6)
  w : CLies W W.heap.size P.a3 (V.W.map iV6)
  b0 : -9223372036854775808 ≤ V.B
  b1 : V.B < 9223372036854775808
  ck : V.K.length ≤ P.c1
  cr : V.R.length ≤ P.c2
  cw : V.W.length ≤ P.c3
theorem VIn.lies {W : World} {V : Vw} {P : Vp} (h : VIn W V P) (h1 : V.K.length ≤ 1000) (h2 : V.R.length ≤ 1000) (h3 : V.W.length ≤ 65536) : VLies W W.heap.size V P := ⟨h.k, h.r, h.w, by omega, by omega, by omega⟩
theorem view_cells {H : Type} {enc : TypeId × Value → H} {P : Program} {W : World} {e tk tn ek en : TypeId} {f0 f1 f2 f3 : Field} {fuel : Nat} {cs : List Value} {x : DataW H × List MemPlace}
    (hs : P.underlying e = some (.struct #[f0, f1, f2, f3])) (hone : oneCellFields P #[f0, f1, f2, f3] = true) (hC : P.cellsOf e = 4)
    (t0 : f0.type = tk) (t1 : f1.type = tn) (t2 : P.underlying f2.type = some (.int .i64)) (t3 : f3.type = tn)
    (htk : P.underlying tk = some (.slice ek)) (hek : P.underlying ek = some .bool) (hkC : P.cellsOf ek = 1) (htn : P.underlying tn = some (.slice en)) (hen : P.underlying en = some (.int .i64)) (hnC : P.cellsOf en = 1)
    (h : DataW.trod enc P W 0 (fun _ => true) true fuel e cs = some x) : ∃ (V : Vw) (p : Vp), cs = (vK V p).toList ∧ VIn W V p := by
  obtain ⟨ys, n, _, _, hlen, hyl, hf⟩ := DataW.trod_struct hs h
  rw [hC] at hlen
  have hsome : ∀ j, j < 4 → ∃ z, ys[j]? = some z := fun j hj => ⟨_, List.getElem?_eq_getElem (by rw [hyl]; exact hj)⟩
  match cs, hlen with
  | [v0, v1, v2, v3], _ =>
    obtain ⟨o0, k0⟩ := hone_of hone 0 f0 rfl
    have q0 := hf 0 f0 rfl
    obtain ⟨z0, e0⟩ := hsome 0 (by omega)
    rw [e0, o0, k0, t0] at q0
    obtain ⟨A0, c0, K, r0, a0, b0⟩ := cells_bools6 htk hek hkC q0
    obtain ⟨o1, k1⟩ := hone_of hone 1 f1 rfl
    have q1 := hf 1 f1 rfl
    obtain ⟨z1, e1⟩ := hsome 1 (by omega)
    rw [e1, o1, k1, t1] at q1
    obtain ⟨A1, c1, R, r1, a1, b1⟩ := cells_ints6 htn hen hnC q1
    obtain ⟨o2, k2⟩ := hone_of hone 2 f2 rfl
    have q2 := hf 2 f2 rfl
    obtain ⟨z2, e2⟩ := hsome 2 (by omega)
    rw [e2, o2, k2] at q2
    obtain ⟨B, r2, _, w2⟩ := DataW.trod_int t2 q2
    obtain ⟨o3, k3⟩ := hone_of hone 3 f3 rfl
    have q3 := hf 3 f3 rfl
    obtain ⟨z3, e3⟩ := hsome 3 (by omega)
    rw [e3, o3, k3, t3] at q3
    obtain ⟨A3, c3, L, r3, a3, b3⟩ := cells_ints6 htn hen hnC q3
    simp at r0 r1 r2 r3
    have x2 := bounds_i64 w2
    refine ⟨⟨K, R, B, L⟩, ⟨A0, c0, A1, c1, A3, c3⟩, ?_, ⟨b0, b1, b3, (by simp only; omega), (by simp only; omega), a0, a1, a3⟩⟩
    simp only [vK, r0, r1, r2, r3]
set_option maxRecDepth 100000 in
theorem open_view {H : Type} {enc : TypeId × Value → H} {W : World} {base : Nat} {v : Value} {d : DataW H} {p : List MemPlace}
    (hv : Value.okWide Try.prog W .any base 42 v) (h : DataW.Trod enc Try.prog W 0 (fun _ => true) true 42 v d p) : ∃ (V : Vw) (q : Vp), v = .agg (vK V q) ∧ VIn W V q := by
  obtain ⟨cs, rfl, _⟩ := okWide_struct Try.underlying42 hv
  obtain ⟨fuel, hf⟩ := h
  obtain ⟨V, q, he, hc⟩ := view_cells (tk := 39) (tn := 40) Try.underlying42 (by kernel_rfl) (by kernel_rfl) rfl rfl (by kernel_rfl) rfl
    Try.underlying39 Try.underlying4 (by kernel_rfl) Try.underlying40 Try.underlying2 (by kernel_rfl) hf
  refine ⟨V, q, ?_, hc⟩
  have : cs.toList = (vK V q).toList := by simpa [Value.cells] using he
  congr 1
  apply Array.ext'
  exact this
end Go.Proofs.Ytdnpoeegefkoiaa
