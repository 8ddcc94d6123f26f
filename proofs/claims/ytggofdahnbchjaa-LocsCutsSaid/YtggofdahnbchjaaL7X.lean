/-
  Rows of ints of the call's own, opened and appended to; append onto one, as one operation and in a list.
-/
import Derived.Test.YtggofdahnbchjaaL7W
import Derived.Test.YtggofdahnbchjaaKX
import Derived.Deep.Grids
namespace Go.Proofs.Ytggofdahnbchjaa
open Go Go.RowKit

def n7 (x : Int) : Value := .int .i64 x
theorem int_info7 : (Try.prog.info? 3).map (fun i => (i.zero, i.size, i.bytes)) = some (some (.int .i64 0), 1, 8) := by kernel_rfl
theorem n7_one (l : List Int) : ∀ u ∈ l.map n7, u.oneCell' = true := by
  intro u hu
  obtain ⟨x, _, rfl⟩ := List.mem_map.1 hu
  rfl
def NRow (w : World) (B : Nat) (v : Value) (l : List Int) : Prop := w.ownsRow B 3 1 v l.length (l.map n7)
def NLies7 (w : World) (B : Nat) (A : Option Addr) (l : List Int) : Prop :=
  0 < l.length → ∃ g o, A = some ⟨g, o, none⟩ ∧ g < B ∧ ∀ j (h : j < l.length), w.cell? ⟨g, o + j, none⟩ = some (.int .i64 l[j])
theorem NLies7.below {w w' : World} {B : Nat} {A : Option Addr} {l : List Int} (h : NLies7 w B A l) (hb : Below B w w') : NLies7 w' B A l := fun hl => by
  obtain ⟨g, o, e, hg, hc⟩ := h hl
  exact ⟨g, o, e, hg, fun j hj => (hb.cell hg).trans (hc j hj)⟩
theorem NLies7.more {w : World} {B B' : Nat} {A : Option Addr} {l : List Int} (h : NLies7 w B A l) (hB : B ≤ B') : NLies7 w B' A l := fun hl => by
  obtain ⟨g, o, e, hg, hc⟩ := h hl
  exact ⟨g, o, e, by omega, hc⟩
theorem NLies7.at_ {w : World} {B : Nat} {A : Option Addr} {l : List Int} (h : NLies7 w B A l) {j : Nat} (hj : j < l.length) : ∃ g o, A = some ⟨g, o, none⟩ ∧ g < B ∧ w.cell? ⟨g, o + j, none⟩ = some (.int .i64 l[j]) := by
  obtain ⟨g, o, e, hg, hc⟩ := h (by omega)
  exact ⟨g, o, e, hg, hc j hj⟩
theorem NRow.empty (w : World) : NRow (w.alloc (.cells #[] 3)) w.heap.size (.slice (some ⟨w.heap.size, 0, none⟩) 0 0) [] := by
  refine ⟨rfl, .inr ⟨w.heap.size, 0, _, rfl, Nat.le_refl _, heap_alloc_new w _, Nat.le_refl _, by simp [maxLen], by simp, by simp⟩⟩
theorem NRow.lt {w : World} {B : Nat} {v : Value} {l : List Int} (h : NRow w B v l) : ∀ k, v.ownBlock = some k → B ≤ k ∧ k < w.heap.size := by
  intro k e
  rcases h.2 with ⟨rfl, _⟩ | ⟨g, cap, cur, rfl, hB, hh, _⟩
  · cases e
  · injection e with e
    subst e
    rcases Nat.lt_or_ge g w.heap.size with h' | h'
    · exact ⟨hB, h'⟩
    · rw [Array.getElem?_eq_none h'] at hh; cases hh
theorem NRow.form {w : World} {B : Nat} {v : Value} {l : List Int} (h : NRow w B v l) : ∃ A c, v = .slice A l.length c ∧ l.length ≤ c ∧ (A = none → c = 0) ∧ NLies7 w w.heap.size A l := by
  have h' := h
  have hlt := h.lt
  rcases h.2 with ⟨rfl, h0⟩ | ⟨g, cap, cur, rfl, hg, hh, hn, _, hsz, ht⟩
  · have : l = [] := List.eq_nil_of_length_eq_zero h0
    subst this
    exact ⟨none, 0, rfl, Nat.le_refl _, fun _ => rfl, fun h => absurd h (by simp)⟩
  · refine ⟨_, cap, rfl, hn, fun e => (by cases e), fun _ => ⟨g, 0, rfl, (hlt g rfl).2, fun j hj => ?_⟩⟩
    have := World.ownsRow.cellAt h' j (by simpa using hj)
    rw [Nat.zero_add, this]
    simp [n7, hj]
theorem NRow.below {w w' : World} {B : Nat} {v : Value} {l : List Int} (h : NRow w B v l) (hb : Below w.heap.size w w') : NRow w' B v l := by
  have hlt := h.lt
  refine ⟨h.1, ?_⟩
  rcases h.2 with h0 | ⟨g, cap, cur, rfl, hg, hh, r⟩
  · exact .inl h0
  · exact .inr ⟨g, cap, cur, rfl, hg, (hb.block g (hlt g rfl).2).trans hh, r⟩
theorem NRow.base {w : World} {B B' : Nat} {v : Value} {l : List Int} (h : NRow w B v l) (hB : B' ≤ B) : NRow w B' v l := by
  refine ⟨h.1, ?_⟩
  rcases h.2 with h0 | ⟨g, cap, cur, rfl, hg, r⟩
  · exact .inl h0
  · exact .inr ⟨g, cap, cur, rfl, Nat.le_trans hB hg, r⟩
/-- four ints in a block -/
def Four (w : World) (g : Nat) (x0 x1 x2 x3 : Int) : Prop := w.heap[g]? = some (.cells #[.int .i64 x0, .int .i64 x1, .int .i64 x2, .int .i64 x3] 3 (0, 0))
theorem four_new (w : World) (x0 x1 x2 x3 : Int) : Four (w.alloc (.cells #[.int .i64 x0, .int .i64 x1, .int .i64 x2, .int .i64 x3] 3)) w.heap.size x0 x1 x2 x3 := heap_alloc_new w _
theorem Four.lt {w : World} {g : Nat} {x0 x1 x2 x3 : Int} (h : Four w g x0 x1 x2 x3) : g < w.heap.size := (Array.getElem?_eq_some_iff.1 h).1
theorem Four.lies {w : World} {g : Nat} {x0 x1 x2 x3 : Int} (h : Four w g x0 x1 x2 x3) : NLies7 w w.heap.size (some ⟨g, 0, none⟩) [x0, x1, x2, x3] := fun _ => ⟨g, 0, rfl, h.lt, fun j hj => by
  unfold Four at h
  simp only [World.cell?, h, Nat.zero_add]
  have hj' : j = 0 ∨ j = 1 ∨ j = 2 ∨ j = 3 := by simp at hj; omega
  rcases hj' with rfl | rfl | rfl | rfl <;> rfl⟩

theorem run_app_n (w : World) (B : Nat) (ty : TypeId) (v : Value) (xs : List Int) (hown : NRow w B v xs) (A : Option Addr) (c : Nat) (C : Nat) (ys : List Int) (hc0 : A = none → c = 0) (hy : NLies7 w C A ys)
    (hn : xs.length + ys.length ≤ 1099511627776) (hB : B ≤ w.heap.size) : ∃ v' w', (Builtin.append_ #[49, 49] ty #[v, .slice A ys.length c]).run Try.prog w = .ok v' w' ∧ NRow w' B v' (xs ++ ys) ∧ w.grownBy w' v.ownBlock := by
  obtain ⟨i0, hi0, hz0, hz1, hz2⟩ := info_parts int_info7
  rcases A with _ | ad
  · have h0 : ys = [] := by
      rcases ys with _ | ⟨y, ys⟩
      · rfl
      · obtain ⟨g, o, e, _⟩ := hy (by simp)
        cases e
    subst h0
    obtain rfl := hc0 rfl
    exact ⟨v, w, run_append_owned_none (P := Try.prog) w B 49 ty 3 i0 1 Try.underlying49 hi0 v xs.length (xs.map n7) hown, by simpa using hown, World.grownBy.refl _ _⟩
  · obtain ⟨v', w', hrun, r1, r2, _⟩ := run_append_own (P := Try.prog) w B 49 ty 3 i0 _ 1 8 Try.underlying49 hi0 hz0 hz1 hz2 rfl (by omega) v xs.length (xs.map n7) hown ad ys.length c (ys.map n7) (by simp) (by
      intro j u hu
      have hj : j < ys.length := by have := (List.getElem?_eq_some_iff.1 hu).1; simpa using this
      obtain ⟨g', o', e, _, hc⟩ := hy (by omega)
      cases e
      rw [add_zero_off, hc j hj]
      simpa [n7, hj] using hu) (n7_one ys) (by simp only [maxLen]; omega) (by omega) hB
    refine ⟨v', w', hrun, ?_, r2⟩
    show w'.ownsRow B _ 1 v' (xs ++ ys).length ((xs ++ ys).map n7)
    rw [List.map_append, List.length_append]
    simpa using r1
section
variable {ops : Array Oper} {rest : List Oper} {o : Oper} {a : Act} {K : Act → World → Prop} {Q : Exit → Act → World → Prop}
theorem op_app_n (w : World) (s x : Operand) (ho : o.op = .call { callee := .builtin .append, args := #[s, x], argTypes := #[49, 49] })
    (B : Nat) (v : Value) (xs : List Int) (hs : a.eval s = v) (hown : NRow w B v xs) (A : Option Addr) (c : Nat) (C : Nat) (ys : List Int) (hx : a.eval x = .slice A ys.length c) (hc0 : A = none → c = 0) (hy : NLies7 w C A ys)
    (hn : xs.length + ys.length ≤ 1099511627776) (hB : B ≤ w.heap.size) (h : ∀ v' w', NRow w' B v' (xs ++ ys) → w.grownBy w' v.ownBlock → K (a.put o.dst v') w') : Oper.wp Try.prog o a w K Q := by
  obtain ⟨v', w', hrun, r1, r2⟩ := run_app_n w B o.type v xs hown A c C ys hc0 hy hn hB
  unfold Oper.wp execOp
  simp only [ho, resolve, invoke, builtin, Sem.run_bind, Sem.run_pure, Result.andThen_ok, List.map_toArray, List.map_cons, List.map_nil, hs, hx, hrun]
  exact h v' w' r1 r2
theorem app_n7 (w : World) (hgd : o.guard = none) (s x : Operand) (ho : o.op = .call { callee := .builtin .append, args := #[s, x], argTypes := #[49, 49] })
    (B : Nat) (v : Value) (xs : List Int) (hs : a.eval s = v) (hown : NRow w B v xs) (A : Option Addr) (c : Nat) (C : Nat) (ys : List Int) (hx : a.eval x = .slice A ys.length c) (hc0 : A = none → c = 0) (hy : NLies7 w C A ys)
    (hn : xs.length + ys.length ≤ 1099511627776) (hB : B ≤ w.heap.size) (h : ∀ v' w', NRow w' B v' (xs ++ ys) → w.grownBy w' v.ownBlock → wpList Try.prog ops Q rest (a.put o.dst v') w') : wpList Try.prog ops Q (o :: rest) a w :=
  wpList_plain hgd fun _ hK' => op_app_n w s x ho B v xs hs hown A c C ys hx hc0 hy hn hB (fun v' w' r1 r2 => hK' _ _ (h v' w' r1 r2))
end
section
open Go.ChangeShapes Go.WideShapes Go.ChangeAt Go.Deep
set_option maxRecDepth 100000 in
theorem open_ints7 {H : Type} {enc : TypeId × Value → H} {W : World} {base : Nat} {v : Value} {d : DataW H} {p : List MemPlace}
    (hv : Value.okWide Try.prog W .any base 49 v) (h : DataW.Trod enc Try.prog W 0 (fun _ => true) true 49 v d p) :
    ∃ (A : Option Addr) (c : Nat) (l : List Int), v = .slice A l.length c ∧ l.length ≤ c ∧ (A = none → c = 0) ∧ NLies7 W W.heap.size A l := by
  obtain ⟨a0, len, cap, rfl⟩ := okWide_slice Try.underlying49 hv
  obtain ⟨fuel, hf⟩ := h
  rcases open_ints Try.underlying49 Try.underlying3 (by kernel_rfl) hf with ⟨hcs, hx⟩ | ⟨a, len', cap', zs, hcs, _, hl, hm, hz, hx, hcell, hwz⟩
  · simp [Value.cells] at hcs
    obtain ⟨rfl, rfl, rfl⟩ := hcs
    exact ⟨none, 0, [], rfl, Nat.le_refl _, fun _ => rfl, fun h => absurd h (by simp)⟩
  · simp [Value.cells] at hcs
    obtain ⟨rfl, rfl, rfl⟩ := hcs
    simp only [if_true] at hz
    have hlen : (zs.take len).length = len := by simp; omega
    refine ⟨some a, cap, zs.take len, by rw [hlen], by rw [hlen]; exact hl, fun h => (by cases h), ?_⟩
    intro h0
    rw [hlen] at h0
    obtain ⟨b, off, rfl, hcc⟩ := ints_at hcell (by omega)
    refine ⟨b, off, rfl, World.block_lt_of_cell? W _ (hcc 0 (by omega)), fun j hj => ?_⟩
    rw [hlen] at hj
    rw [hcc j (by omega)]
    simp [show j < zs.length by omega]
end
end Go.Proofs.Ytggofdahnbchjaa
