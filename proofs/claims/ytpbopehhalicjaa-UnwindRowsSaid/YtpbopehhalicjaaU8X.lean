/-
  Rows of int64s of the call's own; make as one operation.
-/
import Derived.Test.YtpbopehhalicjaaU8V
namespace Go.Proofs.Ytpbopehhalicjaa
open Go Go.RowKit

theorem int_info6 : (Try.prog.info? 2).map (fun i => (i.zero, i.size, i.bytes)) = some (some (.int .i64 0), 1, 8) := by kernel_rfl
def SRow (w : World) (B : Nat) (v : Value) (l : List Int) : Prop := w.ownsRow B 2 1 v l.length (l.map n7)
theorem SRow.empty (w : World) : SRow (w.alloc (.cells #[] 2)) w.heap.size (.slice (some ⟨w.heap.size, 0, none⟩) 0 0) [] := by
  refine ⟨rfl, .inr ⟨w.heap.size, 0, _, rfl, Nat.le_refl _, heap_alloc_new w _, Nat.le_refl _, by simp [maxLen], by simp, by simp⟩⟩
theorem SRow.nil (w : World) (B : Nat) : SRow w B (.slice none 0 0) [] := World.ownsRow_nil w B _ _
theorem SRow.lt {w : World} {B : Nat} {v : Value} {l : List Int} (h : SRow w B v l) : ∀ k, v.ownBlock = some k → B ≤ k ∧ k < w.heap.size := by
  intro k e
  rcases h.2 with ⟨rfl, _⟩ | ⟨g, cap, cur, rfl, hB, hh, _⟩
  · cases e
  · injection e with e
    subst e
    rcases Nat.lt_or_ge g w.heap.size with h' | h'
    · exact ⟨hB, h'⟩
    · rw [Array.getElem?_eq_none h'] at hh; cases hh
theorem SRow.form {w : World} {B : Nat} {v : Value} {l : List Int} (h : SRow w B v l) : ∃ A c, v = .slice A l.length c ∧ l.length ≤ c ∧ (A = none → c = 0) ∧ NLies7 w w.heap.size A l := by
  have h' := h
  have hlt := h.lt
  rcases h.2 with ⟨rfl, h0⟩ | ⟨g, cap, cur, rfl, hg, hh, hn, _, hsz, ht⟩
  · have : l = [] := List.eq_nil_of_length_eq_zero h0
    subst this
    exact ⟨none, 0, rfl, Nat.le_refl _, fun _ => rfl, fun h => absurd h (by simp)⟩
  · refine ⟨_, cap, rfl, hn, fun e => (by cases e), fun _ => ⟨g, 0, rfl, (hlt g rfl).2, fun j hj => ?_⟩⟩
    have := World.ownsRow.cellAt h' j (by simpa using hj)
    rw [Nat.zero_add, this]
    simp [n7, hj]
theorem SRow.below {w w' : World} {B : Nat} {v : Value} {l : List Int} (h : SRow w B v l) (hb : Below w.heap.size w w') : SRow w' B v l := by
  have hlt := h.lt
  refine ⟨h.1, ?_⟩
  rcases h.2 with h0 | ⟨g, cap, cur, rfl, hg, hh, r⟩
  · exact .inl h0
  · exact .inr ⟨g, cap, cur, rfl, hg, (hb.block g (hlt g rfl).2).trans hh, r⟩
theorem SRow.base {w : World} {B B' : Nat} {v : Value} {l : List Int} (h : SRow w B v l) (hB : B' ≤ B) : SRow w B' v l := by
  refine ⟨h.1, ?_⟩
  rcases h.2 with h0 | ⟨g, cap, cur, rfl, hg, r⟩
  · exact .inl h0
  · exact .inr ⟨g, cap, cur, rfl, Nat.le_trans hB hg, r⟩
theorem run_app_s (w : World) (B : Nat) (ty : TypeId) (v : Value) (xs : List Int) (hown : SRow w B v xs) (A : Option Addr) (c : Nat) (C : Nat) (ys : List Int) (hc0 : A = none → c = 0) (hy : NLies7 w C A ys)
    (hn : xs.length + ys.length ≤ 1099511627776) (hB : B ≤ w.heap.size) : ∃ v' w', (Builtin.append_ #[23, 23] ty #[v, .slice A ys.length c]).run Try.prog w = .ok v' w' ∧ SRow w' B v' (xs ++ ys) ∧ w.grownBy w' v.ownBlock := by
  obtain ⟨i0, hi0, hz0, hz1, hz2⟩ := info_parts int_info6
  rcases A with _ | ad
  · have h0 : ys = [] := by
      rcases ys with _ | ⟨y, ys⟩
      · rfl
      · obtain ⟨g, o, e, _⟩ := hy (by simp)
        cases e
    subst h0
    obtain rfl := hc0 rfl
    exact ⟨v, w, run_append_owned_none (P := Try.prog) w B 23 ty 2 i0 1 Try.underlying23 hi0 v xs.length (xs.map n7) hown, by simpa using hown, World.grownBy.refl _ _⟩
  · obtain ⟨v', w', hrun, r1, r2, _⟩ := run_append_own (P := Try.prog) w B 23 ty 2 i0 _ 1 8 Try.underlying23 hi0 hz0 hz1 hz2 rfl (by omega) v xs.length (xs.map n7) hown ad ys.length c (ys.map n7) (by simp) (by
      intro j u hu
      have hj : j < ys.length := by have := (List.getElem?_eq_some_iff.1 hu).1; simpa using this
      obtain ⟨g', o', e, _, hc⟩ := hy (by omega)
      cases e
      rw [add_zero_off, hc j hj]
      simpa [n7, hj] using hu) (n7_one ys) (by simp only [maxLen]; omega) (by omega) hB
    refine ⟨v', w', hrun, ?_, r2⟩
    show w'.ownsRow B _ 1 v' (xs ++ ys).length ((xs ++ ys).map n7)
    rw [List.map_append, List.length_append]
    simpa using r1
section
variable {ops : Array Oper} {rest : List Oper} {o : Oper} {a : Act} {K : Act → World → Prop} {Q : Exit → Act → World → Prop}
theorem op_app_s (w : World) (s x : Operand) (ho : o.op = .call { callee := .builtin .append, args := #[s, x], argTypes := #[23, 23] })
    (B : Nat) (v : Value) (xs : List Int) (hs : a.eval s = v) (hown : SRow w B v xs) (A : Option Addr) (c : Nat) (C : Nat) (ys : List Int) (hx : a.eval x = .slice A ys.length c) (hc0 : A = none → c = 0) (hy : NLies7 w C A ys)
    (hn : xs.length + ys.length ≤ 1099511627776) (hB : B ≤ w.heap.size) (h : ∀ v' w', SRow w' B v' (xs ++ ys) → w.grownBy w' v.ownBlock → K (a.put o.dst v') w') : Oper.wp Try.prog o a w K Q := by
  obtain ⟨v', w', hrun, r1, r2⟩ := run_app_s w B o.type v xs hown A c C ys hc0 hy hn hB
  unfold Oper.wp execOp
  simp only [ho, resolve, invoke, builtin, Sem.run_bind, Sem.run_pure, Result.andThen_ok, List.map_toArray, List.map_cons, List.map_nil, hs, hx, hrun]
  exact h v' w' r1 r2
theorem app_s7 (w : World) (hgd : o.guard = none) (s x : Operand) (ho : o.op = .call { callee := .builtin .append, args := #[s, x], argTypes := #[23, 23] })
    (B : Nat) (v : Value) (xs : List Int) (hs : a.eval s = v) (hown : SRow w B v xs) (A : Option Addr) (c : Nat) (C : Nat) (ys : List Int) (hx : a.eval x = .slice A ys.length c) (hc0 : A = none → c = 0) (hy : NLies7 w C A ys)
    (hn : xs.length + ys.length ≤ 1099511627776) (hB : B ≤ w.heap.size) (h : ∀ v' w', SRow w' B v' (xs ++ ys) → w.grownBy w' v.ownBlock → wpList Try.prog ops Q rest (a.put o.dst v') w') : wpList Try.prog ops Q (o :: rest) a w :=
  wpList_plain hgd fun _ hK' => op_app_s w s x ho B v xs hs hown A c C ys hx hc0 hy hn hB (fun v' w' r1 r2 => hK' _ _ (h v' w' r1 r2))
end

theorem SRow.formN {w : World} {B : Nat} {v : Value} {l : List Int} (h : SRow w B v l) : ∃ A n c, v = .slice A n c ∧ Hid (l.length = n) ∧ n ≤ c ∧ (A = none → c = 0) ∧ NLies7 w w.heap.size A l := by
  obtain ⟨A, c, e, h1, h2, h3⟩ := h.form
  exact ⟨A, l.length, c, e, rfl, h1, h2, h3⟩
theorem below_srow {B : Nat} {w w1 w2 : World} {v : Value} {l : List Int} (hb : Below B w w1) (hg : w1.grownBy w2 v.ownBlock) (ho : SRow w1 B v l) (hB : B ≤ w1.heap.size) : Below B w w2 :=
  hb.grown hg hB fun k hk => (ho.lt k hk).1

theorem op_make_row {o : Oper} {a : Act} {K : Act → World → Prop} {Q : Exit → Act → World → Prop} (w : World) (t e : TypeId) (x y : Operand) (ho : o.op = Op.makeSlice t x y) (z : Value) (sz by_ : Nat) (ht : Try.prog.underlying t = some (.slice e)) (hi : (Try.prog.info? e).map (fun i => (i.zero, i.size, i.bytes)) = some (some z, sz, by_)) (n : Nat) (N C : Int)
    (hx : a.eval x = .int .i64 N) (hy : a.eval y = .int .i64 C) (hN : N = (n : Int)) (hC : C = (n : Int)) (hn : n ≤ 1099511627776) (hby : by_ ≤ 256)
    (hK : ∀ w', CAt w' w.heap.size e (madeCells z.cells (n * sz)).toList → Below w.heap.size w w' → w.heap.size < w'.heap.size → K (a.put o.dst (.slice (some ⟨w.heap.size, 0, none⟩) n n)) w') :
    Oper.wp Try.prog o a w K Q := by
  obtain ⟨i0, hi0, hz0, hz1, hz2⟩ := info_parts hi
  subst hC hN
  have hbn : (by_ : Int) * (n : Int) ≤ 281474976710656 := by
    have h1 : by_ * n ≤ 256 * 1099511627776 := Nat.mul_le_mul hby hn
    have h2 : ((by_ * n : Nat) : Int) ≤ 281474976710656 := by omega
    rwa [Int.natCast_mul] at h2
  have hrun := run_make (P := Try.prog) w t e i0 _ ht hi0 hz0 .i64 .i64 n n (by omega) (by omega) (by rw [hz2]; exact hbn) (by omega)
  simp only [Int.toNat_natCast] at hrun
  unfold Oper.wp
  simp [execOp, ho, hx, hy, hrun, Result.andThen]
  refine hK _ ?_ ((Below.refl _ _).alloc (Nat.le_refl _) _) (by simp)
  have := heap_alloc_new w (.cells (madeCells z.cells (n * sz)) e)
  unfold CAt
  rw [hz1]
  simpa using this
theorem SRow.cells {w : World} {B : Nat} {v : Value} {l : List Int} (h : SRow w B v l) : ∃ A c, v = .slice A l.length c ∧ l.length ≤ c ∧ (A = none → c = 0) ∧ CLies w w.heap.size A (l.map n7) ∧ ∀ a, A = some a → B ≤ a.block := by
  obtain ⟨A, c, e, h1, h2, h3⟩ := h.form
  refine ⟨A, c, e, h1, h2, fun hl => ?_, fun a ea => ?_⟩
  · obtain ⟨g, o, e2, hg, hc⟩ := h3 (by simpa using hl)
    exact ⟨g, o, e2, hg, fun j hj => by simpa [n7] using hc j (by simpa using hj)⟩
  · subst e
    subst ea
    exact (h.lt _ rfl).1
end Go.Proofs.Ytpbopehhalicjaa
