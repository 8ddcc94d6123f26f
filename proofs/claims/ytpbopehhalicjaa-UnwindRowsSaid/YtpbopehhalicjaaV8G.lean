/-
  Small things for the walk of UnwindRows.
-/
import Derived.Test.YtpbopehhalicjaaV8D
import Derived.Test.YtpbopehhalicjaaV8E
namespace Go.Proofs.Ytpbopehhalicjaa
open Go Go.RowKit

theorem laid_start {R : List Int} (hR : R.length = 16) : Laid 0 (List.replicate 600 0) ([] ++ [R.set 15 600]) [] [600] := by
  refine ⟨rfl, rfl, rfl, List.length_replicate, fun r hr => ?_, fun j hj => absurd hj (by omega), List.getElem?_set_self (by omega), by simp, by simp, fun j hj => absurd hj (by omega)⟩
  rw [List.nil_append, List.mem_singleton] at hr
  rw [hr, List.length_set]
  exact hR
theorem Laid.now {n : Nat} {Ws R : List Int} {was : List (List Int)} {ls : List Sp} {bs : List Nat} (h : Laid n Ws (was ++ [R]) ls bs) (hn : n ≤ 20) : was.length = n ∧ R.length = 16 ∧ Ws.length = 600 ∧ ls.length = n ∧ ∃ b : Nat, bs[n]? = some b ∧ 220 ≤ b ∧ b ≤ 600 ∧ R[15]? = some (b : Int) := by
  have lr := h.lr
  have lb := h.lb
  have c0 := h.c0
  have hwl : was.length = n := by simpa using lr
  have e : (was ++ [R])[n]'(by omega) = R := by rw [List.getElem_append_right (by omega)]; simp
  refine ⟨hwl, h.l16 R (List.mem_append_right _ List.mem_cons_self), h.lW, h.ll, bs[n]'(by omega), List.getElem?_eq_getElem (by omega), by omega, h.c1, ?_⟩
  have hc := h.cur
  rw [e] at hc
  exact hc
theorem Laid.put {n : Nat} {Ws R : List Int} {was : List (List Int)} {ls : List Sp} {bs : List Nat} (h : Laid n Ws (was ++ [R]) ls bs) {b : Nat} (hb : bs[n]? = some b) {m : Nat} (hm : m < b) (v : Int) : Laid n (Ws.set m v) (was ++ [R]) ls bs := by
  obtain ⟨h1, h2⟩ := List.getElem?_eq_some_iff.1 hb
  exact h.set (by omega) v
theorem Laid.more {n : Nat} {Ws R R' : List Int} {was : List (List Int)} {ls : List Sp} {bs : List Nat} (h : Laid n Ws (was ++ [R]) ls bs) (hn : n < 20) {b : Nat} (hb : bs[n]? = some b) {a : List Lc} (hp : Part 6 n R R' Ws a b) (u : Int) (b' : Nat) (hu0 : 10 ≤ u) (hu1 : u ≤ 19) (hb' : (b' : Int) = b - u) :
    Laid (n + 1) Ws ((was ++ [R]) ++ [R'.set 15 (b - u)]) (ls ++ [⟨10 * (n : Int), 10 * (n : Int) + 10, u, a⟩]) (bs ++ [b']) := by
  have lr := h.lr
  have hwl : was.length = n := by simpa using lr
  obtain ⟨h1, h2⟩ := List.getElem?_eq_some_iff.1 hb
  have e : (was ++ [R])[n]'(by omega) = R := by rw [List.getElem_append_right (by omega)]; simp
  have := h.next hn (R := R') (a := a) (by rw [e, h2]; exact hp) u b' hu0 hu1 (by rw [h2]; exact hb')
  rw [h2] at this
  exact this
theorem app_r16 {ops : Array Oper} {rest : List Oper} {o : Oper} {a : Act} {Q : Exit → Act → World → Prop} (w : World) (hgd : o.guard = none) (s x : Operand) (ho : o.op = .call { callee := .builtin .append, args := #[s, x], argTypes := #[23, 23] })
    (B : Nat) (v : Value) (hs : a.eval s = v) (hown : SRow w B v []) (A : Option Addr) (c : Nat) (C : Nat) (ys : List Int) (h16 : ys.length = 16) (hx : a.eval x = .slice A 16 c) (hc0 : A = none → c = 0) (hy : NLies7 w C A ys)
    (hB : B ≤ w.heap.size) (h : ∀ v' w', SRow w' B v' ys → w.grownBy w' v.ownBlock → wpList Try.prog ops Q rest (a.put o.dst v') w') : wpList Try.prog ops Q (o :: rest) a w :=
  app_s7 w hgd s x ho B v [] hs hown A c C ys (by rw [h16]; exact hx) hc0 hy (by simp [h16]) hB (fun v' w' r1 r2 => h v' w' (by simpa using r1) r2)
theorem cat_at {w : World} {g : Nat} {l : List Int} (h : CAt w g 2 (l.map n7)) {j : Nat} {x : Int} (hl : l[j]? = some x) : w.cell? ⟨g, j, none⟩ = some (.int .i64 x) := by
  obtain ⟨hj, e⟩ := List.getElem?_eq_some_iff.1 hl
  have := h.cell (j := j) (by simpa using hj)
  rw [this, List.getElem_map, e]
  rfl
theorem cell_new (w : World) (v : Value) (e : TypeId) : (w.alloc (.cells #[v] e)).cell? ⟨w.heap.size, 0, none⟩ = some v := by
  have h := heap_alloc_new w (.cells #[v] e)
  simp only [World.cell?, h]
  rfl
theorem cat_nlies {w : World} {g : Nat} {l : List Int} (h : CAt w g 2 (l.map n7)) : NLies7 w w.heap.size (some ⟨g, 0, none⟩) l := fun _ => ⟨g, 0, rfl, h.lt, fun j hj => by
  have := h.cell (j := j) (by simpa using hj)
  rw [Nat.zero_add, this, List.getElem_map]
  rfl⟩
theorem SpOwn.formN8 {w : World} {B : Nat} {v : Value} {xs : List Sp} (h : SpOwn w B v xs) : ∃ A n c, v = .slice A n c ∧ Hid (xs.length = n) ∧ n ≤ c ∧ (A = none → c = 0) ∧ True := by
  obtain ⟨A, c, ps, e, q, h1, h2, _⟩ := h.form
  exact ⟨A, ps.length, c, e, by rw [← q]; exact List.length_map .., h1, h2, trivial⟩
end Go.Proofs.Ytpbopehhalicjaa
