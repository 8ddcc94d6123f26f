/-
  Merged for a claim: GA.
-/
import Derived.Test.YtcgohlooelojfaaJJ0
import Derived.Test.YtcgohlooelojfaaJJ1
import Derived.Deep.Slices
import Derived.Deep.Fields
namespace Go.Proofs.Ytcgohlooelojfaa
open Go.ChangeShapes Go.WideShapes Go.ChangeAt Go.RowKit Go.Deep

/-- a block's type -/
def HasT (w : World) (k : Nat) (e : TypeId) : Prop := ∃ cs s, w.heap[k]? = some (.cells cs e s)
theorem HasT.one {w : World} {k : Nat} {e e2 : TypeId} (h : HasT w k e) (h2 : HasT w k e2) : e = e2 := by
  obtain ⟨cs, s, h⟩ := h
  obtain ⟨cs2, s2, h2⟩ := h2
  rw [h] at h2
  injection h2 with h2
  injection h2
theorem HasT.lt {w : World} {k : Nat} {e : TypeId} (h : HasT w k e) : k < w.heap.size := by
  obtain ⟨cs, s, h⟩ := h
  exact (Array.getElem?_eq_some_iff.1 h).1
theorem HasT.same {w w' : World} {k : Nat} {e : TypeId} (h : HasT w k e) (hk : w'.heap[k]? = w.heap[k]?) : HasT w' k e := by
  obtain ⟨cs, s, h⟩ := h
  exact ⟨cs, s, hk.trans h⟩
theorem HasT.new (w : World) (cs : Array Value) (e : TypeId) : HasT (w.alloc (.cells cs e)) w.heap.size e := ⟨_, _, heap_alloc_new w _⟩
theorem HasT.set {w : World} {k : Nat} {e : TypeId} (h : HasT w k e) (p : Addr) (u : Value) : HasT (w.setCell p u) k e := by
  obtain ⟨cs, s, h⟩ := h
  unfold HasT
  simp only [World.setCell, Array.getElem?_modify, h]
  split <;> simp
/-- all blocks but those of one type are as they were -/
def ButT (T : TypeId) (w w' : World) : Prop := ∀ k e, HasT w k e → e ≠ T → w'.heap[k]? = w.heap[k]?
theorem ButT.refl (T : TypeId) (w : World) : ButT T w w := fun _ _ _ _ => rfl
theorem ButT.trans {T : TypeId} {w w1 w2 : World} (h : ButT T w w1) (h2 : ButT T w1 w2) : ButT T w w2 := fun k e hk he => (h2 k e (hk.same (h k e hk he)) he).trans (h k e hk he)
theorem ButT.below {T : TypeId} {w w' : World} (h : Below w.heap.size w w') : ButT T w w' := fun k _ hk _ => h.block k hk.lt
theorem ButT.grown {T : TypeId} {w w' : World} {row : Option Nat} (hg : w.grownBy w' row) (hr : ∀ k, row = some k → HasT w k T) : ButT T w w' := fun k _ hk he => hg.block k hk.lt fun q => he (hk.one (hr k q.symm))
theorem ButT.set {T : TypeId} {w : World} {p : Addr} (hp : HasT w p.block T) (u : Value) : ButT T w (w.setCell p u) := fun k _ hk he => Below.heap_setCell w p u k (fun q => by subst q; exact he (hk.one hp))

/-- a kind of things: its type, how many cells, and which -/
structure El (α : Type) where
  e : TypeId
  sz : Nat
  f : α → List Value
  len : ∀ x, (f x).length = sz
  one : ∀ x, ∀ u ∈ f x, u.oneCell' = true
  pos : 0 < sz
namespace El
variable {α : Type} (K : El α)
/-- things that lie at an address below a block's number -/
def Lies (w : World) (B : Nat) (A : Option Addr) (xs : List α) : Prop :=
  0 < xs.length → ∃ g o, A = some ⟨g, o, none⟩ ∧ g < B ∧ ∀ j (hj : j < xs.length) f u, (K.f xs[j])[f]? = some u → w.cell? ⟨g, o + (j * K.sz + f), none⟩ = some u
/-- things that lie in a block of their type -/
def LiesT (w : World) (A : Option Addr) (xs : List α) : Prop :=
  0 < xs.length → ∃ g o, A = some ⟨g, o, none⟩ ∧ HasT w g K.e ∧ ∀ j (hj : j < xs.length) f u, (K.f xs[j])[f]? = some u → w.cell? ⟨g, o + (j * K.sz + f), none⟩ = some u
/-- a row of the call's own -/
def Own (w : World) (B : Nat) (v : Value) (xs : List α) : Prop := w.ownsRow B K.e K.sz v xs.length (xs.flatMap K.f)
variable {K} {w w' : World} {B B' : Nat} {A : Option Addr} {v : Value} {xs : List α}
theorem Lies.nil (w : World) (B : Nat) (A : Option Addr) : K.Lies w B A [] := fun h => absurd h (by simp)
theorem Lies.below (h : K.Lies w B A xs) (hb : Below B w w') : K.Lies w' B A xs := fun hl => by
  obtain ⟨g, o, e, hg, hc⟩ := h hl
  exact ⟨g, o, e, hg, fun j hj f u hu => (hb.cell hg).trans (hc j hj f u hu)⟩
theorem Lies.more (h : K.Lies w B A xs) (hB : B ≤ B') : K.Lies w B' A xs := fun hl => by
  obtain ⟨g, o, e, hg, hc⟩ := h hl
  exact ⟨g, o, e, by omega, hc⟩
theorem Lies.next (h : K.Lies w w.heap.size A xs) (hb : Below w.heap.size w w') : K.Lies w' w'.heap.size A xs := (h.below hb).more hb.size
theorem Lies.at_ (h : K.Lies w B A xs) {j : Nat} (hj : j < xs.length) : ∃ g o, A = some ⟨g, o, none⟩ ∧ g < B ∧ ∀ f u, (K.f xs[j])[f]? = some u → w.cell? ⟨g, o + j * K.sz + f, none⟩ = some u := by
  obtain ⟨g, o, e, hg, hc⟩ := h (by omega)
  exact ⟨g, o, e, hg, fun f u hu => by rw [Nat.add_assoc]; exact hc j hj f u hu⟩
theorem LiesT.nil (w : World) (A : Option Addr) : K.LiesT w A [] := fun h => absurd h (by simp)
theorem LiesT.lies (h : K.LiesT w A xs) : K.Lies w w.heap.size A xs := fun hl => by
  obtain ⟨g, o, e, hg, hc⟩ := h hl
  exact ⟨g, o, e, hg.lt, hc⟩
theorem LiesT.kept (h : K.LiesT w A xs) (hk : ∀ k, HasT w k K.e → w'.heap[k]? = w.heap[k]?) : K.LiesT w' A xs := fun hl => by
  obtain ⟨g, o, e, hg, hc⟩ := h hl
  exact ⟨g, o, e, hg.same (hk g hg), fun j hj f u hu => (World.cell?_of_block (hk g hg)).trans (hc j hj f u hu)⟩
theorem LiesT.but {T : TypeId} (h : K.LiesT w A xs) (hb : ButT T w w') (hT : K.e ≠ T) : K.LiesT w' A xs := h.kept fun k hk => hb k _ hk hT
theorem LiesT.below (h : K.LiesT w A xs) (hb : Below w.heap.size w w') : K.LiesT w' A xs := h.kept fun k hk => hb.block k hk.lt

theorem flat_len (K : El α) (xs : List α) : (xs.flatMap K.f).length = xs.length * K.sz := by
  induction xs with
  | nil => simp
  | cons x xs ih => rw [List.flatMap_cons, List.length_append, K.len, ih, List.length_cons, Nat.succ_mul, Nat.add_comm]
theorem flat_get (K : El α) : ∀ (xs : List α) (j f : Nat) (hj : j < xs.length) (_ : f < K.sz), (xs.flatMap K.f)[j * K.sz + f]? = (K.f xs[j])[f]?
  | x :: xs, 0, f, _, hf => by
    rw [List.flatMap_cons, List.getElem?_append_left (by rw [K.len]; omega)]
    simp
  | x :: xs, j + 1, f, hj, hf => by
    have e : (j + 1) * K.sz = j * K.sz + K.sz := Nat.succ_mul _ _
    rw [List.flatMap_cons, List.getElem?_append_right (by rw [K.len]; omega), K.len, show (j + 1) * K.sz + f - K.sz = j * K.sz + f by omega, flat_get K xs j f (by simpa using hj) hf]
    simp
theorem flat_one (K : El α) (xs : List α) : ∀ u ∈ xs.flatMap K.f, u.oneCell' = true := by
  intro u hu
  obtain ⟨x, _, h⟩ := List.mem_flatMap.1 hu
  exact K.one x u h
theorem Own.nil (w : World) (B : Nat) : K.Own w B (.slice none 0 0) [] := World.ownsRow_nil w B _ _
theorem Own.lt (h : K.Own w B v xs) : ∀ k, v.ownBlock = some k → B ≤ k ∧ k < w.heap.size ∧ HasT w k K.e := by
  intro k e
  rcases h.2 with ⟨rfl, _⟩ | ⟨g, cap, cur, rfl, hB, hh, _⟩
  · cases e
  · injection e with e
    subst e
    exact ⟨hB, (Array.getElem?_eq_some_iff.1 hh).1, _, _, hh⟩
theorem Own.has (h : K.Own w B v xs) : ∀ k, v.ownBlock = some k → HasT w k K.e := fun k e => (h.lt k e).2.2
theorem Own.form (h : K.Own w B v xs) : ∃ A c, v = .slice A xs.length c ∧ xs.length ≤ c ∧ (A = none → c = 0) ∧ K.LiesT w A xs := by
  have h' := h
  have hlt := h.lt
  rcases h.2 with ⟨rfl, h0⟩ | ⟨g, cap, cur, rfl, hg, hh, hn, _, hsz, ht⟩
  · have : xs = [] := List.eq_nil_of_length_eq_zero h0
    subst this
    exact ⟨none, 0, rfl, Nat.le_refl _, fun _ => rfl, fun h => absurd h (by simp)⟩
  · refine ⟨_, cap, rfl, hn, fun e => (by cases e), fun _ => ⟨g, 0, rfl, (hlt g rfl).2.2, fun j hj f u hu => ?_⟩⟩
    have hf : f < K.sz := by have := (List.getElem?_eq_some_iff.1 hu).1; simpa [K.len] using this
    have hlt2 : j * K.sz + f < (xs.flatMap K.f).length := by
      rw [flat_len]
      have := Nat.mul_le_mul_right K.sz (show j + 1 ≤ xs.length by omega)
      rw [Nat.succ_mul] at this
      omega
    have := World.ownsRow.cellAt h' (j * K.sz + f) (by rw [flat_len] at hlt2; exact hlt2)
    rw [Nat.zero_add, this, flat_get K xs j f hj hf, hu]
theorem Own.formN (h : K.Own w B v xs) : ∃ A n c, v = .slice A n c ∧ Hid (xs.length = n) ∧ n ≤ c ∧ (A = none → c = 0) ∧ K.LiesT w A xs := by
  obtain ⟨A, c, e, h1, h2, h3⟩ := h.form
  exact ⟨A, xs.length, c, e, rfl, h1, h2, h3⟩
theorem Own.kept (h : K.Own w B v xs) (hk : ∀ k, HasT w k K.e → w'.heap[k]? = w.heap[k]?) : K.Own w' B v xs := by
  have hlt := h.lt
  refine ⟨h.1, ?_⟩
  rcases h.2 with h0 | ⟨g, cap, cur, rfl, hg, hh, r⟩
  · exact .inl h0
  · exact .inr ⟨g, cap, cur, rfl, hg, (hk g (hlt g rfl).2.2).trans hh, r⟩
theorem Own.but {T : TypeId} (h : K.Own w B v xs) (hb : ButT T w w') (hT : K.e ≠ T) : K.Own w' B v xs := h.kept fun k hk => hb k _ hk hT
theorem Own.below (h : K.Own w B v xs) (hb : Below w.heap.size w w') : K.Own w' B v xs := h.kept fun k hk => hb.block k hk.lt
theorem Own.base (h : K.Own w B v xs) (hB : B' ≤ B) : K.Own w B' v xs := by
  refine ⟨h.1, ?_⟩
  rcases h.2 with h0 | ⟨g, cap, cur, rfl, hg, r⟩
  · exact .inl h0
  · exact .inr ⟨g, cap, cur, rfl, Nat.le_trans hB hg, r⟩
theorem Own.set (h : K.Own w B v xs) {p : Addr} (hp : p.block < B) (u : Value) : K.Own (w.setCell p u) B v xs := by
  have hlt := h.lt
  refine ⟨h.1, ?_⟩
  rcases h.2 with h0 | ⟨g, cap, cur, rfl, hg, hh, r⟩
  · exact .inl h0
  · exact .inr ⟨g, cap, cur, rfl, hg, (Below.heap_setCell w p u g (by omega)).trans hh, r⟩
theorem below_grown {w w1 w2 : World} (hb : Below B w w1) (hg : w1.grownBy w2 v.ownBlock) (ho : K.Own w1 B v xs) (hB : B ≤ w1.heap.size) : Below B w w2 :=
  hb.grown hg hB fun k hk => (ho.lt k hk).1
/-- an empty row that is not nil -/
theorem own_empty (K : El α) (w : World) : K.Own (w.alloc (.cells #[] K.e)) w.heap.size (.slice (some ⟨w.heap.size, 0, none⟩) 0 0) [] := by
  refine ⟨by simp, .inr ⟨w.heap.size, 0, _, rfl, Nat.le_refl _, heap_alloc_new w _, Nat.le_refl _, by simp [maxLen], by simp, by simp⟩⟩

section
variable {ops : Array Oper} {rest : List Oper} {o : Oper} {a : Act} {Q : Exit → Act → World → Prop} {C : Act → World → Prop}
/-- append of things that lie somewhere onto such a row -/
theorem op_apps (K : El α) (w : World) (sl : TypeId) (z : Value) (by_ : Nat) (hu : Try.prog.underlying sl = some (.slice K.e)) (hi : (Try.prog.info? K.e).map (fun i => (i.zero, i.size, i.bytes)) = some (some z, K.sz, by_)) (hzc : z.cells.size = K.sz) (hby : by_ ≤ 128)
    (s x : Operand) (ho : o.op = .call { callee := .builtin .append, args := #[s, x], argTypes := #[sl, sl] })
    (B : Nat) (v : Value) (xs : List α) (hs : a.eval s = v) (hown : K.Own w B v xs) (A : Option Addr) (c : Nat) (L : Nat) (ys : List α) (hx : a.eval x = .slice A ys.length c) (hc0 : A = none → c = 0) (hy : K.Lies w L A ys)
    (hn : xs.length + ys.length ≤ 1099511627776) (hsz : (xs.length + ys.length) * K.sz ≤ 140737488355328) (hB : B ≤ w.heap.size) (h : ∀ v' w', K.Own w' B v' (xs ++ ys) → w.grownBy w' v.ownBlock → C (a.put o.dst v') w') : Oper.wp Try.prog o a w C Q := by
  obtain ⟨i0, hi0, hz0, hz1, hz2⟩ := info_parts hi
  rcases A with _ | ad
  · have h0 : ys = [] := by
      rcases ys with _ | ⟨y, ys⟩
      · rfl
      · obtain ⟨g, o, e, _⟩ := hy (by simp)
        cases e
    subst h0
    obtain rfl := hc0 rfl
    have hrun := run_append_owned_none (P := Try.prog) w B sl o.type K.e i0 K.sz hu hi0 v xs.length (xs.flatMap K.f) hown
    unfold Oper.wp execOp
    simp only [ho, resolve, invoke, builtin, Sem.run_bind, Sem.run_pure, Result.andThen_ok, List.map_toArray, List.map_cons, List.map_nil, hs, hx, List.length_nil, hrun]
    exact h v w (by simpa using hown) (World.grownBy.refl _ _)
  · have hbb : (xs.length + ys.length) * by_ ≤ 140737488355328 := by
      have := Nat.mul_le_mul hn hby
      omega
    obtain ⟨v', w', hrun, r1, r2, _⟩ := run_append_own (P := Try.prog) w B sl o.type K.e i0 z K.sz by_ hu hi0 hz0 hz1 hz2 hzc K.pos v xs.length (xs.flatMap K.f) hown ad ys.length c (ys.flatMap K.f) (by rw [flat_len]) (by
        intro j u hu
        have hj : j < ys.length * K.sz := by have := (List.getElem?_eq_some_iff.1 hu).1; rwa [flat_len] at this
        have hp := K.pos
        obtain ⟨g', o', e, _, hc⟩ := hy (by rcases Nat.eq_zero_or_pos ys.length with q | q; · rw [q] at hj; omega
                                            · exact q)
        cases e
        have hj2 : j / K.sz < ys.length := Nat.div_lt_of_lt_mul (by rw [Nat.mul_comm]; exact hj)
        have hm := Nat.mod_lt j hp
        have hdm : j / K.sz * K.sz + j % K.sz = j := by rw [Nat.mul_comm]; exact Nat.div_add_mod j K.sz
        have e1 := flat_get K ys (j / K.sz) (j % K.sz) hj2 hm
        rw [hdm, hu] at e1
        have := hc (j / K.sz) hj2 (j % K.sz) u e1.symm
        rw [add_zero_off]
        rwa [hdm] at this) (flat_one K ys) (by simp only [maxLen]; omega) hbb hB
    unfold Oper.wp execOp
    simp only [ho, resolve, invoke, builtin, Sem.run_bind, Sem.run_pure, Result.andThen_ok, List.map_toArray, List.map_cons, List.map_nil, hs, hx, hrun]
    refine h v' w' ?_ r2
    show w'.ownsRow B _ K.sz v' (xs ++ ys).length ((xs ++ ys).flatMap K.f)
    rw [List.flatMap_append, List.length_append]
    simpa using r1
theorem apps (K : El α) (w : World) (hgd : o.guard = none) (sl : TypeId) (z : Value) (by_ : Nat) (hu : Try.prog.underlying sl = some (.slice K.e)) (hi : (Try.prog.info? K.e).map (fun i => (i.zero, i.size, i.bytes)) = some (some z, K.sz, by_)) (hzc : z.cells.size = K.sz) (hby : by_ ≤ 128)
    (s x : Operand) (ho : o.op = .call { callee := .builtin .append, args := #[s, x], argTypes := #[sl, sl] })
    (B : Nat) (v : Value) (xs : List α) (hs : a.eval s = v) (hown : K.Own w B v xs) (A : Option Addr) (c : Nat) (L : Nat) (ys : List α) (hx : a.eval x = .slice A ys.length c) (hc0 : A = none → c = 0) (hy : K.Lies w L A ys)
    (hn : xs.length + ys.length ≤ 1099511627776) (hsz : (xs.length + ys.length) * K.sz ≤ 140737488355328) (hB : B ≤ w.heap.size) (h : ∀ v' w', K.Own w' B v' (xs ++ ys) → w.grownBy w' v.ownBlock → wpList Try.prog ops Q rest (a.put o.dst v') w') : wpList Try.prog ops Q (o :: rest) a w :=
  wpList_plain hgd fun _ hK' => op_apps K w sl z by_ hu hi hzc hby s x ho B v xs hs hown A c L ys hx hc0 hy hn hsz hB (fun v' w' r1 r2 => hK' _ _ (h v' w' r1 r2))
/-- append of one thing that stands in a block of its own -/
theorem op_app1 (K : El α) (w : World) (sl : TypeId) (z : Value) (by_ : Nat) (hu : Try.prog.underlying sl = some (.slice K.e)) (hi : (Try.prog.info? K.e).map (fun i => (i.zero, i.size, i.bytes)) = some (some z, K.sz, by_)) (hzc : z.cells.size = K.sz) (hby : by_ ≤ 128) (hsz : K.sz ≤ 100)
    (s x : Operand) (ho : o.op = .call { callee := .builtin .append, args := #[s, x], argTypes := #[sl, sl] })
    (B : Nat) (v : Value) (xs : List α) (hs : a.eval s = v) (hown : K.Own w B v xs) (g c : Nat) (y : α) (hx : a.eval x = .slice (some ⟨g, 0, none⟩) 1 c) (t : TypeId) (hy : w.heap[g]? = some (.cells (K.f y).toArray t (0, 0)))
    (hn : xs.length ≤ 1000000) (hB : B ≤ w.heap.size) (h : ∀ v' w', K.Own w' B v' (xs ++ [y]) → w.grownBy w' v.ownBlock → C (a.put o.dst v') w') : Oper.wp Try.prog o a w C Q := by
  have h1 : (xs.length + [y].length) * K.sz ≤ 140737488355328 := by
    have := Nat.mul_le_mul (show xs.length + [y].length ≤ 1000001 by simp; omega) hsz
    omega
  refine op_apps K w sl z by_ hu hi hzc hby s x ho B v xs hs hown (some ⟨g, 0, none⟩) c (g + 1) [y] hx (fun e => by cases e) (fun _ => ⟨g, 0, rfl, Nat.lt_succ_self g, fun j hj f u hu => ?_⟩) (by simp; omega) h1 hB h
  obtain rfl : j = 0 := by simp at hj; omega
  simp only [World.cell?, hy]
  simpa using hu
theorem app1 (K : El α) (w : World) (hgd : o.guard = none) (sl : TypeId) (z : Value) (by_ : Nat) (hu : Try.prog.underlying sl = some (.slice K.e)) (hi : (Try.prog.info? K.e).map (fun i => (i.zero, i.size, i.bytes)) = some (some z, K.sz, by_)) (hzc : z.cells.size = K.sz) (hby : by_ ≤ 128) (hsz : K.sz ≤ 100)
    (s x : Operand) (ho : o.op = .call { callee := .builtin .append, args := #[s, x], argTypes := #[sl, sl] })
    (B : Nat) (v : Value) (xs : List α) (hs : a.eval s = v) (hown : K.Own w B v xs) (g c : Nat) (y : α) (hx : a.eval x = .slice (some ⟨g, 0, none⟩) 1 c) (t : TypeId) (hy : w.heap[g]? = some (.cells (K.f y).toArray t (0, 0)))
    (hn : xs.length ≤ 1000000) (hB : B ≤ w.heap.size) (h : ∀ v' w', K.Own w' B v' (xs ++ [y]) → w.grownBy w' v.ownBlock → wpList Try.prog ops Q rest (a.put o.dst v') w') : wpList Try.prog ops Q (o :: rest) a w :=
  wpList_plain hgd fun _ hK' => op_app1 K w sl z by_ hu hi hzc hby hsz s x ho B v xs hs hown g c y hx t hy hn hB (fun v' w' r1 r2 => hK' _ _ (h v' w' r1 r2))
end
end El
end Go.Proofs.Ytcgohlooelojfaa
