/-
  Merged for a claim: L7M.
-/
import Derived.Test.YtbkfkdiadeaooaaGreatHL7L
import Derived.Test.YtbkfkdiadeaooaaGreatKG
namespace Go.Proofs.YtbkfkdiadeaooaaGreat
open Go Go.RowKit

/-- a list's bytes -/
def ownS (xs : List Sp) : List UInt8 := nB false xs.length ++ (prS xs).flatMap encS
def ptSE (xs : List Sp) : Int := if rightL xs = true then 0 else 1
def ptSB (b : List UInt8) (xs : List Sp) : List UInt8 := if rightL xs = true then b ++ ownS xs else []
theorem ptS_yes {b : List UInt8} {xs : List Sp} (h : rightL xs = true) : ptSE xs = 0 ∧ ptSB b xs = b ++ ownS xs := ⟨if_pos h, if_pos h⟩
theorem ptS_no {b : List UInt8} {xs : List Sp} (h : rightL xs = false) : ptSE xs = 1 ∧ ptSB b xs = [] := ⟨if_neg (by rw [h]; decide), if_neg (by rw [h]; decide)⟩
def PutR7 (b : List UInt8) (xs : List Sp) (w : World) (e : Ending) (w' : World) : Prop :=
  ∃ v, e = .returned (.tuple #[v, .int .i64 (ptSE xs)]) ∧ Own w' w.heap.size v (ptSB b xs) ∧ Below w.heap.size w w'
theorem encS_len {q : Int × Sp} (h : rightC q.2.a = true) : (encS q).length ≤ 206 ∧ 0 < (encS q).length := by
  have h1 := size_le false (q.2.f - q.1)
  have h2 := size_le false (q.2.t - q.2.f)
  have h3 := (ownC_len q.2.a).2
  have h4 := right_len h
  have h5 := size_pos false (q.2.f - q.1)
  unfold encS
  rw [List.length_append, List.length_append, nB_len, nB_len]
  omega

theorem Own.lets {E : Nat → Prop} {B B' : Nat} {A C : World} {v : Value} {l : List UInt8} (h : Own A B v l) (hl : Lets E B' A C) (hE : ∀ k, E k → k < B) : Own C B v l := by
  rcases h with h | ⟨g, r, e, hB, hm, hb⟩
  · exact .inl h
  · exact .inr ⟨g, r, e, hB, hm, hl.blk _ _ hb (fun q => by have := hE _ q; omega) (.inr rfl)⟩
theorem Own.put7 {B : Nat} {W : World} {v : Value} {l : List UInt8} {D : Nat} {o : Obj} (h : Own W B v l) (o' : Obj) (hD : W.heap[D]? = some o) (ho : o.isCells = false) : Own (W.putObj D o') B v l :=
  Own.lets (E := fun _ => False) (B' := 0) h (lets_put o' hD ho (Nat.zero_le _)) (fun _ q => q.elim)
/-- bytes of the call's own are no variable of another type -/
theorem Own.no_box {B : Nat} {W : World} {v u : Value} {l : List UInt8} {b : Nat} {t : TypeId} (h : Own W B v l) (hb : Boxed W b t u) (ht : t ≠ 5) : some b ≠ v.ownBlock := by
  intro e
  rcases h with ⟨rfl, _⟩ | ⟨g, r, rfl, _, _, hh⟩
  · cases e
  · simp only [Value.ownBlock, Option.some.injEq] at e
    subst e
    unfold Blk at hh
    rw [show W.heap[b]? = _ from hb] at hh
    injection hh with e1
    injection e1 with _ e2
    exact ht e2
theorem Own.cells7 {B : Nat} {A : World} {u : Value} {l : List UInt8} (h : Own A B u l) : ∀ k, u.ownBlock = some k → ∃ o : Obj, A.heap[k]? = some o ∧ o.isCells = true := by
  intro k e
  rcases h with ⟨rfl, _⟩ | ⟨g, r, rfl, _, _, hh⟩
  · cases e
  · simp only [Value.ownBlock, Option.some.injEq] at e
    subst e
    exact ⟨_, hh, rfl⟩

set_option maxRecDepth 10000 in
theorem run_app2 (w : World) (B : Nat) (v : Value) (l : List UInt8) (hown : Own w B v l) (a : Addr) (c : Nat) (l2 : List UInt8)
    (hl : ∀ j (h : j < l2.length), w.cell? (a.add j) = some (b8 l2[j])) (hsz : l.length + l2.length ≤ 140737488355328) (hB : B ≤ w.heap.size) (ty : TypeId) :
    ∃ v' w', (Builtin.append_ #[22, 22] ty #[v, .slice (some a) l2.length c]).run Tryz.prog w = .ok v' w' ∧ Own w' B v' (l ++ l2) ∧ w.grownBy w' v.ownBlock ∧ (v'.ownBlock = v.ownBlock ∨ v'.ownBlock = some w.heap.size) := by
  obtain ⟨i0, hi0, hz0, hz1, hz2⟩ := info_parts u8_info
  have hnews : ∀ j u, (l2.map b8)[j]? = some u → w.cell? (a.add j) = some u := by
    intro j u hu
    have hj : j < l2.length := by have := (List.getElem?_eq_some_iff.1 hu).1; simpa using this
    rw [hl j hj]
    simpa [hj] using hu
  have hl2 : (l2.map b8).length = l2.length * i0.size := by simp [hz1]
  have grown : ∀ (n old : Nat), l.length + l2.length = n → ∀ row : Option Nat,
      Own (w.drew.alloc (.cells ((l.map b8).toArray ++ (l2.map b8).toArray ++ Builtin.zeroCells (Value.int .u8 0).cells (grownCap w n old 5 - n)) 5)) B
        (.slice (some ⟨w.heap.size, 0, none⟩) n (grownCap w n old 5)) (l ++ l2) ∧
      w.grownBy (w.drew.alloc (.cells ((l.map b8).toArray ++ (l2.map b8).toArray ++ Builtin.zeroCells (Value.int .u8 0).cells (grownCap w n old 5 - n)) 5)) row := by
    intro n old hn row
    have hge := grownCap_ge w n old 5
    have hcm : grownCap w n old 5 ≤ maxLen := grownCap_le_maxLen w n old 5 (by simp only [maxLen]; omega)
    refine ⟨.inr ⟨w.heap.size, List.replicate (grownCap w n old 5 - n) 0, ?_, hB, ?_, ?_⟩, ⟨rfl, rfl, rfl, by simp, fun k hk _ => heap_alloc_old w.drew _ hk⟩⟩
    · congr 1
      · simp [hn]
      · simp; omega
    · simp; omega
    · refine blk_lit w.drew (l ++ l2 ++ List.replicate (grownCap w n old 5 - n) 0) _ ?_
      have hc : (Value.int .u8 0).cells = #[(Value.int .u8 0)] := rfl
      rw [hc, Array.toList_append, Array.toList_append, zero_b8]
      simp
  rcases hown with ⟨rfl, rfl⟩ | ⟨g, r, rfl, hBg, hcm, hb⟩
  · by_cases hm : l2.length = 0
    · obtain rfl := List.eq_nil_of_length_eq_zero hm
      refine ⟨.slice none 0 0, w, ?_, Own.nil _ _, World.grownBy.refl _ _, .inl rfl⟩
      simp [Builtin.append_, run_underlying Tryz.underlying22, sizeOf, typeInfo, hi0, Builtin.lenOf, Builtin.firstCells, loadCells, loadCellsFrom]
    · have hr := run_append_nil (P := Tryz.prog) w 22 ty 5 i0 _ Tryz.underlying22 hi0 hz0 a l2.length c (l2.map b8) hl2 hnews (by omega) (by simp at hsz; omega) (by rw [hz2]; simp at hsz; omega)
      have hg := grown l2.length 0 (by simp) (Value.ownBlock (.slice none 0 0))
      simp only [List.map_nil, List.nil_append, Array.empty_append] at hg ⊢
      exact ⟨_, _, hr, hg.1, hg.2, .inr rfl⟩
  · by_cases hroom : l.length + l2.length ≤ l.length + r.length
    · have hfit : l.length * i0.size + (l2.map b8).length ≤ (((l ++ r).map b8).toArray).size := by simp [hz1]; omega
      have hr := run_append_room (P := Tryz.prog) w 22 ty 5 i0 Tryz.underlying22 hi0 g l.length (l.length + r.length) _ hb a l2.length c (l2.map b8) hl2 hnews (b8_one _) hroom hfit
      refine ⟨_, _, hr, .inr ⟨g, r.drop l2.length, ?_, hBg, by simp; omega, ?_⟩, ⟨rfl, rfl, rfl, by simp, fun k _ hk => setRow_other w g k _ (fun e => hk (by simp [Value.ownBlock, e]))⟩, .inl rfl⟩
      · congr 1 <;> simp <;> omega
      · have := setRow_heap w g _ (((l ++ r).map b8).take (l.length * i0.size) ++ l2.map b8 ++ ((l ++ r).map b8).drop (l.length * i0.size + (l2.map b8).length)).toArray _ _ hb
        unfold Blk
        simp only at *
        rw [this]
        congr 2
        simp [hz1, List.drop_append]
    · have holds : ∀ j u, (l.map b8)[j]? = some u → w.cell? ((⟨g, 0, none⟩ : Addr).add j) = some u := by
        intro j u hu
        have hj : j < l.length := by have := (List.getElem?_eq_some_iff.1 hu).1; simpa using this
        rw [add_zero_off, Nat.zero_add, hb.cell (by simp; omega)]
        simpa [hj, b8, List.getElem_append_left hj] using hu
      have hr := run_append_grow (P := Tryz.prog) w 22 ty 5 i0 _ Tryz.underlying22 hi0 hz0 ⟨g, 0, none⟩ l.length (l.length + r.length) (l.map b8) (by simp [hz1]) holds a l2.length c (l2.map b8) hl2 hnews (by omega) (by omega)
        (growslice_fits (by omega) (by rw [hz2]; omega))
      have hg := grown (l.length + l2.length) (l.length + r.length) rfl (Value.ownBlock (.slice (some ⟨g, 0, none⟩) l.length (l.length + r.length)))
      exact ⟨_, _, hr, hg.1, hg.2, .inr rfl⟩

/-- the block of a row of the call's own is older than some others, or newer -/
def Off (N M : Nat) (v : Value) : Prop := ∀ k, v.ownBlock = some k → k < N ∨ M ≤ k
theorem Off.next {N M : Nat} {v v' : Value} {w : World} (h : Off N M v) (hM : M ≤ w.heap.size) (e : v'.ownBlock = v.ownBlock ∨ v'.ownBlock = some w.heap.size) : Off N M v' := fun k hk => by
  rcases e with e | e
  · exact h k (e.symm.trans hk)
  · rw [e] at hk
    cases hk
    exact .inr hM
/-- a span's block is no row of bytes -/
theorem Own.no_span {B : Nat} {W : World} {v : Value} {l : List UInt8} {g : Nat} {r : Ps} (h : Own W B v l) (hs : SpAt W g r) : some g ≠ v.ownBlock := by
  intro e
  rcases h with ⟨rfl, _⟩ | ⟨g', q, rfl, _, _, hh⟩
  · cases e
  · simp only [Value.ownBlock, Option.some.injEq] at e
    subst e
    unfold Blk at hh
    unfold SpAt at hs
    rw [hs] at hh
    injection hh with e1
    injection e1 with _ e2
    exact absurd e2 (by decide)
section
variable {o : Oper} {a : Act}
/-- append of some bytes, as one operation -/
theorem op_append {K : Act → World → Prop} {Q : Exit → Act → World → Prop} (w : World) (s x : Operand) (ho : o.op = .call { callee := .builtin .append, args := #[s, x], argTypes := #[22, 22] })
    (B : Nat) (v : Value) (l : List UInt8) (hs : a.eval s = v) (hown : Own w B v l) (A : Option Addr) (c C : Nat) (l2 : List UInt8) (hx : a.eval x = .slice A l2.length c) (h0 : 0 < l2.length) (hl : Lies w C A l2)
    (hsz : l.length + l2.length ≤ 140737488355328) (hB : B ≤ w.heap.size) (h : ∀ v' w', Own w' B v' (l ++ l2) → w.grownBy w' v.ownBlock → (v'.ownBlock = v.ownBlock ∨ v'.ownBlock = some w.heap.size) → K (a.put o.dst v') w') : Oper.wp Tryz.prog o a w K Q := by
  obtain ⟨g, off, rfl, _, hc⟩ := hl h0
  obtain ⟨v', w', hrun, h1, h2, h3⟩ := run_app2 w B v l hown ⟨g, off, none⟩ c l2 (fun j hj => by rw [add_zero_off]; exact hc j hj) hsz hB o.type
  unfold Oper.wp execOp
  simp only [ho, resolve, invoke, builtin, Sem.run_bind, Sem.run_pure, Result.andThen_ok, List.map_toArray, List.map_cons, List.map_nil, hs, hx, hrun]
  exact h v' w' h1 h2 h3
/-- append of some bytes, in a round -/
theorem app_sliceIn {F : Fence} {n : Nat} {ops : Array Oper} {rest : List Oper} {Q : Exit → Act → World → Prop} (w : World) (hgd : o.guard = none) (s x : Operand) (ho : o.op = .call { callee := .builtin .append, args := #[s, x], argTypes := #[22, 22] })
    (B : Nat) (v : Value) (l : List UInt8) (hs : a.eval s = v) (hown : Own w B v l) (A : Option Addr) (c C : Nat) (l2 : List UInt8) (hx : a.eval x = .slice A l2.length c) (h0 : 0 < l2.length) (hl : Lies w C A l2)
    (hsz : l.length + l2.length ≤ 140737488355328) (hB : B ≤ w.heap.size) (h : ∀ v' w', Own w' B v' (l ++ l2) → w.grownBy w' v.ownBlock → (v'.ownBlock = v.ownBlock ∨ v'.ownBlock = some w.heap.size) → wpListIn F n Tryz.prog ops Q rest (a.put o.dst v') w') : wpListIn F n Tryz.prog ops Q (o :: rest) a w := by
  obtain ⟨g, off, rfl, _, hc⟩ := hl h0
  obtain ⟨v', w', hrun, h1, h2, h3⟩ := run_app2 w B v l hown ⟨g, off, none⟩ c l2 (fun j hj => by rw [add_zero_off]; exact hc j hj) hsz hB o.type
  refine wpListIn_plain hgd fun K hK' => ?_
  unfold Oper.wpIn
  refine ⟨?_, ?_⟩
  · simp [Oper.about, ho, resolve, Target.leads, Sem.run_pure]
  · rw [Oper.semAt_plain F _ _ (by rw [ho]; intro c hc'; cases hc')]
    simp [execOp, ho, resolve, invoke, builtin, hs, hx, hrun, Result.andThen]
    exact hK' _ _ (h v' w' h1 h2 h3)
end
end Go.Proofs.YtbkfkdiadeaooaaGreat
