/-
  A range over a function: what an iterator owes, what a caller pays; the iterator may keep state of its own in cells.
-/
import Derived.RangeFuncNested
import Derived.RangeFuncLeaves
import Derived.RangeFuncBound
import Derived.Below
import Derived.WalkKit
import Derived.Test.YtbkfkdiadeaooaaGreatProg
namespace Go.Proofs.YtbkfkdiadeaooaaGreat
open Go Go.RowKit

/-- between two rounds: whatever lay below B, and all cells, lie as they lay, but for the blocks of E -/
structure Lets (E : Nat → Prop) (B : Nat) (A C : World) : Prop where
  os : C.os = A.os
  tape : C.tape = A.tape
  output : C.output = A.output
  size : A.heap.size ≤ C.heap.size
  blk : ∀ k o, A.heap[k]? = some o → ¬ E k → (k < B ∨ o.isCells = true) → C.heap[k]? = some o
/-- the blocks of K lie as they lay -/
structure Same (K : Nat → Prop) (A C : World) : Prop where
  os : C.os = A.os
  tape : C.tape = A.tape
  output : C.output = A.output
  size : A.heap.size ≤ C.heap.size
  blk : ∀ k o, A.heap[k]? = some o → K k → C.heap[k]? = some o
/-- what is no cells, from B on, lies as it lay -/
structure Nocs (B : Nat) (A C : World) : Prop where
  size : A.heap.size ≤ C.heap.size
  blk : ∀ k o, B ≤ k → A.heap[k]? = some o → o.isCells = false → C.heap[k]? = some o
def Stays (E : Nat → Prop) (B : Nat) (I : World → Prop) : Prop := ∀ A C, Lets E B A C → I A → I C

section
variable {E K : Nat → Prop} {B B' : Nat} {A C D : World}
theorem Lets.refl (A : World) : Lets E B A A := ⟨rfl, rfl, rfl, Nat.le_refl _, fun _ _ h _ _ => h⟩
theorem Lets.less (h : Lets E B A C) (hB : B' ≤ B) : Lets E B' A C := ⟨h.os, h.tape, h.output, h.size, fun k o hk hE hc => h.blk k o hk hE (hc.imp (fun q => by omega) id)⟩
theorem lets_put {l : Nat} {o : Obj} (o' : Obj) (hl : A.heap[l]? = some o) (ho : o.isCells = false) (hB : B ≤ l) : Lets E B A (A.putObj l o') := by
  refine ⟨rfl, rfl, rfl, by simp [World.putObj], fun k o1 hk _ hc => ?_⟩
  have hne : k ≠ l := fun e => by
    subst e
    rw [hl] at hk
    cases hk
    rcases hc with h | h
    · omega
    · rw [ho] at h; cases h
  exact (World.putObj_heap_other hne).trans hk
theorem lets_alloc (A : World) (o : Obj) : Lets E B A (A.alloc o) := ⟨rfl, rfl, rfl, by simp, fun k o1 hk _ _ => (Below.heap_alloc A o k (Array.getElem?_eq_some_iff.1 hk).1).trans hk⟩
theorem Same.refl (A : World) : Same K A A := ⟨rfl, rfl, rfl, Nat.le_refl _, fun _ _ h _ => h⟩
theorem Same.trans (h : Same K A C) (k : Same K C D) : Same K A D := ⟨k.os.trans h.os, k.tape.trans h.tape, k.output.trans h.output, Nat.le_trans h.size k.size, fun i o hi hK => k.blk i o (h.blk i o hi hK) hK⟩
theorem same_put {l : Nat} (o' : Obj) (hl : ¬ K l) : Same K A (A.putObj l o') := ⟨rfl, rfl, rfl, by simp [World.putObj], fun k _ hk hK => (World.putObj_heap_other (fun e => by subst e; exact hl hK)).trans hk⟩
theorem Same.of_below (h : Below B A C) (hK : ∀ k, K k → k < B) : Same K A C := ⟨h.os, h.tape, h.output, h.size, fun k _ hk hk' => (h.block k (hK k hk')).trans hk⟩
theorem Same.below (h : Same (fun k => k < B) A C) (hB : B ≤ A.heap.size) : Below B A C := ⟨h.os, h.tape, h.output, h.size, fun k hk => by
  rw [Array.getElem?_eq_getElem (show k < A.heap.size by omega)]
  exact h.blk k _ (Array.getElem?_eq_getElem (show k < A.heap.size by omega)) hk⟩
theorem Nocs.refl (A : World) : Nocs B A A := ⟨Nat.le_refl _, fun _ _ _ h _ => h⟩
theorem Nocs.trans (h : Nocs B A C) (k : Nocs B C D) : Nocs B A D := ⟨Nat.le_trans h.size k.size, fun i o hB hi ho => k.blk i o hB (h.blk i o hB hi ho) ho⟩
theorem nocs_alloc (A : World) (o : Obj) : Nocs B A (A.alloc o) := ⟨by simp, fun k _ _ hk _ => (Below.heap_alloc A o k (Array.getElem?_eq_some_iff.1 hk).1).trans hk⟩
theorem Nocs.of_below (h : Below A.heap.size A C) : Nocs B A C := ⟨h.size, fun k _ _ hk _ => (h.block k (Array.getElem?_eq_some_iff.1 hk).1).trans hk⟩
theorem nocs_set (A : World) (p : Addr) (v : Value) : Nocs B A (A.setCell p v) := ⟨(KeepsOthers.setCell A p v).size, fun k o _ hk ho => (KeepsOthers.setCell A p v).same k o hk ho⟩
theorem Nocs.of_grown {row : Option Nat} (h : A.grownBy C row) (hr : ∀ k, row = some k → ∃ o : Obj, A.heap[k]? = some o ∧ o.isCells = true) : Nocs B A C :=
  ⟨h.size, fun k o _ hk ho => (h.block k (Array.getElem?_eq_some_iff.1 hk).1 (fun e => by
    obtain ⟨o1, h1, h2⟩ := hr k e.symm
    rw [hk] at h1
    cases h1
    rw [ho] at h2
    cases h2)).trans hk⟩
theorem Lets.below (h : Lets E B A C) {n : Nat} {w : World} (hb : Below n w A) (hn : n ≤ w.heap.size) (hE : ∀ k, E k → n ≤ k) (hB : n ≤ B) : Below n w C :=
  hb.trans ⟨h.os, h.tape, h.output, h.size, fun k hk => by
    have hs := hb.size
    rw [Array.getElem?_eq_getElem (show k < A.heap.size by omega)]
    exact h.blk k _ (Array.getElem?_eq_getElem (show k < A.heap.size by omega)) (fun e => by have := hE k e; omega) (.inl (by omega))⟩
theorem stays_below {n : Nat} {w : World} (hn : n ≤ w.heap.size) (hE : ∀ k, E k → n ≤ k) (hB : n ≤ B) : Stays E B (Below n w) := fun _ _ h hb => h.below hb hn hE hB
theorem Stays.and {I I' : World → Prop} (h : Stays E B I) (h' : Stays E B I') : Stays E B (fun W => I W ∧ I' W) := fun A C hl hi => ⟨h A C hl hi.1, h' A C hl hi.2⟩
theorem stays_pure (p : Prop) : Stays E B (fun _ => p) := fun _ _ _ h => h
end

/-- an iterator's word: it calls yield at each x that is next, and at no other; it stops where yield says so. A round keeps the blocks of K, and those that are newer than the last round. -/
def SeqC {α : Type} (g : Nat) (lb : Array Value) (encs : α → Array Value) (E K : Nat → Prop) (Nx : List α → α → World → Prop) (Sd : List α → Prop) (w0 : World) : Prop :=
  ∀ (l : Nat) (J Jx : List α → World → Prop) (W : World), W.heap.size = w0.heap.size + 2 → Below w0.heap.size w0 W → (∀ s, Stays E W.heap.size (J s)) → (∀ s, Stays E W.heap.size (Jx s)) →
    (∀ pre x Wr W1, J pre Wr → Lets E Wr.heap.size Wr W1 → Nx pre x W1 → YieldAt Fence.wide 7 Tryz.prog l (encs x) W1 fun e W' => (e = .returned (.bool true) ∧ J (pre ++ [x]) W' ∧ Same (fun k => K k ∨ Wr.heap.size ≤ k) W1 W') ∨ (e = .returned (.bool false) ∧ Jx (pre ++ [x]) W')) →
    J [] W → CallsIn Fence.wide 8 Tryz.prog g (#[.func (.yield l) #[] #[]] ++ lb) W fun e W' => (∃ v, e = .returned v) ∧ ((∃ xs, Sd xs ∧ J xs W') ∨ ∃ pre, Jx pre W')

/-- how a round may be left -/
def Leave {α : Type} (B : Nat) (K : Nat → Prop) (I : List α → World → Prop) (Ix : Code → List α → World → Prop) (xs : List α) (W W2 : World) : Exit → Act → World → Prop
  | .normal, _, W' => Nocs B W2 W' ∧ Same K W W' ∧ I xs W'
  | .ret, _, W' => Nocs B W2 W' ∧ Ix .ret xs W'
  | .exit id, _, W' => Nocs B W2 W' ∧ Ix (.exit id) xs W'
  | _, _, _ => False

theorem range_wp {α : Type} {g : Operand} {ps : Array Tmp} {assign body : Code} {Q : Exit → Act → World → Prop} {a : Act} {w : World} {gf : Nat} {lb : Array Value}
    (hg : a.eval g = .func (.func gf) #[] lb) (eg : ∀ args w, (callFunc gf args).run Tryz.prog w = .ok (.enter gf args) w)
    {encs : α → Array Value} {E K : Nat → Prop} {Nx : List α → α → World → Prop} {Sd : List α → Prop} (hseq : SeqC gf lb encs E K Nx Sd w) (hps : ∀ x, (encs x).size = ps.size)
    (hE : ∀ k, E k → k < w.heap.size ∨ w.heap.size + 2 ≤ k) (hK : ∀ k, K k → k < w.heap.size ∨ w.heap.size + 2 ≤ k)
    (I : List α → World → Prop) (Ix : Code → List α → World → Prop) (hI : ∀ s, Stays E w.heap.size (I s)) (hIx : ∀ c s, Stays E w.heap.size (Ix c s)) (h0 : I [] w)
    (hround : ∀ (l : Nat) (pre : List α) (x : α) (Wr W : World), w.heap.size + 2 ≤ Wr.heap.size → I pre Wr → Lets E Wr.heap.size Wr W → I pre W → Nx pre x W → assign.wpIn (Fence.wide.inRound l) 7 Tryz.prog
      (Exit.then (fun a' W1 => Nocs w.heap.size W W1 ∧ Same (fun k => K k ∨ Wr.heap.size ≤ k) W W1 ∧ ∀ W2, (∀ E, Lets E (w.heap.size + 1) W1 W2) → Same (fun k => K k ∨ Wr.heap.size ≤ k) W W2 → W2.heap.size = W1.heap.size →
        body.wpIn (Fence.wide.inRound l) 7 Tryz.prog (Leave w.heap.size (fun k => K k ∨ Wr.heap.size ≤ k) I Ix (pre ++ [x]) W W2) a' W2) (fun _ _ _ => False))
      { tmps := (ps.zip (encs x)).foldl (fun t (p, v) => t.setIfInBounds p v) a.tmps, defers := [] } W)
    (hdone : ∀ (D : Nat) (xs : List α) (W : World), w.heap.size ≤ D → Sd xs → I xs W → W.heap[D]? = some (.deferred (some [])) → Q .normal { a with defers := { target := .collected D, args := #[] } :: a.defers } W)
    (hstop : ∀ (D : Nat) (c : Code) (pre : List α) (W : World), w.heap.size ≤ D → Ix c pre W → W.heap[D]? = some (.deferred (some [])) → c.wp Tryz.prog Q { a with defers := { target := .collected D, args := #[] } :: a.defers } W) :
    (Code.rangeFunc g ps assign body).wp Tryz.prog Q a w := by
  refine (wpIn_wide (n := 9)).1 (wpIn_rangeFunc fun fn _ => ?_)
  let R : LoopState → Option Code → Obj := fun st pe => .loop { state := st, pending := pe, fn, tmps := a.tmps, params := ps, assign, body, defers := w.heap.size }
  let d : Obj := .deferred (some [])
  let w1 := (w.alloc d).alloc (R .ready none)
  have hz1 : w1.heap.size = w.heap.size + 1 + 1 := by simp [w1]
  have hr1 : w1.heap[w.heap.size + 1]? = some (R .ready none) := by have := World.alloc_heap_new (w.alloc d) (R .ready none); rwa [World.size_alloc] at this
  have hd1 : w1.heap[w.heap.size]? = some d := (Below.heap_alloc _ _ _ (by simp)).trans (World.alloc_heap_new w d)
  have hl1 : Lets E w.heap.size w w1 := ⟨rfl, rfl, rfl, by omega, fun k o hk _ _ => by
    have := (Array.getElem?_eq_some_iff.1 hk).1
    exact (Below.heap_alloc _ _ k (by simp; omega)).trans ((Below.heap_alloc _ _ k this).trans hk)⟩
  refine ⟨w.heap.size + 1, [{ target := .collected w.heap.size, args := #[] }], w1, { target := .fn (.func gf) lb, args := #[.func (.yield (w.heap.size + 1)) #[] #[]] }, w1, gf, #[.func (.yield (w.heap.size + 1)) #[] #[]] ++ lb, w1,
    run_enterLoop_outer _ _ _ _ _, ?_, fun _ _ => trivial, ?_, fun _ => by omega, ?_⟩
  · simp only [resolve, hg]
    simp [go_sem]
  · simp [invoke, go_sem, eg]
  -- the iterator's word, with the two blocks of the loop's books beside the caller's own
  have books : ∀ (A C : World), Lets E w1.heap.size A C → ∀ o : Obj, (A.heap[w.heap.size + 1]? = some o → C.heap[w.heap.size + 1]? = some o) ∧ (A.heap[w.heap.size]? = some o → C.heap[w.heap.size]? = some o) := fun A C h o =>
    ⟨fun q => h.blk _ _ q (fun e => by have := hE _ e; omega) (.inl (by omega)), fun q => h.blk _ _ q (fun e => by have := hE _ e; omega) (.inl (by omega))⟩
  refine (hseq (w.heap.size + 1) (fun s W => I s W ∧ W.heap[w.heap.size + 1]? = some (R .ready none) ∧ W.heap[w.heap.size]? = some d)
    (fun s W => ∃ c, Ix c s W ∧ W.heap[w.heap.size + 1]? = some (R .done (some c)) ∧ W.heap[w.heap.size]? = some d) w1 hz1 ?_
    (fun s A C h q => ⟨hI s A C (h.less (by omega)) q.1, (books A C h _).1 q.2.1, (books A C h _).2 q.2.2⟩)
    (fun s A C h q => by obtain ⟨c, q1, q2, q3⟩ := q; exact ⟨c, hIx c s A C (h.less (by omega)) q1, (books A C h _).1 q2, (books A C h _).2 q3⟩) ?_ ⟨hI _ _ _ hl1 h0, hr1, hd1⟩).mono ?_
  · exact ((Below.refl _ w).alloc (Nat.le_refl _) d).alloc (by simp) _
  · rintro pre x Wr W ⟨hir, hlr, hdr⟩ hle hn
    have hzr : w.heap.size + 2 ≤ Wr.heap.size := (Array.getElem?_eq_some_iff.1 hlr).1
    have hl := hle.blk _ _ hlr (fun e => by have := hE _ e; omega) (.inl (by omega))
    have hd := hle.blk _ _ hdr (fun e => by have := hE _ e; omega) (.inl (by omega))
    have hi := hI _ _ _ (hle.less (by omega)) hir
    have hKr : ∀ k, (K k ∨ Wr.heap.size ≤ k) → k < w.heap.size ∨ w.heap.size + 2 ≤ k := fun k q => q.elim (hK k) (fun h => .inr (by omega))
    have hy := run_yield (P := Tryz.prog) (args := encs x) hl (hps x)
    refine ⟨fn, _, assign, body, hy, roundIn_of_wpIn (by trivial) (wpIn_mono (hround _ pre x Wr W hzr hir hle hi hn) ?_)⟩
    intro e a' W1 h
    cases e with
    | normal =>
      obtain ⟨hn1, hs1, hb⟩ := h
      have hl1 := hn1.blk _ _ (by omega) hl rfl
      have hd1 := hn1.blk _ _ (by omega) hd rfl
      have hlt := (Array.getElem?_eq_some_iff.1 hl1).1
      refine ⟨_, run_beginRound hl1 rfl, ?_⟩
      have hl2 : (W1.putObj (w.heap.size + 1) (R .busy none)).heap[w.heap.size + 1]? = some (R .busy none) := World.putObj_heap_same hlt
      have hd2 : (W1.putObj (w.heap.size + 1) (R .busy none)).heap[w.heap.size]? = some d := (World.putObj_heap_other (by omega)).trans hd1
      have hs2 : Same (fun k => K k ∨ Wr.heap.size ≤ k) W1 (W1.putObj (w.heap.size + 1) (R .busy none)) := same_put _ (fun q => by have := hKr _ q; omega)
      refine wpIn_mono (hb _ (fun _ => lets_put _ hl1 rfl (Nat.le_refl _)) (hs1.trans hs2) (by simp [World.putObj])) ?_
      have ends : ∀ (j : Option Code) (W3 : World), Nocs w.heap.size (W1.putObj (w.heap.size + 1) (R .busy none)) W3 → ∃ W4, (Instr.endRound (w.heap.size + 1) j).run Tryz.prog W3 = .ok (.bool j.isNone) W4 ∧ (∀ E, Lets E w.heap.size W3 W4) ∧ Same (fun k => K k ∨ Wr.heap.size ≤ k) W3 W4 ∧
          W4.heap[w.heap.size + 1]? = some (R (if j.isNone then .ready else .done) j) ∧ W4.heap[w.heap.size]? = some d := fun j W3 h3 => by
        have hl3 := h3.blk _ _ (by omega) hl2 rfl
        have hd3 := h3.blk _ _ (Nat.le_refl _) hd2 rfl
        exact ⟨_, run_endRound j hl3, fun _ => lets_put _ hl3 rfl (by omega), same_put _ (fun q => by have := hKr _ q; omega), World.putObj_heap_same (Array.getElem?_eq_some_iff.1 hl3).1, (World.putObj_heap_other (by omega)).trans hd3⟩
      intro e a3 W3 h3
      cases e with
      | normal =>
        obtain ⟨p1, p2, p3⟩ := h3
        obtain ⟨W4, q1, q2, q3, q4, q5⟩ := ends none W3 p1
        exact ⟨_, _, q1, .inl ⟨rfl, ⟨hI _ _ _ (q2 E) p3, q4, q5⟩, p2.trans q3⟩⟩
      | ret =>
        obtain ⟨p1, p3⟩ := h3
        obtain ⟨W4, q1, q2, q3, q4, q5⟩ := ends (some .ret) W3 p1
        exact ⟨_, _, q1, .inr ⟨rfl, .ret, hIx _ _ _ _ (q2 E) p3, q4, q5⟩⟩
      | exit id =>
        obtain ⟨p1, p3⟩ := h3
        obtain ⟨W4, q1, q2, q3, q4, q5⟩ := ends (some (.exit id)) W3 p1
        exact ⟨_, _, q1, .inr ⟨rfl, .exit id, hIx _ _ _ _ (q2 E) p3, q4, q5⟩⟩
      | goto t => exact h3.elim
      | panic c => exact h3.elim
      | outgrown => exact h3.elim
    | ret => exact h.elim
    | exit id => exact h.elim
    | goto t => exact h.elim
    | panic c => exact h.elim
    | outgrown => exact h.elim
  · rintro e W2 ⟨⟨v, rfl⟩, (⟨xs, hS, hi, hl, hd⟩ | ⟨pre, c, hi, hl, hd⟩)⟩
    · exact ⟨none, _, run_endLoop hl (by simp), hdone _ xs _ (Nat.le_refl _) hS (hI _ _ _ (lets_put _ hl rfl (by omega)) hi) ((World.putObj_heap_other (by omega)).trans hd)⟩
    · exact ⟨some c, _, run_endLoop hl (by simp), wpIn_wide.2 (hstop _ c pre _ (Nat.le_refl _) (hIx _ _ _ _ (lets_put _ hl rfl (by omega)) hi) ((World.putObj_heap_other (by omega)).trans hd))⟩

/-- a function that holds such a loop, from its body -/
theorem calls_loop {f : FuncId} {fn : Func} {c : Code} {args : Array Value} {w : World} {R : Ending → World → Prop} (hf : Tryz.prog.funcs[f]? = some fn) (hb : fn.body = some c)
    (h : c.wp Tryz.prog (bodyPostM Fence.wide 9 Tryz.prog fn R) { tmps := args ++ Array.replicate (fn.ntmps - args.size) undef, defers := [] } w) : Calls Tryz.prog f args w R :=
  callsIn_wide.1 (callsIn_of_wp_marks (n := 9) hf hb trivial (wpIn_wide.2 h))
/-- such a function's return, ahead of the loop and behind it -/
theorem ret_plain {fn : Func} {R : Ending → World → Prop} {a : Act} {W : World} {v : Value} (hd : a.defers = []) (hv : (results fn a.tmps).run Tryz.prog W = .ok v W) (h : R (.returned v) W) : bodyPostM Fence.wide 9 Tryz.prog fn R .ret a W := by
  show LeavesInM _ _ _ _ _ _ a.defers _ _
  rw [hd]
  exact ⟨v, hv, h⟩
theorem ret_mark {fn : Func} {R : Ending → World → Prop} {t : Array Value} {D : Nat} {W : World} {v : Value} (hK : W.heap[D]? = some (.deferred (some []))) (hv : (results fn t).run Tryz.prog (W.putObj D (.deferred none)) = .ok v (W.putObj D (.deferred none)))
    (h : R (.returned v) (W.putObj D (.deferred none))) : bodyPostM Fence.wide 9 Tryz.prog fn R .ret { tmps := t, defers := [{ target := .collected D, args := #[] }] } W :=
  ⟨by simp, .inl ⟨_, _, rfl, run_takeDeferred hK, ⟨v, hv, h⟩⟩⟩
end Go.Proofs.YtbkfkdiadeaooaaGreat
