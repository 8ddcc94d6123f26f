/-
  What steps come to; the stack in memory.
-/
import Derived.Test.YtdnpoeegefkoiaaE6J
import Derived.Deep.RegionWith
import Derived.Laws.MakeOwn
namespace Go.Proofs.Ytdnpoeegefkoiaa
open Go Go.RowKit

def stepV (V : Vw) (s : List Int) (x : Lc) : Option (List Int) := (layV V x (s.drop (s.length - tk x.k))).map fun y => s.take (s.length - tk x.k) ++ [y]
def runV (V : Vw) : List Int → List Lc → Option (List Int)
  | s, [] => some s
  | s, x :: l => (stepV V s x).bind fun s' => runV V s' l
def evO (V : Vw) (l : List Lc) : Option Int := if rightC l = true ∧ l.length ≠ 0 then (runV V [] l).map (·.getD 0 0) else none
def evE (V : Vw) (l : List Lc) : Int := if rightC l = true then (if (evO V l).isSome then 0 else 4) else 1
def evX (V : Vw) (l : List Lc) : Int := (evO V l).getD 0
def EvalR (V : Vw) (l : List Lc) (w : World) (e : Ending) (w' : World) : Prop := e = .returned (.tuple #[.int .i64 (evX V l), .int .i64 (evE V l)]) ∧ Below w.heap.size w w'

theorem stepV_some {V : Vw} {s : List Int} {x : Lc} {m : List Int} {t : List Int} {y : Int} (hs : s = m ++ t) (ht : t.length = tk x.k) (h : layV V x t = some y) : stepV V s x = some (m ++ [y]) := by
  subst hs
  unfold stepV
  rw [show (m ++ t).length - tk x.k = m.length by simp [ht], List.drop_left, List.take_left, h]
  rfl
theorem stepV_none {V : Vw} {s : List Int} {x : Lc} {m : List Int} {t : List Int} (hs : s = m ++ t) (ht : t.length = tk x.k) (h : layV V x t = none) : stepV V s x = none := by
  subst hs
  unfold stepV
  rw [show (m ++ t).length - tk x.k = m.length by simp [ht], List.drop_left, h]
  rfl
theorem runV_at {V : Vw} {l : List Lc} {k : Nat} {s s' : List Int} (hk : k < l.length) (h : stepV V s l[k] = some s') : runV V s (l.drop k) = runV V s' (l.drop (k + 1)) := by
  rw [List.drop_eq_getElem_cons hk, runV, h]; rfl
theorem runV_out {V : Vw} {l : List Lc} {k : Nat} {s : List Int} (hk : k < l.length) (h : stepV V s l[k] = none) : runV V s (l.drop k) = none := by
  rw [List.drop_eq_getElem_cons hk, runV, h]; rfl
theorem ev_wrong {V : Vw} {l : List Lc} (h : rightC l = false) : evX V l = 0 ∧ evE V l = 1 := by
  have hn : ¬ rightC l = true := by rw [h]; decide
  unfold evX evE evO
  rw [if_neg (fun q => hn q.1), if_neg hn]; exact ⟨rfl, rfl⟩
theorem ev_gone {V : Vw} : evX V [] = 0 ∧ evE V [] = 4 := ⟨rfl, rfl⟩
theorem ev_none {V : Vw} {l : List Lc} (h : rightC l = true) (h0 : l.length ≠ 0) (hr : runV V [] l = none) : evX V l = 0 ∧ evE V l = 4 := by
  unfold evX evE evO
  rw [if_pos ⟨h, h0⟩, if_pos h, hr]; exact ⟨rfl, rfl⟩
theorem ev_some {V : Vw} {l : List Lc} {s : List Int} (h : rightC l = true) (h0 : l.length ≠ 0) (hr : runV V [] l = some s) : evX V l = s.getD 0 0 ∧ evE V l = 0 := by
  unfold evX evE evO
  rw [if_pos ⟨h, h0⟩, if_pos h, hr]; exact ⟨rfl, rfl⟩

theorem lays_any (x : Lc) (V : Vw) (P : Vp) (A : Option Addr) (c n : Nat) (t : List Int) (w : World) (hi : isL x.k = true) (hf : fitL x = true) (hV : VLies w w.heap.size V P) (hA : CLies w w.heap.size A (t.map iV6)) (hn : t.length = n) (ht : n = tk x.k) (hc : n ≤ c) :
    Calls Try.prog (fnL x.k) #[.int .i64 x.n, .slice A n c, .agg (vK V P)] w (LaysR (layV V x t) w) := by
  obtain ⟨k, z⟩ := x
  subst ht
  rcases isL_cases hi with h | h | h | h | h | h <;> simp only at h <;> subst h
  · exact lays_1 z V P _ w
  · simp only [fitL] at hf
    obtain ⟨h0, h1⟩ : 0 ≤ z ∧ z < 16 := by simpa using hf
    obtain ⟨j, rfl⟩ : ∃ j : Nat, z = j := ⟨z.toNat, by omega⟩
    exact lays_2 j V P _ w (by omega) hV
  · exact lays_3 z V P _ w
  · match t, hn with
    | [a], _ =>
      obtain ⟨g, o, rfl, hg, c0⟩ := hA.int (j := 0) (by simp)
      exact lays_4 z V P g o c a w hV hg hc c0
  · match t, hn with
    | [a, b], _ =>
      obtain ⟨g, o, rfl, hg, c0⟩ := hA.int (j := 0) (by simp)
      obtain ⟨g', o', e, _, c1⟩ := hA.int (j := 1) (by simp)
      cases e
      exact lays_5 z V P g o c a b w hg hc c0 c1
  · match t, hn with
    | [a], _ =>
      obtain ⟨g, o, rfl, hg, c0⟩ := hA.int (j := 0) (by simp)
      exact lays_6 z V P g o c a w hg hc c0

theorem i64_info6 : (Try.prog.info? 2).map (fun i => (i.zero, i.size, i.bytes)) = some (some (.int .i64 0), 1, 8) := by kernel_rfl
theorem iV6_one (l : List Int) : ∀ u ∈ l.map iV6, u.oneCell' = true := by
  intro u hu
  obtain ⟨x, _, rfl⟩ := List.mem_map.1 hu
  rfl
/-- the stack: room for eight numbers -/
def Stk (w : World) (g : Nat) (s : List Int) : Prop := ∃ r : List Int, s.length + r.length = 8 ∧ w.heap[g]? = some (.cells ((s ++ r).map iV6).toArray 2 (0, 0))
theorem Stk.fact {w : World} {g : Nat} {s : List Int} (h : Stk w g s) : g < w.heap.size ∧ s.length ≤ 8 ∧ CLies w w.heap.size (some ⟨g, 0, none⟩) (s.map iV6) := by
  obtain ⟨r, hl, hh⟩ := h
  have hlt : g < w.heap.size := by
    rcases Nat.lt_or_ge g w.heap.size with h' | h'
    · exact h'
    · rw [Array.getElem?_eq_none h'] at hh; cases hh
  refine ⟨hlt, by omega, fun _ => ⟨g, 0, rfl, hlt, fun j hj => ?_⟩⟩
  have hj' : j < s.length := by simpa using hj
  rw [Nat.zero_add]
  simp only [World.cell?, hh]
  simp [hj', List.getElem?_append_left]
theorem Stk.below {w w' : World} {g : Nat} {s : List Int} (h : Stk w g s) (hb : Below w.heap.size w w') : Stk w' g s := by
  have hlt := h.fact.1
  obtain ⟨r, hl, hh⟩ := h
  exact ⟨r, hl, (hb.block g hlt).trans hh⟩
theorem Stk.front {w : World} {g : Nat} {m t : List Int} (h : Stk w g (m ++ t)) : Stk w g m := by
  obtain ⟨r, hl, hh⟩ := h
  exact ⟨t ++ r, by simp at hl ⊢; omega, by rw [← List.append_assoc]; exact hh⟩
theorem CLies.tail {w : World} {B g : Nat} {m t : List Int} (h : CLies w B (some ⟨g, 0, none⟩) ((m ++ t).map iV6)) : CLies w B (some ⟨g, m.length, none⟩) (t.map iV6) := fun hl => by
  have hl' : 0 < t.length := by simpa using hl
  obtain ⟨g', o', e, hg, hc⟩ := h (by simp; omega)
  cases e
  refine ⟨g, m.length, rfl, hg, fun j hj => ?_⟩
  have hj' : j < t.length := by simpa using hj
  have := hc (m.length + j) (by simp; omega)
  rw [Nat.zero_add] at this
  rw [this]
  simp
section
variable {ops : Array Oper} {rest : List Oper} {o : Oper} {a : Act} {Q : Exit → Act → World → Prop}
/-- one number more -/
theorem app_num (w : World) (hgd : o.guard = none) (s x : Operand) (ho : o.op = .call { callee := .builtin .append, args := #[s, x], argTypes := #[40, 40] })
    (g n : Nat) (m : List Int) (hs : a.eval s = .slice (some ⟨g, 0, none⟩) n 8) (hnm : m.length = n) (hown : Stk w g m) (g2 c2 : Nat) (y : Int) (hx : a.eval x = .slice (some ⟨g2, 0, none⟩) 1 c2) (hy : w.cell? ⟨g2, 0, none⟩ = some (.int .i64 y))
    (hn : n ≤ 7) (h : ∀ w', Stk w' g (m ++ [y]) → w.grownBy w' (some g) → wpList Try.prog ops Q rest (a.put o.dst (.slice (some ⟨g, 0, none⟩) (n + 1) 8)) w') : wpList Try.prog ops Q (o :: rest) a w := by
  obtain ⟨i0, hi0, hz0, hz1, hz2⟩ := info_parts i64_info6
  obtain ⟨r, hl, hb⟩ := hown
  have hnews : ∀ j u, ([y].map iV6)[j]? = some u → w.cell? ((⟨g2, 0, none⟩ : Addr).add j) = some u := by
    intro j u hu
    have : j = 0 := by have := (List.getElem?_eq_some_iff.1 hu).1; simp at this; omega
    subst this
    simp only [List.map_cons, List.map_nil, List.getElem?_cons_zero, Option.some.injEq] at hu
    rw [add_zero_off, hy, ← hu]
    rfl
  have hr := run_append_room (P := Try.prog) w 40 o.type 2 i0 Try.underlying40 hi0 g n 8 _ hb ⟨g2, 0, none⟩ 1 c2 ([y].map iV6) (by simp [hz1]) hnews (iV6_one _) (by omega) (by simp [hz1]; omega)
  have hset := setRow_heap w g _ ((((m ++ r).map iV6).toArray.toList.take (n * i0.size) ++ [y].map iV6 ++ ((m ++ r).map iV6).toArray.toList.drop (n * i0.size + ([y].map iV6).length)).toArray) _ _ hb
  refine wpList_plain hgd fun K hK' => ?_
  unfold Oper.wp execOp
  simp only [ho, resolve, invoke, builtin, Sem.run_bind, Sem.run_pure, Result.andThen_ok, List.map_toArray, List.map_cons, List.map_nil, hs, hx] at hr hset ⊢
  rw [hr]
  refine hK' _ _ (h _ ⟨r.drop 1, by simp; omega, ?_⟩ ⟨rfl, rfl, rfl, by simp, fun k _ hk => setRow_other w g k _ (fun e => hk (by rw [e]))⟩)
  rw [hset]
  congr 2
  subst hnm
  simp [hz1, List.drop_append]
end

/-- room for eight numbers -/
theorem make_nums {ops : Array Oper} {rest : List Oper} {o : Oper} {a : Act} {Q : Exit → Act → World → Prop} (w : World) (hgd : o.guard = none) (x y : Operand) (ho : o.op = Op.makeSlice 40 x y)
    (hx : a.eval x = .int .i64 0) (hy : a.eval y = .int .i64 8)
    (hK : ∀ w', Stk w' w.heap.size [] → Below w.heap.size w w' → wpList Try.prog ops Q rest (a.put o.dst (.slice (some ⟨w.heap.size, 0, none⟩) 0 8)) w') :
    wpList Try.prog ops Q (o :: rest) a w := by
  obtain ⟨i0, hi0, hz0, hz1, hz2⟩ := info_parts i64_info6
  refine wpList_plain hgd fun K hK' => ?_
  have hrun := run_make (P := Try.prog) w 40 2 i0 _ Try.underlying40 hi0 hz0 .i64 .i64 0 8 (by omega) (by omega) (by rw [hz2]; decide) (by decide)
  unfold Oper.wp
  simp [execOp, ho, hx, hy, hrun, Result.andThen]
  refine hK' _ _ (hK _ ⟨List.replicate 8 0, rfl, ?_⟩ ((Below.refl _ _).alloc (Nat.le_refl _) _))
  rw [heap_alloc_new]
  rw [hz1, Nat.mul_one]
  have : madeCells (Value.int .i64 0).cells 8 = (List.replicate 8 (Value.int .i64 0)).toArray := by
    apply Array.ext'
    exact toList_madeCells_one _ _
  rw [this]
  rfl
end Go.Proofs.Ytdnpoeegefkoiaa
