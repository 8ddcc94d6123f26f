/-
  What locations come to, put together: plain facts; append of one step as an operation of a region.
-/
import Derived.Test.YtdnpoeegefkoiaaE6Q
import Derived.Maps.AppendAt
import Derived.Deep.RegionHeld3
namespace Go.Proofs.Ytdnpoeegefkoiaa
open Go Go.RowKit

theorem runV_append (V : Vw) : ∀ (l m : List Lc) (s : List Int), runV V s (l ++ m) = (runV V s l).bind fun s' => runV V s' m
  | [], m, s => rfl
  | x :: l, m, s => by
    rw [List.cons_append]
    simp only [runV]
    cases stepV V s x with
    | none => rfl
    | some s' => exact runV_append V l m s'
theorem stepV_shift (V : Vw) (a s : List Int) (x : Lc) (h : tk x.k ≤ s.length) : stepV V (a ++ s) x = (stepV V s x).map (a ++ ·) := by
  unfold stepV
  rw [List.length_append, show a.length + s.length - tk x.k = a.length + (s.length - tk x.k) by omega, List.drop_append, List.take_append]
  rw [show a.length + (s.length - tk x.k) - a.length = s.length - tk x.k by omega, List.drop_of_length_le (by omega), List.take_of_length_le (by omega)]
  rw [List.nil_append, Option.map_map]
  congr 1
  funext y
  simp
theorem stepV_len {V : Vw} {s s' : List Int} {x : Lc} (h : stepV V s x = some s') : s'.length = s.length - tk x.k + 1 := by
  unfold stepV at h
  cases hy : layV V x (s.drop (s.length - tk x.k)) with
  | none => rw [hy] at h; cases h
  | some y =>
    rw [hy] at h
    simp only [Option.map_some, Option.some.injEq] at h
    subst h
    simp
theorem runV_shift (V : Vw) : ∀ (m : List Lc) (a s : List Int) (d : Nat), deep s.length m = some d → runV V (a ++ s) m = (runV V s m).map (a ++ ·) ∧ ∀ s', runV V s m = some s' → s'.length = d
  | [], a, s, d, h => by
    rw [deep_nil] at h
    cases h
    exact ⟨rfl, fun s' e => (by cases e; rfl)⟩
  | x :: m, a, s, d, h => by
    by_cases hm : mayL s.length x
    · rw [deep_yes hm] at h
      have ht := hm.2.2.1
      simp only [runV]
      rw [stepV_shift V a s x ht]
      cases hs : stepV V s x with
      | none => exact ⟨rfl, fun s' e => by cases e⟩
      | some s' =>
        have hl := stepV_len hs
        rw [show s.length + 1 - tk x.k = s'.length by omega] at h
        exact runV_shift V m a s' d h
    · rw [deep_no hm] at h; cases h
theorem ev_ok {V : Vw} {l : List Lc} (h : evE V l = 0) : rightC l = true ∧ l.length ≠ 0 ∧ deep 0 l = some 1 ∧ runV V [] l = some [evX V l] := by
  unfold evE at h
  split at h
  · rename_i hr
    split at h
    · rename_i ho
      have hd : l.length ≠ 0 := by
        intro e
        unfold evO at ho
        rw [if_neg (fun q => q.2 e)] at ho
        cases ho
      have h1 : deep 0 l = some 1 := by
        simp only [rightC, Bool.and_eq_true, Bool.or_eq_true, decide_eq_true_eq] at hr
        rcases hr.2 with q | q
        · exact absurd q hd
        · exact q
      refine ⟨hr, hd, h1, ?_⟩
      unfold evO at ho
      rw [if_pos ⟨hr, hd⟩] at ho
      cases hs : runV V [] l with
      | none => rw [hs] at ho; cases ho
      | some s =>
        have hl := (runV_shift V l [] [] 1 h1).2 s hs
        match s, hl with
        | [y], _ => rw [(ev_some hr hd hs).1]; rfl
    · cases h
  · cases h
theorem ev_of {V : Vw} {l : List Lc} {y : Int} (hr : rightC l = true) (h0 : l.length ≠ 0) (h : runV V [] l = some [y]) : evE V l = 0 ∧ evX V l = y := ⟨(ev_some hr h0 h).2, (ev_some hr h0 h).1⟩
/-- both, and LocAdd -/
theorem ev_both {V : Vw} {l m : List Lc} (h1 : evE V l = 0) (h2 : evE V m = 0) (hr : rightC (l ++ m ++ [⟨5, 0⟩]) = true) : evE V (l ++ m ++ [⟨5, 0⟩]) = 0 ∧ evX V (l ++ m ++ [⟨5, 0⟩]) = wrap64 (evX V l + evX V m) := by
  obtain ⟨_, _, _, r1⟩ := ev_ok h1
  obtain ⟨_, _, d2, r2⟩ := ev_ok h2
  refine ev_of hr (by simp) ?_
  have hs := (runV_shift V m [evX V l] [] 1 d2).1
  rw [r2] at hs
  rw [runV_append, runV_append, r1]
  simp only [Option.bind_some]
  rw [List.append_nil] at hs
  rw [hs]
  simp [runV, stepV, tk, layV]
theorem right_both {V : Vw} {l m : List Lc} (h1 : evE V l = 0) (h2 : evE V m = 0) (hm : m.length = 1) (hl : l.length ≤ 7) : rightC (l ++ m ++ [⟨5, 0⟩]) = true := by
  obtain ⟨_, _, d1, _⟩ := ev_ok h1
  obtain ⟨_, _, d2, _⟩ := ev_ok h2
  match m, hm with
  | [x], _ =>
    have hx : mayL 0 x := by
      by_cases h : mayL 0 x
      · exact h
      · rw [deep_no h] at d2; cases d2
    have ht : tk x.k = 0 := by have := hx.2.2.1; omega
    have hx1 : mayL 1 x := ⟨hx.1, hx.2.1, by omega, by omega⟩
    have hd : deep 0 (l ++ [x] ++ [⟨5, 0⟩]) = some 1 := by
      rw [deep_append, deep_append, d1]
      simp only [Option.bind_some]
      rw [deep_yes hx1, ht, deep_nil]
      simp only [Option.bind_some]
      rw [deep_yes (may_5.2 ⟨rfl, by omega, by omega⟩)]
      rfl
    rw [right_end (by simp; omega) hd]
    simp
/-- with a step behind that takes one and lays one -/
theorem right_one {l : List Lc} {k : Int} (hk : k = 4 ∨ k = 6) (h0 : l.length ≠ 0) (hl : l.length ≤ 14) : rightC (l ++ [⟨k, 0⟩]) = rightC l := by
  have hm : ∀ d, mayL d ⟨k, 0⟩ ↔ 1 ≤ d ∧ d ≤ 8 := fun d => by
    rcases hk with rfl | rfl
    · rw [may_4]; simp
    · rw [may_6]; simp
  have ht : tk k = 1 := by rcases hk with rfl | rfl <;> rfl
  cases hd : deep 0 l with
  | none => rw [right_none hd, right_none (by rw [deep_append, hd]; rfl)]
  | some d =>
    rw [right_end (by omega) hd]
    by_cases h : 1 ≤ d ∧ d ≤ 8
    · have : deep 0 (l ++ [⟨k, 0⟩]) = some d := by
        rw [deep_append, hd]
        simp only [Option.bind_some]
        rw [deep_yes ((hm d).2 h)]
        simp only [ht, deep_nil]
        rfl
      rw [right_end (by simp; omega) this]
      simp [h0]
    · have : deep 0 (l ++ [⟨k, 0⟩]) = none := by
        rw [deep_append, hd]
        simp only [Option.bind_some]
        exact deep_no (fun q => h ((hm d).1 q))
      rw [right_none this]
      symm
      rw [decide_eq_false_iff_not]
      omega
theorem run_one {V : Vw} {l : List Lc} {k : Int} (hk : k = 4 ∨ k = 6) (h1 : evE V l = 0) : runV V [] (l ++ [⟨k, 0⟩]) = (layV V ⟨k, 0⟩ [evX V l]).map fun y => [y] := by
  obtain ⟨_, _, _, r1⟩ := ev_ok h1
  have ht : tk k = 1 := by rcases hk with rfl | rfl <;> rfl
  rw [runV_append, r1]
  simp only [Option.bind_some, runV, stepV, ht]
  show ((layV V ⟨k, 0⟩ [evX V l]).map fun y => [] ++ [y]).bind (fun s' => some s') = _
  cases layV V ⟨k, 0⟩ [evX V l] <;> rfl
theorem ev_back {V : Vw} {l : List Lc} {k : Int} (hk : k = 4 ∨ k = 6) (h0 : l.length ≠ 0) (hl : l.length ≤ 14) (h : evE V (l ++ [⟨k, 0⟩]) = 0) : evE V l = 0 := by
  obtain ⟨r, _, _, hr⟩ := ev_ok h
  rw [right_one hk h0 hl] at r
  rw [runV_append] at hr
  cases hs : runV V [] l with
  | none => rw [hs] at hr; cases hr
  | some s => exact (ev_some r h0 hs).2
theorem ev_neg {V : Vw} {l : List Lc} (h0 : l.length ≠ 0) (hl : l.length ≤ 14) : (evE V (l ++ [⟨6, 0⟩]) = 0 ↔ evE V l = 0) ∧ (evE V l = 0 → evX V (l ++ [⟨6, 0⟩]) = wrap64 (-evX V l)) := by
  have go : evE V l = 0 → evE V (l ++ [⟨6, 0⟩]) = 0 ∧ evX V (l ++ [⟨6, 0⟩]) = wrap64 (-evX V l) := fun h => by
    refine ev_of (by rw [right_one (.inr rfl) h0 hl]; exact (ev_ok h).1) (by simp) ?_
    rw [run_one (.inr rfl) h]
    simp [layV]
  exact ⟨⟨ev_back (.inr rfl) h0 hl, fun h => (go h).1⟩, fun h => (go h).2⟩
theorem ev_word {V : Vw} {l : List Lc} (h0 : l.length ≠ 0) (hl : l.length ≤ 14) : (evE V (l ++ [⟨4, 0⟩]) = 0 ↔ evE V l = 0 ∧ 0 ≤ evX V l ∧ evX V l < V.W.length) ∧ (evE V (l ++ [⟨4, 0⟩]) = 0 → evX V (l ++ [⟨4, 0⟩]) = V.W.getD (evX V l).toNat 0) := by
  have hr := right_one (k := 4) (.inl rfl) h0 hl
  by_cases h : evE V l = 0
  · have hrun := run_one (V := V) (k := 4) (.inl rfl) h
    have hlay : layV V ⟨4, 0⟩ [evX V l] = wordV V (evX V l) := by simp [layV]
    rw [hlay] at hrun
    by_cases hw : 0 ≤ evX V l ∧ evX V l < V.W.length
    · unfold wordV at hrun
      rw [if_pos hw] at hrun
      obtain ⟨q1, q2⟩ := ev_of (V := V) (by rw [hr]; exact (ev_ok h).1) (by simp) hrun
      exact ⟨⟨fun _ => ⟨h, hw⟩, fun _ => q1⟩, fun _ => q2⟩
    · unfold wordV at hrun
      rw [if_neg hw] at hrun
      have := (ev_none (V := V) (l := l ++ [⟨4, 0⟩]) (by rw [hr]; exact (ev_ok h).1) (by simp) hrun).2
      exact ⟨⟨fun e => (by rw [this] at e; cases e), fun e => absurd e.2 hw⟩, fun e => (by rw [this] at e; cases e)⟩
  · have hb : evE V (l ++ [⟨4, 0⟩]) ≠ 0 := fun e => h (ev_back (.inl rfl) h0 hl e)
    exact ⟨⟨fun e => absurd e hb, fun e => absurd e.1 h⟩, fun e => absurd e hb⟩

section
variable {ops : Array Oper} {o : Oper} {a : Act} {Q : Exit → Act → World → Prop}
theorem wp_app_loc {K : Act → World → Prop} (w : World) (s x : Operand) (ho : o.op = .call { callee := .builtin .append, args := #[s, x], argTypes := #[23, 23] })
    (B : Nat) (v : Value) (xs : List Lc) (hs : a.eval s = v) (hown : LOwn w B v xs) (g c : Nat) (y : Lc) (hx : a.eval x = .slice (some ⟨g, 0, none⟩) 1 c) (hy : LocAt w g y) (hn : xs.length ≤ 1000000) (hB : B ≤ w.heap.size)
    (h : ∀ v' w', LOwn w' B v' (xs ++ [y]) → w.grownBy w' v.ownBlock → K (a.put o.dst v') w') : Oper.wp Try.prog o a w K Q := by
  obtain ⟨i0, hi0, hz0, hz1, hz2⟩ := info_parts loc_info
  have hnews : ∀ j u, (cC y)[j]? = some u → w.cell? ((⟨g, 0, none⟩ : Addr).add j) = some u := by
    intro j u hu
    rw [add_zero_off, Nat.zero_add]
    unfold LocAt at hy
    simp only [World.cell?, hy]
    simpa [cC] using hu
  obtain ⟨v', w', hr, h1, h2, _, _⟩ := run_append_own_at (P := Try.prog) w B 23 o.type 48 i0 _ 2 16 Try.underlying23 hi0 hz0 hz1 hz2 rfl (by omega) v xs.length (xs.flatMap cC) hown ⟨g, 0, none⟩ 1 c (cC y) (by rw [cC_len]) hnews (cC_one y)
    (by simp only [maxLen]; omega) (by omega) hB
  unfold Oper.wp execOp
  simp only [ho, resolve, invoke, builtin, Sem.run_bind, Sem.run_pure, Result.andThen_ok, List.map_toArray, List.map_cons, List.map_nil, hs, hx]
  simp only [hr]
  refine h v' w' ?_ h2
  show w'.ownsRow B _ 2 v' (xs ++ [y]).length ((xs ++ [y]).flatMap cC)
  rw [List.flatMap_append, List.length_append]
  simpa using h1
end
/-- an operation of a drawn region that may be taken first, with its destination -/
theorem wpAnyH_take6 {P : Program} {ops : Array Oper} {Q : Exit → Act → World → Prop} {md : Region.Mode} {S : World → Prop} {i : Nat} {oi : Oper} {d : Option Tmp} {v : Value} {fuel : Nat} {listed : Array Bool} {a : Act} {w : World} (hi : ops[i]? = some oi) (hd : oi.dst = d)
    (hs : Region.noSelect ops = true) (hf : Region.free md ops listed i = true) (hr : (Region.ready md ops listed).contains i = true)
    (hQ : ∀ c a w, Q (.panic c) (a.put d v) w → Q (.panic c) a w) (hw : Region.wanted oi (yielded ops a.tmps) = true) (hy : ∀ w, S w → (execOp a.eval oi).run P w = .ok (.value v) w) (hS : S w)
    (h : wpAnyH P md ops Q S fuel (listed.setIfInBounds i true) (a.put d v) w) : wpAnyH P md ops Q S (fuel + 1) listed a w := by
  subst hd
  exact wpAnyH_take hi hs hf hr hQ (.inl ⟨hw, hy⟩) hS h
end Go.Proofs.Ytdnpoeegefkoiaa
