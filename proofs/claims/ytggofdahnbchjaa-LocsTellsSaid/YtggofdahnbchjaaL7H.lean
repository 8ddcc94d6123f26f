/-
  The contracts of locs.kept, Cut and Join.
-/
import Derived.Test.YtggofdahnbchjaaL7G
namespace Go.Proofs.Ytggofdahnbchjaa
open Go Go.RowKit

theorem POwn.lets {E : Nat → Prop} {B B' : Nat} {A C : World} {v : Value} {l : List Ps} (h : POwn A B v l) (hl : Lets E B' A C) (hE : ∀ k, E k → k < B) : POwn C B v l := by
  refine ⟨h.1, ?_⟩
  rcases h.2 with h0 | ⟨g, cap, cur, rfl, hg, hh, r⟩
  · exact .inl h0
  · exact .inr ⟨g, cap, cur, rfl, hg, hl.blk _ _ hh (fun q => by have := hE _ q; omega) (.inr rfl), r⟩
theorem SpOwn.lets {E : Nat → Prop} {B B' : Nat} {A C : World} {v : Value} {l : List Sp} (h : SpOwn A B v l) (hl : Lets E B' A C) (hE : ∀ k, E k → k < B) : SpOwn C B v l := by
  obtain ⟨ps, e, ho, hm⟩ := h
  exact ⟨ps, e, ho.lets hl hE, fun p hp => (hm p hp).lets hl hE⟩
theorem SpOwn.put {B : Nat} {W : World} {v : Value} {l : List Sp} {D : Nat} {o : Obj} (h : SpOwn W B v l) (o' : Obj) (hD : W.heap[D]? = some o) (ho : o.isCells = false) : SpOwn (W.putObj D o') B v l :=
  SpOwn.lets (E := fun _ => False) (B' := 0) h (lets_put o' hD ho (Nat.zero_le _)) (fun _ q => q.elim)
/-- steps of the call's own are no spans -/
theorem LOwn.grown {B B' : Nat} {A C : World} {v u : Value} {l : List Lc} {ps : List Ps} (h : LOwn A B v l) (ho : POwn A B' u ps) (hg : A.grownBy C u.ownBlock) : LOwn C B v l := by
  refine h.kept fun k e => hg.block k (h.lt k e).2 fun q => ?_
  rcases h.2 with ⟨rfl, _⟩ | ⟨g, cap, cur, rfl, _, hh, _⟩
  · cases e
  · rcases ho.2 with ⟨rfl, _⟩ | ⟨g', cap', cur', rfl, _, hh', _⟩
    · cases q
    · simp only [Value.ownBlock, Option.some.injEq] at e q
      subst e
      subst q
      rw [hh] at hh'
      injection hh' with e1
      injection e1 with _ e2
      exact absurd e2 (by decide)
theorem POwn.cells {B : Nat} {A : World} {u : Value} {ps : List Ps} (h : POwn A B u ps) : ∀ k, u.ownBlock = some k → ∃ o : Obj, A.heap[k]? = some o ∧ o.isCells = true := by
  intro k e
  rcases h.2 with ⟨rfl, _⟩ | ⟨g, cap, cur, rfl, _, hh, _⟩
  · cases e
  · simp only [Value.ownBlock, Option.some.injEq] at e
    subst e
    exact ⟨_, hh, rfl⟩
theorem same_new {K : Nat → Prop} {W A : World} (h : Same K W A) (p : Addr) (v : Value) (hp : W.heap.size ≤ p.block) : Same K W (A.setCell p v) :=
  ⟨h.os, h.tape, h.output, Nat.le_trans h.size (KeepsOthers.setCell A p v).size, fun k o hk hK => by
    have := (Array.getElem?_eq_some_iff.1 hk).1
    exact (Below.heap_setCell A p v k (fun e => by omega)).trans (h.blk k o hk hK)⟩
theorem same_grown {K : Nat → Prop} {A C : World} {row : Option Nat} (h : A.grownBy C row) (hK : ∀ k, row = some k → ¬ K k) : Same K A C :=
  ⟨h.os, h.tape, h.output, h.size, fun k _ hk hk' => (h.block k (Array.getElem?_eq_some_iff.1 hk).1 (fun e => hK k e.symm hk')).trans hk⟩

section
variable {F : Fence} {n : Nat} {ops : Array Oper} {rest : List Oper} {o : Oper} {a : Act} {Q : Exit → Act → World → Prop}
/-- append of one span onto a row of the call's own, in a round -/
theorem app_spanIn (w : World) (hgd : o.guard = none) (s x : Operand) (ho : o.op = .call { callee := .builtin .append, args := #[s, x], argTypes := #[23, 23] })
    (B : Nat) (v : Value) (xs : List Ps) (hs : a.eval s = v) (hown : POwn w B v xs) (g c : Nat) (y : Ps) (hx : a.eval x = .slice (some ⟨g, 0, none⟩) 1 c) (hy : SpAt w g y)
    (hn : xs.length ≤ 1000000) (hB : B ≤ w.heap.size) (h : ∀ v' w', POwn w' B v' (xs ++ [y]) → w.grownBy w' v.ownBlock → wpListIn F n Try.prog ops Q rest (a.put o.dst v') w') : wpListIn F n Try.prog ops Q (o :: rest) a w := by
  obtain ⟨i0, hi0, hz0, hz1, hz2⟩ := info_parts span_info
  refine wpListIn_append_own w hgd s x 23 ho B 46 i0 _ 3 40 Try.underlying23 hi0 hz0 hz1 hz2 rfl (by omega) v xs.length (xs.flatMap pC) hs hown ⟨g, 0, none⟩ 1 c (pC y) hx rfl ?_ (pC_one y)
    (by simp only [maxLen]; omega) (by omega) hB fun v' w' h1 h2 _ => h v' w' ?_ h2
  · intro j u hu
    unfold SpAt at hy
    rw [add_zero_off]
    simp only [World.cell?, hy, Nat.zero_add]
    simpa [pC] using hu
  · show w'.ownsRow B _ 3 v' (xs ++ [y]).length ((xs ++ [y]).flatMap pC)
    rw [List.flatMap_append, List.length_append]
    simpa using h1
end

def MadeSpans (w : World) (l : List Sp) (e : Ending) (w' : World) : Prop := ∃ v, e = .returned v ∧ SpOwn w' w.heap.size v l ∧ Below w.heap.size w w'
attribute [local go_sem] Oper.semAt_some wideFn wideDepth
set_option maxRecDepth 100000 in
set_option maxHeartbeats 4000000 in
theorem kept7_any (gf : Nat) (lb : Array Value) (qs : List Ps) (w : World) (eg : ∀ args w, (callFunc gf args).run Try.prog w = .ok (.enter gf args) w) (hseq : ∀ w1, Below w.heap.size w w1 → SpanSeq w.heap.size gf lb qs w1)
    (hM : ∀ p ∈ qs, Mn w w.heap.size p) (hA : ∀ p ∈ qs, p.a.length ≤ 1099511627776) (hlen : qs.length ≤ 1000000) :
    Calls Try.prog 45 #[.func (.func gf) #[] lb] w (MadeSpans w (qs.map Ps.sp)) := by
  refine calls_loop Try.func45 rfl ?_
  simp only [Try.ntmps45, List.size_toArray, List.length_cons, List.length_nil, Nat.reduceAdd, Nat.reduceSub, Array.replicate_succ, Array.replicate_zero, List.push_toArray, List.append_toArray, List.nil_append, List.cons_append]
  go_wp2_with fail
  have bR := Boxed.new w 23 (.slice none 0 0)
  have hB := below_lnew w (.cells #[.slice none 0 0] 23)
  have hz : (w.alloc (.cells #[.slice none 0 0] 23)).heap.size = w.heap.size + 1 := by simp
  obtain ⟨w1, hw1⟩ : ∃ w1, w.alloc (.cells #[.slice none 0 0] 23) = w1 := ⟨_, rfl⟩
  rw [hw1] at bR hB hz ⊢
  clear hw1
  have HQ := Lib.hid (hseq w1 hB)
  have HM := Lib.hid hM
  have HA := Lib.hid hA
  clear hseq hM hA
  refine range_wp (gf := gf) (lb := lb) rfl eg HQ.out (fun _ => rfl) (fun k q => by omega) (fun k q => by omega)
    (fun pre W => ∃ v, (Boxed W w.heap.size 23 v ∧ SpOwn W (w.heap.size + 4) v (pre.map Ps.sp)) ∧ Below w.heap.size w W)
    (fun _ _ _ => False)
    (fun s A C hl ⟨v, ⟨h1, h2⟩, h3⟩ => ⟨v, ⟨Boxed.lets h1 hl (by omega), h2.lets hl (fun k q => by omega)⟩, hl.below h3 (Nat.le_refl _) (fun k q => by omega) (by omega)⟩)
    (fun c s => fun _ _ _ h => h)
    ⟨_, ⟨bR, SpOwn.nil _ _⟩, hB⟩ ?round ?done ?stop
  case round =>
    rintro l pre x Wr W hzr ⟨v, ⟨hbr, hor⟩, hbel⟩ hle _ hnx
    have hmem := hnx.mem
    have hpl : pre.length ≤ 1000000 := by have := hnx.take.2.1; omega
    have hmn := Lib.hid (HM.out _ hmem)
    have hla := HA.out _ hmem
    have hzw := hle.size
    obtain ⟨psr, epr, hpo, hpm⟩ := hor
    have hvr := Lib.hid (fun k e => (hpo.lt k e).2)
    have hb0 := Boxed.lets hbr hle (by omega)
    have ho0 := hpo.lets hle (fun k q => by omega)
    have hm0 := fun p hp => (hpm p hp).lets hle (fun k q => by omega)
    have hlb := Lib.hid (fun p hp k e => ((hm0 p hp).lt k e).2)
    have hB0 := hle.below hbel (Nat.le_refl _) (fun k q => by omega) (by omega)
    have hbx := below_lnew W (.cells (pK x) 46)
    have hb1 := Lib.hid (Boxed.below hb0 hbx (by omega))
    have ho1 := Lib.hid (ho0.below hbx)
    have hm1 := Lib.hid (fun p hp => (hm0 p hp).below hbx)
    have hB1 := Lib.hid (hB0.trans (hbx.mono (by omega)))
    have hX1 := Lib.hid (spAt_new W x)
    have hS1 := Lib.hid (Same.of_all (K := fun k => (k < w.heap.size ∨ k = w.heap.size + 1 + 2) ∨ Wr.heap.size ≤ k) hbx)
    have hlow := Lib.hid (fun k e => (ho0.lt k e))
    clear hbr hpo hpm hbel hnx hmem hle hb0 ho0 hm0 hB0 hbx
    obtain ⟨f, t, a, A', c'⟩ := x
    simp only [pK] at hb1 ho1 hm1 hB1 hX1 hS1
    dsimp only at hla
    obtain ⟨_, hac, hLL⟩ := hmn.out
    have HAC := Lib.hid hac
    have HLL := Lib.hid hLL
    clear hLL hmn hac
    unfold pK
    gi_wp2
    refine ⟨nocs_alloc _ _, hS1.out, fun W2 hl2 hs2 hz2 => ?_⟩
    have hX2 : SpAt W2 W.heap.size ⟨f, t, a, A', c'⟩ := (hl2 (fun _ => False)).blk _ _ hX1.out (fun q => q) (.inr rfl)
    have hb2 := Boxed.lets hb1.out (hl2 (fun _ => False)) (fun q => q)
    have ho2 := ho1.out.lets (hl2 (fun _ => False)) (fun _ q => q.elim)
    have hB2 := (hl2 (fun _ => False)).below hB1.out (Nat.le_refl _) (fun _ q => q.elim) (by omega)
    have hz3 : W2.heap.size = W.heap.size + 1 := by rw [hz2]
    have hw4 : w.heap.size + 4 ≤ W2.heap.size := by omega
    have x2 := hX2.at_
    dsimp only at x2
    have HX2 := Lib.hid hX2
    have Hb2 := Lib.hid hb2
    have HO2 := Lib.hid ho2
    have HM2 := Lib.hid (fun p hp => (hm1.out p hp).lets (hl2 (fun _ => False)) (fun _ q => q.elim))
    have HB2 := Lib.hid hB2
    have hw2 := hB2.size
    have HZ3 := Lib.hid hz3
    have HC := Lib.hid (clone_any A' c' a W2 HAC.out hla ((HLL.out.below HB2.out).more hw2))
    unfold MadeLocs at HC
    clear hl2 hX2 hb2 ho2 hB2 hz2 hz3 hb1 ho1 hm1 hB1 hX1 hS1
    gi_wp2_with first
      | (gi_at_call 44
         refine (CallsIn.inRound l (callsIn_wide.2 HC.out)).mono ?_
         rintro e W3 ⟨v3, rfl, ho3, hb3⟩
         have hX3 := HX2.out.below hb3 (by have := HZ3.out; omega)
         have hf3 := hX3.frozen
         have x0 := hX3.fr
         have x1 := hX3.to
         have x2' := hX3.at_
         have hbb3 := Boxed.below Hb2.out hb3 (by omega)
         have hcc3 := hbb3.cell
         have hpo := HO2.out.below hb3
         have hpm := Lib.hid (fun p hp => (HM2.out p hp).below hb3)
         obtain ⟨A3, c3, rfl, _⟩ := ho3.form
         have HP := Lib.hid (POwn.below (hpo.kept (fun k e => Below.heap_setCell W3 ⟨W.heap.size, 2, none⟩ (.slice A3 a.length c3) k (fun q => by have := (hlow.out k e).2; subst q; exact absurd this (Nat.lt_irrefl _)))) (below_lnew (W3.setCell ⟨W.heap.size, 2, none⟩ (.slice A3 a.length c3)) (.cells #[.int .i64 f, .int .i64 t, .slice A3 a.length c3] 46)))
         have HY := Lib.hid (spAt_new (W3.setCell ⟨W.heap.size, 2, none⟩ (.slice A3 a.length c3)) ⟨f, t, a, A3, c3⟩)
         simp only [pK, World.size_setCell] at HY
         have hw5 := hb3.size
         have hln : psr.length ≤ 1000000 := by have := congrArg List.length epr; simp only [List.length_map] at this; omega
         have HZ5 := Lib.hid (show w.heap.size + 4 ≤ ((W3.setCell ⟨W.heap.size, 2, none⟩ (.slice A3 a.length c3)).alloc (.cells #[.int .i64 f, .int .i64 t, .slice A3 a.length c3] 46)).heap.size by simp; omega)
         dsimp only at x0 x1 x2'
         clear x2 HC)
      | (gi_at_builtin
         refine app_spanIn _ rfl (.tmp 11) (.tmp 13) rfl (w.heap.size + 4) v psr rfl HP.out W3.heap.size 1 ⟨f, t, a, A3, c3⟩ rfl HY.out hln HZ5.out ?_
         intro v6 W6 hp6 hg6
         have hbb4 : Boxed (W3.setCell ⟨W.heap.size, 2, none⟩ (.slice A3 a.length c3)) w.heap.size 23 v := (Below.heap_setCell W3 ⟨W.heap.size, 2, none⟩ (.slice A3 a.length c3) w.heap.size (by dsimp only; omega)).trans hbb3
         have hbb6 := Boxed.kept (Boxed.alloc hbb4 (.cells #[.int .i64 f, .int .i64 t, .slice A3 a.length c3] 46)) hg6 (fun e => by have := (hlow.out _ e.symm).1; omega)
         have hc6 := hbb6.cell
         have hf6 := hbb6.frozen
         have HB6 := Lib.hid hbb6
         have HP6 := Lib.hid hp6
         have HG6 := Lib.hid hg6
         obtain ⟨A6, c6, e6, _⟩ := hp6.form
         rw [List.length_append, List.length_singleton] at e6
         subst e6
         clear hbb4 hbb6 hp6 hg6)
    have hlc := fun k => hlow.out k
    refine ⟨?_, ?_, ⟨.slice A6 (psr.length + 1) c6, Boxed.set _ HB6.out, psr ++ [⟨f, t, a, A3, c3⟩], ?_, ?_, ?_⟩, ?_⟩
    · exact (((((Nocs.of_below hb3).trans (nocs_set _ _ _)).trans (nocs_alloc _ _)).trans (Nocs.of_grown HG6.out HP.out.cells)).trans (nocs_set _ _ _))
    · have h1 := hs2.trans (Same.of_all hb3)
      have h2 := same_new h1 ⟨W.heap.size, 2, none⟩ (.slice A3 a.length c3) (Nat.le_refl _)
      have h3 := h2.trans (Same.of_all (below_lnew _ (.cells #[.int .i64 f, .int .i64 t, .slice A3 a.length c3] 46)))
      have h4 := h3.trans (same_grown HG6.out (fun k e q => by have h5 := hlc k e; have h6 := hvr.out k e; omega))
      exact h4.trans (same_set _ _ _ (fun q => by dsimp only at q; omega))
    · rw [List.map_append, epr, List.map_append]
      rfl
    · exact HP6.out.kept fun k e => Below.heap_setCell W6 ⟨w.heap.size, 0, none⟩ _ k (fun q => by have := (HP6.out.lt k e).1; subst q; dsimp only at this; omega)
    · intro p hp
      have hz4 : W2.heap.size ≤ W3.heap.size := hb3.size
      have go : ∀ (B' : Nat) (vl : Value) (ls : List Lc), w.heap.size + 4 ≤ B' → LOwn W3 B' vl ls → (∀ k, vl.ownBlock = some k → k ≠ W.heap.size) → LOwn (W6.setCell ⟨w.heap.size, 0, none⟩ (.slice A6 (psr.length + 1) c6)) (w.heap.size + 4) vl ls := fun B' vl ls hB' ho hne => by
        have h1 := ho.kept (w' := W3.setCell ⟨W.heap.size, 2, none⟩ (.slice A3 a.length c3)) (fun k e => Below.heap_setCell W3 ⟨W.heap.size, 2, none⟩ _ k (fun q => hne k e q))
        have h2 := h1.below (below_lnew _ (.cells #[.int .i64 f, .int .i64 t, .slice A3 a.length c3] 46))
        have h3 := h2.grown HP.out HG6.out
        exact (h3.set _ (show w.heap.size < B' by omega)).base hB'
      rcases List.mem_append.1 hp with h | h
      · refine go _ _ _ (Nat.le_refl _) (hpm.out p h) (fun k e q => ?_)
        have h1 := hlb.out p h k e
        omega
      · rw [List.mem_singleton] at h
        subst h
        refine go _ _ _ (by omega) ho3 (fun k e q => ?_)
        have h1 := (ho3.lt k e).1
        have := HZ3.out
        omega
    · have hg := (((HB2.out.trans (hb3.mono hw2)).setCell (p := ⟨W.heap.size, 2, none⟩) (by dsimp only; omega) (.slice A3 a.length c3)).alloc (by simp; omega) (.cells #[.int .i64 f, .int .i64 t, .slice A3 a.length c3] 46)).grown HG6.out (by have := HZ5.out; omega) (fun k e => by have := hlc k e; omega)
      exact hg.setCell (p := ⟨w.heap.size, 0, none⟩) (Nat.le_refl _) _
  case done =>
    rintro D xs W hD rfl ⟨v, ⟨hbr, ho⟩, hbel⟩ hK
    obtain ⟨A, c, ps', rfl, _⟩ := ho.form
    have hc := hbr.cell
    go_wp2_with fail
    exact ret_mark hK (results_tmp rfl _ _ _) ⟨_, rfl, (ho.put _ hK rfl).base (by omega), below_put hbel _ (by omega)⟩
  case stop =>
    rintro D c pre W hD h hK
    exact h.elim
end Go.Proofs.Ytggofdahnbchjaa
