/-
  Rows of one-cell values of the call's own, rows of such rows; the worlds of UnwindRows.
-/
import Derived.Test.YtpbopehhalicjaaU8Y
namespace Go.Proofs.Ytpbopehhalicjaa
open Go Go.RowKit

def GRow (w : World) (B : Nat) (e : TypeId) (v : Value) (vs : List Value) : Prop := w.ownsRow B e 1 v vs.length vs
def HasT (w : World) (k : Nat) (e : TypeId) : Prop := ∃ cs s, w.heap[k]? = some (.cells cs e s)
theorem HasT.one {w : World} {k : Nat} {e e2 : TypeId} (h : HasT w k e) (h2 : HasT w k e2) : e = e2 := by
  obtain ⟨cs, s, h⟩ := h
  obtain ⟨cs2, s2, h2⟩ := h2
  rw [h] at h2
  injection h2 with h2
  injection h2
theorem GRow.nil (w : World) (B : Nat) (e : TypeId) : GRow w B e (.slice none 0 0) [] := World.ownsRow_nil w B _ _
section
variable {w w' : World} {B : Nat} {e : TypeId} {v : Value} {vs : List Value}
theorem GRow.lt (h : GRow w B e v vs) : ∀ k, v.ownBlock = some k → B ≤ k ∧ k < w.heap.size ∧ HasT w k e := by
  intro k q
  rcases h.2 with ⟨rfl, _⟩ | ⟨g, cap, cur, rfl, hB, hh, _⟩
  · cases q
  · injection q with q
    subst q
    exact ⟨hB, (Array.getElem?_eq_some_iff.1 hh).1, _, _, hh⟩
theorem GRow.kept (h : GRow w B e v vs) (hk : ∀ k, B ≤ k → k < w.heap.size → HasT w k e → w'.heap[k]? = w.heap[k]?) : GRow w' B e v vs := by
  have hlt := h.lt
  refine ⟨h.1, ?_⟩
  rcases h.2 with h0 | ⟨g, cap, cur, rfl, hg, hh, r⟩
  · exact .inl h0
  · obtain ⟨q1, q2, q3⟩ := hlt g rfl
    exact .inr ⟨g, cap, cur, rfl, hg, (hk g q1 q2 q3).trans hh, r⟩
theorem GRow.cells (h : GRow w B e v vs) : ∃ A c, v = .slice A vs.length c ∧ vs.length ≤ c ∧ (A = none → c = 0) ∧ CLies w w.heap.size A vs ∧ ∀ a, A = some a → B ≤ a.block := by
  have h' := h
  have hlt := h.lt
  rcases h.2 with ⟨rfl, h0⟩ | ⟨g, cap, cur, rfl, hg, hh, hn, _, hsz, ht⟩
  · have : vs = [] := List.eq_nil_of_length_eq_zero h0
    subst this
    exact ⟨none, 0, rfl, Nat.le_refl _, fun _ => rfl, fun h => absurd h (by simp), fun a e => by cases e⟩
  · refine ⟨_, cap, rfl, hn, fun e => (by cases e), fun _ => ⟨g, 0, rfl, (hlt g rfl).2.1, fun j hj => ?_⟩, fun a e => by cases e; exact hg⟩
    have := World.ownsRow.cellAt h' j (by simpa using hj)
    rw [Nat.zero_add, this]
    simp [hj]
theorem GRow.cellsN (h : GRow w B e v vs) : ∃ A n c, v = .slice A n c ∧ Hid (vs.length = n) ∧ n ≤ c ∧ (A = none → c = 0) := by
  obtain ⟨A, c, h1, h2, h3, _⟩ := h.cells
  exact ⟨A, vs.length, c, h1, rfl, h2, h3⟩
end
theorem SRow.grow {w : World} {B : Nat} {v : Value} {l : List Int} (h : SRow w B v l) : GRow w B 2 v (l.map n7) := by
  unfold GRow
  rw [List.length_map]
  exact h
theorem GRow.srow {w : World} {B : Nat} {v : Value} {l : List Int} (h : GRow w B 2 v (l.map n7)) : SRow w B v l := by
  unfold GRow at h
  rw [List.length_map] at h
  exact h
theorem op_app_g {o : Oper} {a : Act} {K : Act → World → Prop} {Q : Exit → Act → World → Prop} (w : World) (sl e : TypeId) (z : Value) (by_ : Nat) (hu : Try.prog.underlying sl = some (.slice e)) (hi : (Try.prog.info? e).map (fun i => (i.zero, i.size, i.bytes)) = some (some z, 1, by_)) (hzc : z.cells.size = 1) (hby : by_ ≤ 100)
    (s x : Operand) (ho : o.op = .call { callee := .builtin .append, args := #[s, x], argTypes := #[sl, sl] })
    (B : Nat) (v : Value) (vs : List Value) (hs : a.eval s = v) (hown : GRow w B e v vs) (g c : Nat) (y : Value) (hx : a.eval x = .slice (some ⟨g, 0, none⟩) 1 c) (hy : w.cell? ⟨g, 0, none⟩ = some y) (hy1 : y.oneCell' = true)
    (hn : vs.length ≤ 1000000) (hB : B ≤ w.heap.size) (h : ∀ v' w', GRow w' B e v' (vs ++ [y]) → w.grownBy w' v.ownBlock → K (a.put o.dst v') w') : Oper.wp Try.prog o a w K Q := by
  obtain ⟨i0, hi0, hz0, hz1, hz2⟩ := info_parts hi
  have hbb : (vs.length + 1) * by_ ≤ 140737488355328 := by
    have := Nat.mul_le_mul (show vs.length + 1 ≤ 1000001 by omega) hby
    omega
  obtain ⟨v', w', hrun, r1, r2, _⟩ := run_append_own (P := Try.prog) w B sl o.type e i0 z 1 by_ hu hi0 hz0 hz1 hz2 hzc (by omega) v vs.length vs hown ⟨g, 0, none⟩ 1 c [y] rfl (by
      intro j u hu
      obtain ⟨hj, hu⟩ := List.getElem?_eq_some_iff.1 hu
      obtain rfl : j = 0 := by simp at hj; omega
      simp only [List.getElem_cons_zero] at hu
      rw [add_zero_off, Nat.zero_add, hy, hu]) (fun u hu => by rw [List.mem_singleton] at hu; subst hu; exact hy1) (by simp only [maxLen]; omega) hbb hB
  unfold Oper.wp execOp
  simp only [ho, resolve, invoke, builtin, Sem.run_bind, Sem.run_pure, Result.andThen_ok, List.map_toArray, List.map_cons, List.map_nil, hs, hx, hrun]
  refine h v' w' ?_ r2
  show w'.ownsRow B _ 1 v' (vs ++ [y]).length (vs ++ [y])
  rw [List.length_append]
  simpa using r1
theorem app_g {ops : Array Oper} {rest : List Oper} {o : Oper} {a : Act} {Q : Exit → Act → World → Prop} (w : World) (hgd : o.guard = none) (sl e : TypeId) (z : Value) (by_ : Nat) (hu : Try.prog.underlying sl = some (.slice e)) (hi : (Try.prog.info? e).map (fun i => (i.zero, i.size, i.bytes)) = some (some z, 1, by_)) (hzc : z.cells.size = 1) (hby : by_ ≤ 100)
    (s x : Operand) (ho : o.op = .call { callee := .builtin .append, args := #[s, x], argTypes := #[sl, sl] })
    (B : Nat) (v : Value) (vs : List Value) (hs : a.eval s = v) (hown : GRow w B e v vs) (g c : Nat) (y : Value) (hx : a.eval x = .slice (some ⟨g, 0, none⟩) 1 c) (hy : w.cell? ⟨g, 0, none⟩ = some y) (hy1 : y.oneCell' = true)
    (hn : vs.length ≤ 1000000) (hB : B ≤ w.heap.size) (h : ∀ v' w', GRow w' B e v' (vs ++ [y]) → w.grownBy w' v.ownBlock → wpList Try.prog ops Q rest (a.put o.dst v') w') : wpList Try.prog ops Q (o :: rest) a w :=
  wpList_plain hgd fun _ hK' => op_app_g w sl e z by_ hu hi hzc hby s x ho B v vs hs hown g c y hx hy hy1 hn hB (fun v' w' r1 r2 => hK' _ _ (h v' w' r1 r2))

/-- a row that is an element of a row -/
structure Ro where
  A : Option Addr
  c : Nat
  r : List Int
def Ro.v (e : Ro) : Value := .slice e.A e.r.length e.c
def WOwn (w : World) (B : Nat) (v : Value) (was : List (List Int)) : Prop := ∃ es : List Ro, es.map Ro.r = was ∧ GRow w B 23 v (es.map Ro.v) ∧ ∀ e ∈ es, SRow w B e.v e.r
theorem rows_info : (Try.prog.info? 23).map (fun i => (i.zero, i.size, i.bytes)) = some (some (.slice none 0 0), 1, 24) := by kernel_rfl
theorem WOwn.nil (w : World) (B : Nat) : WOwn w B (.slice none 0 0) [] := ⟨[], rfl, GRow.nil _ _ _, fun p hp => absurd hp (by simp)⟩
theorem WOwn.kept {w w' : World} {B : Nat} {v : Value} {was : List (List Int)} (h : WOwn w B v was) (hk : ∀ k, B ≤ k → k < w.heap.size → HasT w k 23 ∨ HasT w k 2 → w'.heap[k]? = w.heap[k]?) : WOwn w' B v was := by
  obtain ⟨es, e, ho, hm⟩ := h
  exact ⟨es, e, ho.kept fun k a b c => hk k a b (.inl c), fun q hq => ((hm q hq).grow.kept fun k a b c => hk k a b (.inr c)).srow⟩
theorem WOwn.row {w : World} {B : Nat} {v : Value} {was : List (List Int)} (h : WOwn w B v was) : ∃ vs, vs.length = was.length ∧ GRow w B 23 v vs := by
  obtain ⟨es, e, ho, hm⟩ := h
  exact ⟨_, by rw [← e]; simp, ho⟩
/-- one more row -/
theorem WOwn.push {w w' : World} {B : Nat} {v v' x : Value} {was : List (List Int)} {r : List Int} {es : List Ro} (e : es.map Ro.r = was) (ho : GRow w B 23 v (es.map Ro.v)) (hm : ∀ e ∈ es, SRow w B e.v e.r) (hx : SRow w B x r) (hg : w.grownBy w' v.ownBlock) (h' : GRow w' B 23 v' (es.map Ro.v ++ [x])) : WOwn w' B v' (was ++ [r]) := by
  obtain ⟨A, c, rfl, _⟩ := hx.form
  refine ⟨es ++ [⟨A, c, r⟩], by rw [List.map_append, e]; rfl, by rw [List.map_append]; exact h', fun q hq => ?_⟩
  have key : ∀ {y : Value} {l : List Int}, SRow w B y l → SRow w' B y l := fun hy => (hy.grow.kept fun k _ b c => hg.block k b fun q => absurd (c.one (ho.lt k q.symm).2.2) (by decide)).srow
  rcases List.mem_append.1 hq with hq | hq
  · exact key (hm q hq)
  · rw [List.mem_singleton] at hq
    subst hq
    exact key hx
theorem WOwn.at_ {w : World} {B : Nat} {v : Value} {was : List (List Int)} (h : WOwn w B v was) : ∃ A c, v = .slice A was.length c ∧ ∀ j (hj : j < was.length), was[j].length = 16 → ∃ g o g2 o2 c2, A = some ⟨g, o, none⟩ ∧ g < w.heap.size ∧ w.cell? ⟨g, o + j, none⟩ = some (.slice (some ⟨g2, o2, none⟩) 16 c2) ∧ 16 ≤ c2 ∧ g2 < w.heap.size ∧ CLies w w.heap.size (some ⟨g2, o2, none⟩) (was[j].map n7) := by
  obtain ⟨es, rfl, ho, hm⟩ := h
  obtain ⟨A, c, rfl, _, _, hl, _⟩ := ho.cells
  refine ⟨A, c, by simp, fun j hj h16 => ?_⟩
  have hj' : j < es.length := by simpa using hj
  obtain ⟨g, o, e, hg, hc⟩ := hl (by simp; omega)
  have h1 := hc j (by simpa using hj')
  have hs := hm es[j] (List.getElem_mem _)
  rw [List.getElem_map] at h16
  obtain ⟨A2, c2, q, hc2, _, hl2, _⟩ := hs.cells
  obtain ⟨g2, o2, e2, hg2, hc3⟩ := hl2 (by simp; omega)
  subst e2
  rw [List.getElem_map, q, h16] at h1
  refine ⟨g, o, g2, o2, c2, e, hg, h1, by omega, hg2, ?_⟩
  rw [List.getElem_map]
  exact hl2
theorem POwn.has {w : World} {B : Nat} {v : Value} {l : List Ps} (h : POwn w B v l) : ∀ k, v.ownBlock = some k → HasT w k 29 := by
  intro k q
  rcases h.2 with ⟨rfl, _⟩ | ⟨g, cap, cur, rfl, hB, hh, _⟩
  · cases q
  · injection q with q
    subst q
    exact ⟨_, _, hh⟩
theorem LOwn.has {w : World} {B : Nat} {v : Value} {l : List Lc} (h : LOwn w B v l) : ∀ k, v.ownBlock = some k → HasT w k 31 := by
  intro k q
  rcases h.2 with ⟨rfl, _⟩ | ⟨g, cap, cur, rfl, hB, hh, _⟩
  · cases q
  · injection q with q
    subst q
    exact ⟨_, _, hh⟩
theorem SpOwn.has {w : World} {B : Nat} {v : Value} {l : List Sp} (h : SpOwn w B v l) : ∀ k, v.ownBlock = some k → HasT w k 29 := by
  obtain ⟨ps, _, ho, _⟩ := h
  exact ho.has
theorem SpOwn.kept {w w' : World} {B : Nat} {v : Value} {l : List Sp} (h : SpOwn w B v l) (hk : ∀ k, B ≤ k → k < w.heap.size → HasT w k 29 ∨ HasT w k 31 → w'.heap[k]? = w.heap[k]?) : SpOwn w' B v l := by
  obtain ⟨ps, e, ho, hm⟩ := h
  exact ⟨ps, e, ho.kept fun k q => hk k (ho.lt k q).1 (ho.lt k q).2 (.inl (ho.has k q)), fun p hp => (hm p hp).kept fun k q => hk k ((hm p hp).lt k q).1 ((hm p hp).lt k q).2 (.inr ((hm p hp).has k q))⟩
theorem SpAt.setL {w : World} {g : Nat} {r : Ps} (h : SpAt w g r) (A : Option Addr) (c : Nat) (l : List Lc) : SpAt (w.setCell ⟨g, 3, none⟩ (.slice A l.length c)) g { r with a := l, A := A, c := c } := by
  have := CAt.set (cs := pC r) (e := 29) (j := 3) h (.slice A l.length c)
  exact this

/-- where words and registers lie; what is made later lies from B on -/
structure Pla where
  w : World
  gW : Nat
  gR : Nat
  B : Nat
  h1 : w.heap.size ≤ gW
  h2 : gW < gR
  h3 : gR < B
/-- the worlds between two frames: words, registers, the table, the rows of registers -/
structure Rw (P : Pla) (W : World) (Ws R : List Int) (vt vw : Value) (ls : List Sp) (was : List (List Int)) : Prop where
  hW : CAt W P.gW 2 (Ws.map n7)
  hR : CAt W P.gR 2 (R.map n7)
  ht : SpOwn W P.B vt ls
  hw : WOwn W P.B vw was
  hb : Below P.w.heap.size P.w W
  hs : P.B ≤ W.heap.size
/-- the worlds within a frame -/
structure Inn (P : Pla) (w1 W : World) (Ws R : List Int) (p : Ps) : Prop where
  hW : CAt W P.gW 2 (Ws.map n7)
  hR : CAt W P.gR 2 (R.map n7)
  hu : SpAt W w1.heap.size p
  ho : LOwn W (w1.heap.size + 1) (.slice p.A p.a.length p.c) p.a
  hi : ∀ k, P.B ≤ k → k < w1.heap.size → W.heap[k]? = w1.heap[k]?
  hb : Below P.w.heap.size P.w W
  h1 : P.B ≤ w1.heap.size
section
variable {P : Pla} {w1 W W' : World} {Ws R : List Int} {p : Ps} {vt vw : Value} {ls : List Sp} {was : List (List Int)}
theorem Inn.below (h : Inn P w1 W Ws R p) (hb : Below W.heap.size W W') : Inn P w1 W' Ws R p :=
  ⟨h.hW.below hb h.hW.lt, h.hR.below hb h.hR.lt, h.hu.below hb h.hu.lt, h.ho.below hb, fun k a b => (hb.block k (by have := h.hu.lt; omega)).trans (h.hi k a b), h.hb.trans (hb.mono h.hb.size), h.h1⟩
theorem Inn.setW (h : Inn P w1 W Ws R p) (k : Nat) (v : Int) : Inn P w1 (W.setCell ⟨P.gW, k, none⟩ (.int .i64 v)) (Ws.set k v) R p := by
  have h1 := h.h1
  have p1 := P.h1
  have p2 := P.h2
  have p3 := P.h3
  refine ⟨by rw [List.map_set]; exact h.hW.set k _, h.hR.other (by dsimp only; omega) _, (Below.heap_setCell W _ _ _ (by dsimp only; omega)).trans h.hu, h.ho.set8 _ (by dsimp only; omega), fun q a b => (Below.heap_setCell W _ _ _ (by dsimp only; omega)).trans (h.hi q a b), h.hb.setCell (by dsimp only; omega) _, h.h1⟩
theorem Inn.setR (h : Inn P w1 W Ws R p) (k : Nat) (v : Int) : Inn P w1 (W.setCell ⟨P.gR, k, none⟩ (.int .i64 v)) Ws (R.set k v) p := by
  have h1 := h.h1
  have p1 := P.h1
  have p2 := P.h2
  have p3 := P.h3
  refine ⟨h.hW.other (by dsimp only; omega) _, by rw [List.map_set]; exact h.hR.set k _, (Below.heap_setCell W _ _ _ (by dsimp only; omega)).trans h.hu, h.ho.set8 _ (by dsimp only; omega), fun q a b => (Below.heap_setCell W _ _ _ (by dsimp only; omega)).trans (h.hi q a b), h.hb.setCell (by dsimp only; omega) _, h.h1⟩
theorem Inn.mid (h : Inn P w1 W Ws R p) (hg : W.grownBy W' (Value.slice p.A p.a.length p.c).ownBlock) : CAt W' P.gW 2 (Ws.map n7) ∧ CAt W' P.gR 2 (R.map n7) ∧ SpAt W' w1.heap.size p ∧ (∀ k, P.B ≤ k → k < w1.heap.size → W'.heap[k]? = w1.heap[k]?) ∧ Below P.w.heap.size P.w W' := by
  have h1 := h.h1
  have p1 := P.h1
  have p2 := P.h2
  have p3 := P.h3
  have hlt := h.hu.lt
  have no : ∀ k, k ≤ w1.heap.size → some k ≠ (Value.slice p.A p.a.length p.c).ownBlock := fun k hk q => by have := (h.ho.lt k q.symm).1; omega
  exact ⟨(hg.block _ h.hW.lt (no _ (by omega))).trans h.hW, (hg.block _ h.hR.lt (no _ (by omega))).trans h.hR, (hg.block _ hlt (no _ (by omega))).trans h.hu, fun k a b => (hg.block k (by omega) (no k (by omega))).trans (h.hi k a b), h.hb.grown hg h.hb.size fun j e => by have := (h.ho.lt j e).1; omega⟩
theorem Inn.push (h : Inn P w1 W Ws R p) (hg : W.grownBy W' (Value.slice p.A p.a.length p.c).ownBlock) (A : Option Addr) (c : Nat) (l : List Lc) (ho : LOwn W' (w1.heap.size + 1) (.slice A l.length c) l) : Inn P w1 (W'.setCell ⟨w1.heap.size, 3, none⟩ (.slice A l.length c)) Ws R { p with a := l, A := A, c := c } := by
  obtain ⟨q1, q2, q3, q4, q5⟩ := h.mid hg
  have h1 := h.h1
  have p1 := P.h1
  have p2 := P.h2
  have p3 := P.h3
  exact ⟨q1.other (by dsimp only; omega) _, q2.other (by dsimp only; omega) _, q3.setL A c l, ho.set8 _ (by dsimp only; omega), fun k a b => (Below.heap_setCell W' _ _ _ (by dsimp only; omega)).trans (q4 k a b), q5.setCell (by dsimp only; omega) _, h.h1⟩
theorem Rw.below (h : Rw P W Ws R vt vw ls was) (hb : Below W.heap.size W W') : Rw P W' Ws R vt vw ls was :=
  ⟨h.hW.below hb h.hW.lt, h.hR.below hb h.hR.lt, h.ht.below hb, h.hw.kept fun k _ b _ => hb.block k b, h.hb.trans (hb.mono h.hb.size), by have := hb.size; have := h.hs; omega⟩
theorem Rw.setR (h : Rw P W Ws R vt vw ls was) (k : Nat) (v : Int) : Rw P (W.setCell ⟨P.gR, k, none⟩ (.int .i64 v)) Ws (R.set k v) vt vw ls was := by
  have p1 := P.h1
  have p2 := P.h2
  have p3 := P.h3
  exact ⟨h.hW.other (by dsimp only; omega) _, by rw [List.map_set]; exact h.hR.set k _, h.ht.set _ (by dsimp only; omega), h.hw.kept fun q a _ _ => Below.heap_setCell W _ _ _ (by dsimp only; omega), h.hb.setCell (by dsimp only; omega) _, by simpa [World.setCell] using h.hs⟩
/-- one more row of registers -/
theorem Rw.keep (h : Rw P W Ws R vt vw ls was) (x : Value) (hx : SRow W P.B x R) : ∃ vs, vs.length = was.length ∧ GRow W P.B 23 vw vs ∧ ∀ W' v', GRow W' P.B 23 v' (vs ++ [x]) → W.grownBy W' vw.ownBlock → Rw P W' Ws R vt v' ls (was ++ [R]) := by
  obtain ⟨es, e, ho, hm⟩ := h.hw
  have p1 := P.h1
  have p2 := P.h2
  have p3 := P.h3
  have no : ∀ k, k < P.B → some k ≠ vw.ownBlock := fun k hk q => by have := (ho.lt k q.symm).1; omega
  have hs := h.hs
  refine ⟨_, by rw [← e]; simp, ho, fun W' v' h' hg => ?_⟩
  have hz := hg.size
  exact ⟨(hg.block _ h.hW.lt (no _ (by omega))).trans h.hW, (hg.block _ h.hR.lt (no _ (by omega))).trans h.hR, h.ht.kept fun k _ b c => hg.block k b fun q => by
    have := (ho.lt k q.symm).2.2
    rcases c with c | c
    · exact absurd (c.one this) (by decide)
    · exact absurd (c.one this) (by decide), WOwn.push e ho hm hx hg h', h.hb.grown hg h.hb.size fun j e => by have := (ho.lt j e).1; omega, by omega⟩
/-- a frame begins -/
theorem Rw.begin (h : Rw P W Ws R vt vw ls was) (f t u : Int) : Inn P W (W.alloc (.cells (pK ⟨f, t, u, [], none, 0⟩) 29)) Ws R ⟨f, t, u, [], none, 0⟩ := by
  have hb := below_lnew W (.cells (pK ⟨f, t, u, [], none, 0⟩) 29)
  exact ⟨h.hW.below hb h.hW.lt, h.hR.below hb h.hR.lt, spAt_new W _, LOwn.nil _ _, fun k _ b => hb.block k b, h.hb.trans (hb.mono h.hb.size), h.hs⟩
/-- a frame ends -/
theorem Inn.ends {Ws0 R0 : List Int} (h : Inn P w1 W Ws R p) (h0 : Rw P w1 Ws0 R0 vt vw ls was) : Rw P W Ws R vt vw ls was ∧ LOwn W P.B (.slice p.A p.a.length p.c) p.a := by
  have h1 := h.h1
  have hz := h.hu.lt
  exact ⟨⟨h.hW, h.hR, h0.ht.kept fun k a b _ => h.hi k a b, h0.hw.kept fun k a b _ => h.hi k a b, h.hb, by omega⟩, h.ho.base (by omega)⟩
/-- one more entry -/
theorem Rw.entry (h : Rw P W Ws R vt vw ls was) {v' : Value} {l' : List Sp} (hg : W.grownBy W' vt.ownBlock) (h' : SpOwn W' P.B v' l') : Rw P W' Ws R v' vw l' was := by
  have p1 := P.h1
  have p2 := P.h2
  have p3 := P.h3
  have hlt := h.ht.lt
  have no : ∀ k, k < P.B → some k ≠ vt.ownBlock := fun k hk q => by have := (hlt k q.symm).1; omega
  have hs := h.hs
  have hz := hg.size
  exact ⟨(hg.block _ h.hW.lt (no _ (by omega))).trans h.hW, (hg.block _ h.hR.lt (no _ (by omega))).trans h.hR, h', h.hw.kept fun k _ b c => hg.block k b fun q => by
    have := h.ht.has k q.symm
    rcases c with c | c
    · exact absurd (c.one this) (by decide)
    · exact absurd (c.one this) (by decide), h.hb.grown hg h.hb.size fun j e => by have := (hlt j e).1; omega, by omega⟩
end
end Go.Proofs.Ytpbopehhalicjaa
