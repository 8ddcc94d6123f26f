/-
  Merged for a claim: L7A, S9A.
-/
import Derived.Test.YtjagjkogloggpaaGreatHJ1
import Derived.Test.YtjagjkogloggpaaGreatHGA
namespace Go.Proofs.YtjagjkogloggpaaGreat
open Go.ChangeShapes Go.WideShapes Go.ChangeAt Go.RowKit Go.Deep

/-- a span, and where its steps lie -/
structure Ps where
  f : Int
  t : Int
  a : List Lc
  A : Option Addr
  c : Nat
/-- what it says -/
structure Sp where
  f : Int
  t : Int
  a : List Lc
  deriving DecidableEq
def Ps.sp (p : Ps) : Sp := ⟨p.f, p.t, p.a⟩
def pK (p : Ps) : Array Value := #[.int .i64 p.f, .int .i64 p.t, .slice p.A p.a.length p.c]
def pC (p : Ps) : List Value := (pK p).toList
def pv (p : Ps) : Value := .agg (pK p)
theorem pC_len (p : Ps) : (pC p).length = 3 := rfl
theorem pC_one (i : Ps) : ∀ u ∈ pC i, u.oneCell' = true := by
  intro u hu
  simp only [pC, pK, List.mem_cons, List.not_mem_nil, or_false] at hu
  rcases hu with rfl | rfl | rfl <;> rfl
/-- a span's cells in a block -/
def SpAt (w : World) (g : Nat) (r : Ps) : Prop := w.heap[g]? = some (.cells (pK r) 56 (0, 0))
theorem spAt_new (w : World) (r : Ps) : SpAt (w.alloc (.cells (pK r) 56)) w.heap.size r := heap_alloc_new w _
section
variable {w w' : World} {g B : Nat} {r : Ps}
theorem SpAt.below (h : SpAt w g r) (hb : Below B w w') (hg : g < B) : SpAt w' g r := (hb.block g hg).trans h
theorem SpAt.lt (h : SpAt w g r) : g < w.heap.size := by
  rcases Nat.lt_or_ge g w.heap.size with h' | h'
  · exact h'
  · unfold SpAt at h; rw [Array.getElem?_eq_none h'] at h; cases h
theorem SpAt.fr (h : SpAt w g r) : w.cell? ⟨g, 0, none⟩ = some (.int .i64 r.f) := by
  unfold SpAt at h
  simp [World.cell?, h, pK]
theorem SpAt.to (h : SpAt w g r) : w.cell? ⟨g, 1, none⟩ = some (.int .i64 r.t) := by
  unfold SpAt at h
  simp [World.cell?, h, pK]
theorem SpAt.at_ (h : SpAt w g r) : w.cell? ⟨g, 2, none⟩ = some (.slice r.A r.a.length r.c) := by
  unfold SpAt at h
  simp [World.cell?, h, pK]
theorem SpAt.frozen (h : SpAt w g r) (j : Nat) : w.frozen? ⟨g, j, none⟩ = false := by
  unfold SpAt at h
  simp [World.frozen?, h]
theorem SpAt.setT (h : SpAt w g r) (t : Int) : SpAt (w.setCell ⟨g, 1, none⟩ (.int .i64 t)) g { r with t := t } := by
  unfold SpAt at h ⊢
  simp only [World.setCell, Array.getElem?_modify, h]
  simp [pK]
theorem SpAt.setAll (h : SpAt w g r) (p : Ps) : SpAt (((w.setCell ⟨g, 0, none⟩ (.int .i64 p.f)).setCell ⟨g, 1, none⟩ (.int .i64 p.t)).setCell ⟨g, 2, none⟩ (.slice p.A p.a.length p.c)) g p := by
  unfold SpAt at h ⊢
  simp only [World.setCell, Array.getElem?_modify, h]
  simp [pK]
theorem SpAt.setA (h : SpAt w g r) (A : Option Addr) (c : Nat) : SpAt (w.setCell ⟨g, 2, none⟩ (.slice A r.a.length c)) g { r with A := A, c := c } := by
  unfold SpAt at h ⊢
  simp only [World.setCell, Array.getElem?_modify, h]
  simp [pK]
end

/-- spans that lie at an address below a block's number -/
def PLies (w : World) (B : Nat) (A : Option Addr) (xs : List Ps) : Prop :=
  0 < xs.length → ∃ g o, A = some ⟨g, o, none⟩ ∧ g < B ∧ ∀ j (hj : j < xs.length) f u, (pC xs[j])[f]? = some u → w.cell? ⟨g, o + (j * 3 + f), none⟩ = some u
theorem PLies.nil (w : World) (B : Nat) (A : Option Addr) : PLies w B A [] := fun h => absurd h (by simp)
theorem PLies.below {w w' : World} {B : Nat} {A : Option Addr} {xs : List Ps} (h : PLies w B A xs) (hb : Below B w w') : PLies w' B A xs := fun hl => by
  obtain ⟨g, o, e, hg, hc⟩ := h hl
  exact ⟨g, o, e, hg, fun j hj f u hu => (hb.cell hg).trans (hc j hj f u hu)⟩
theorem PLies.more {w : World} {B B' : Nat} {A : Option Addr} {xs : List Ps} (h : PLies w B A xs) (hB : B ≤ B') : PLies w B' A xs := fun hl => by
  obtain ⟨g, o, e, hg, hc⟩ := h hl
  exact ⟨g, o, e, by omega, hc⟩
theorem PLies.next {w w' : World} {A : Option Addr} {xs : List Ps} (h : PLies w w.heap.size A xs) (hb : Below w.heap.size w w') : PLies w' w'.heap.size A xs := (h.below hb).more hb.size
theorem PLies.at_ {w : World} {B : Nat} {A : Option Addr} {xs : List Ps} (h : PLies w B A xs) {j : Nat} (hj : j < xs.length) :
    ∃ g o, A = some ⟨g, o, none⟩ ∧ g < B ∧ w.cell? ⟨g, o + j * 3, none⟩ = some (.int .i64 xs[j].f) ∧ w.cell? ⟨g, o + j * 3 + 1, none⟩ = some (.int .i64 xs[j].t) ∧ w.cell? ⟨g, o + j * 3 + 2, none⟩ = some (.slice xs[j].A xs[j].a.length xs[j].c) := by
  obtain ⟨g, o, e, hg, hc⟩ := h (by omega)
  have c := fun f u hu => hc j hj f u hu
  simp only [← Nat.add_assoc] at c
  exact ⟨g, o, e, hg, c 0 _ rfl, c 1 _ rfl, c 2 _ rfl⟩
theorem PLies.drop {w : World} {B : Nat} {g o : Nat} {xs : List Ps} (h : PLies w B (some ⟨g, o, none⟩) xs) (k : Nat) : PLies w B (some ⟨g, o + k * 3, none⟩) (xs.drop k) := fun hl => by
  have hl' : k < xs.length := by simp at hl; omega
  obtain ⟨g', o', e, hg, hc⟩ := h (by omega)
  cases e
  refine ⟨g, _, rfl, hg, fun j hj f u hu => ?_⟩
  have hj' : k + j < xs.length := by simp at hj; omega
  have := hc (k + j) hj' f u (by simpa using hu)
  rw [show o + k * 3 + (j * 3 + f) = o + ((k + j) * 3 + f) by omega]
  exact this

theorem span_info : (Tryz.prog.info? 56).map (fun i => (i.zero, i.size, i.bytes)) = some (some (.agg #[.int .i64 0, .int .i64 0, .slice none 0 0]), 3, 40) := by kernel_rfl
/-- a row of rows of the call's own -/
def POwn (w : World) (B : Nat) (v : Value) (xs : List Ps) : Prop := w.ownsRow B 56 3 v xs.length (xs.flatMap pC)
theorem POwn.nil (w : World) (B : Nat) : POwn w B (.slice none 0 0) [] := World.ownsRow_nil w B _ _
theorem pflat_len (xs : List Ps) : (xs.flatMap pC).length = xs.length * 3 := by
  induction xs with
  | nil => rfl
  | cons x xs ih => simp [pC_len, ih]; omega
theorem pflat_get : ∀ (xs : List Ps) (j f : Nat) (hj : j < xs.length) (_ : f < 3), (xs.flatMap pC)[j * 3 + f]? = (pC xs[j])[f]?
  | x :: xs, 0, f, _, hf => by
    rw [List.flatMap_cons, List.getElem?_append_left (by rw [pC_len]; omega)]
    simp
  | x :: xs, j + 1, f, hj, hf => by
    rw [List.flatMap_cons, List.getElem?_append_right (by rw [pC_len]; omega), pC_len, show (j + 1) * 3 + f - 3 = j * 3 + f by omega, pflat_get xs j f (by simpa using hj) hf]
    simp
theorem pflat_one (xs : List Ps) : ∀ u ∈ xs.flatMap pC, u.oneCell' = true := by
  intro u hu
  obtain ⟨x, _, h⟩ := List.mem_flatMap.1 hu
  exact pC_one x u h
theorem POwn.lt {w : World} {B : Nat} {v : Value} {xs : List Ps} (h : POwn w B v xs) : ∀ k, v.ownBlock = some k → B ≤ k ∧ k < w.heap.size := by
  intro k e
  rcases h.2 with ⟨rfl, _⟩ | ⟨g, cap, cur, rfl, hB, hh, _⟩
  · cases e
  · injection e with e
    subst e
    rcases Nat.lt_or_ge g w.heap.size with h' | h'
    · exact ⟨hB, h'⟩
    · rw [Array.getElem?_eq_none h'] at hh; cases hh
theorem POwn.form {w : World} {B : Nat} {v : Value} {xs : List Ps} (h : POwn w B v xs) : ∃ A c, v = .slice A xs.length c ∧ xs.length ≤ c ∧ (A = none → c = 0) ∧ PLies w w.heap.size A xs := by
  have h' := h
  have hlt := h.lt
  rcases h.2 with ⟨rfl, h0⟩ | ⟨g, cap, cur, rfl, hg, hh, hn, _, hsz, ht⟩
  · have : xs = [] := List.eq_nil_of_length_eq_zero h0
    subst this
    exact ⟨none, 0, rfl, Nat.le_refl _, fun _ => rfl, fun h => absurd h (by simp)⟩
  · refine ⟨_, cap, rfl, hn, fun e => (by cases e), fun _ => ⟨g, 0, rfl, (hlt g rfl).2, fun j hj f u hu => ?_⟩⟩
    have hf : f < 3 := by have := (List.getElem?_eq_some_iff.1 hu).1; simpa [pC_len] using this
    have := World.ownsRow.cellAt h' (j * 3 + f) (by omega)
    rw [Nat.zero_add, this, pflat_get xs j f hj hf, hu]
theorem POwn.formN {w : World} {B : Nat} {v : Value} {xs : List Ps} (h : POwn w B v xs) : ∃ A n c, v = .slice A n c ∧ Hid (xs.length = n) ∧ n ≤ c ∧ (A = none → c = 0) ∧ PLies w w.heap.size A xs := by
  obtain ⟨A, c, e, h1, h2, h3⟩ := h.form
  exact ⟨A, xs.length, c, e, rfl, h1, h2, h3⟩
theorem POwn.kept {w w' : World} {B : Nat} {v : Value} {xs : List Ps} (h : POwn w B v xs) (hk : ∀ k, v.ownBlock = some k → w'.heap[k]? = w.heap[k]?) : POwn w' B v xs := by
  refine ⟨h.1, ?_⟩
  rcases h.2 with h0 | ⟨g, cap, cur, rfl, hg, hh, r⟩
  · exact .inl h0
  · exact .inr ⟨g, cap, cur, rfl, hg, (hk g rfl).trans hh, r⟩
theorem POwn.below {w w' : World} {B : Nat} {v : Value} {xs : List Ps} (h : POwn w B v xs) (hb : Below w.heap.size w w') : POwn w' B v xs := h.kept fun k e => hb.block k (h.lt k e).2
theorem POwn.base {w : World} {B B' : Nat} {v : Value} {xs : List Ps} (h : POwn w B v xs) (hB : B' ≤ B) : POwn w B' v xs := by
  refine ⟨h.1, ?_⟩
  rcases h.2 with h0 | ⟨g, cap, cur, rfl, hg, r⟩
  · exact .inl h0
  · exact .inr ⟨g, cap, cur, rfl, Nat.le_trans hB hg, r⟩
theorem below_pgrown {B : Nat} {w w1 w2 : World} {v : Value} {l : List Ps} (hb : Below B w w1) (hg : w1.grownBy w2 v.ownBlock) (ho : POwn w1 B v l) (hB : B ≤ w1.heap.size) : Below B w w2 :=
  hb.grown hg hB fun k hk => (ho.lt k hk).1
/-- an empty row that is not nil -/
theorem pown_empty (w : World) : POwn (w.alloc (.cells #[] 56)) w.heap.size (.slice (some ⟨w.heap.size, 0, none⟩) 0 0) [] := by
  refine ⟨rfl, .inr ⟨w.heap.size, 0, _, rfl, Nat.le_refl _, heap_alloc_new w _, Nat.le_refl _, by simp [maxLen], by simp, by simp⟩⟩

section
variable {ops : Array Oper} {rest : List Oper} {o : Oper} {a : Act} {Q : Exit → Act → World → Prop}
/-- append of rows that lie somewhere onto such a row -/
theorem app_spans (w : World) (hgd : o.guard = none) (s x : Operand) (ho : o.op = .call { callee := .builtin .append, args := #[s, x], argTypes := #[57, 57] })
    (B : Nat) (v : Value) (xs : List Ps) (hs : a.eval s = v) (hown : POwn w B v xs) (A : Option Addr) (c : Nat) (C : Nat) (ys : List Ps) (hx : a.eval x = .slice A ys.length c) (hc0 : A = none → c = 0) (hy : PLies w C A ys)
    (hn : xs.length + ys.length ≤ 1099511627776) (hB : B ≤ w.heap.size) (h : ∀ v' w', POwn w' B v' (xs ++ ys) → w.grownBy w' v.ownBlock → wpList Tryz.prog ops Q rest (a.put o.dst v') w') : wpList Tryz.prog ops Q (o :: rest) a w := by
  obtain ⟨i0, hi0, hz0, hz1, hz2⟩ := info_parts span_info
  rcases A with _ | ad
  · have h0 : ys = [] := by
      rcases ys with _ | ⟨y, ys⟩
      · rfl
      · obtain ⟨g, o, e, _⟩ := hy (by simp)
        cases e
    subst h0
    obtain rfl := hc0 rfl
    have hrun := run_append_owned_none (P := Tryz.prog) w B 57 o.type 56 i0 3 Tryz.underlying57 hi0 v xs.length (xs.flatMap pC) hown
    refine wpList_plain hgd fun K hK' => ?_
    have := h v w (by simpa using hown) (World.grownBy.refl _ _)
    unfold Oper.wp execOp
    simp only [ho, resolve, invoke, builtin, Sem.run_bind, Sem.run_pure, Result.andThen_ok, List.map_toArray, List.map_cons, List.map_nil, hs, hx, List.length_nil, hrun]
    exact hK' _ _ this
  · refine wpList_append_own w hgd s x 57 ho B 56 i0 _ 3 40 Tryz.underlying57 hi0 hz0 hz1 hz2 rfl (by omega) v xs.length (xs.flatMap pC) hs hown ad ys.length c (ys.flatMap pC) hx (by rw [pflat_len]) ?_ (pflat_one ys)
      (by simp only [maxLen]; omega) (by omega) hB fun v' w' h1 h2 _ => h v' w' ?_ h2
    · intro j u hu
      have hj : j < ys.length * 3 := by have := (List.getElem?_eq_some_iff.1 hu).1; rwa [pflat_len] at this
      obtain ⟨g', o', e, _, hc⟩ := hy (by omega)
      cases e
      have hj2 : j / 3 < ys.length := by omega
      have e1 := pflat_get ys (j / 3) (j % 3) hj2 (by omega)
      rw [show j / 3 * 3 + j % 3 = j by omega, hu] at e1
      have := hc (j / 3) hj2 (j % 3) u e1.symm
      rw [add_zero_off]
      rwa [show o' + (j / 3 * 3 + j % 3) = o' + j by omega] at this
    · show w'.ownsRow B _ 3 v' (xs ++ ys).length ((xs ++ ys).flatMap pC)
      rw [List.flatMap_append, List.length_append]
      simpa using h1
/-- append of one row onto such a row -/
theorem app_span (w : World) (hgd : o.guard = none) (s x : Operand) (ho : o.op = .call { callee := .builtin .append, args := #[s, x], argTypes := #[57, 57] })
    (B : Nat) (v : Value) (xs : List Ps) (hs : a.eval s = v) (hown : POwn w B v xs) (g c : Nat) (y : Ps) (hx : a.eval x = .slice (some ⟨g, 0, none⟩) 1 c) (hy : SpAt w g y)
    (hn : xs.length ≤ 1000000) (hB : B ≤ w.heap.size) (h : ∀ v' w', POwn w' B v' (xs ++ [y]) → w.grownBy w' v.ownBlock → wpList Tryz.prog ops Q rest (a.put o.dst v') w') : wpList Tryz.prog ops Q (o :: rest) a w := by
  refine app_spans w hgd s x ho B v xs hs hown (some ⟨g, 0, none⟩) c (g + 1) [y] hx (fun e => by cases e) (fun _ => ⟨g, 0, rfl, Nat.lt_succ_self g, fun j hj f u hu => ?_⟩) (by simp; omega) hB h
  obtain rfl : j = 0 := by simp at hj; omega
  unfold SpAt at hy
  simp only [World.cell?, hy]
  simpa [pC] using hu
end

/-- where a span's steps lie -/
def Mn (w : World) (B : Nat) (p : Ps) : Prop := p.a.length ≤ p.c ∧ (p.A = none → p.c = 0) ∧ LLies w B p.A p.a
theorem Mn.below {w w' : World} {B : Nat} {p : Ps} (h : Mn w B p) (hb : Below B w w') : Mn w' B p := ⟨h.1, h.2.1, h.2.2.below hb⟩
theorem Mn.more {w : World} {B B' : Nat} {p : Ps} (h : Mn w B p) (hB : B ≤ B') : Mn w B' p := ⟨h.1, h.2.1, h.2.2.more hB⟩
/-- spans that lie, steps and all -/
def SLies (w : World) (B : Nat) (A : Option Addr) (ps : List Ps) : Prop := PLies w B A ps ∧ ∀ p ∈ ps, Mn w B p
theorem SLies.nil (w : World) (B : Nat) (A : Option Addr) : SLies w B A [] := ⟨PLies.nil _ _ _, fun p hp => absurd hp (by simp)⟩
theorem SLies.below {w w' : World} {B : Nat} {A : Option Addr} {ps : List Ps} (h : SLies w B A ps) (hb : Below B w w') : SLies w' B A ps := ⟨h.1.below hb, fun p hp => (h.2 p hp).below hb⟩
theorem SLies.more {w : World} {B B' : Nat} {A : Option Addr} {ps : List Ps} (h : SLies w B A ps) (hB : B ≤ B') : SLies w B' A ps := ⟨h.1.more hB, fun p hp => (h.2 p hp).more hB⟩
theorem SLies.next {w w' : World} {A : Option Addr} {ps : List Ps} (h : SLies w w.heap.size A ps) (hb : Below w.heap.size w w') : SLies w' w'.heap.size A ps := (h.below hb).more hb.size
/-- a row of the call's own, of spans whose steps are its own too -/
def SpOwn (w : World) (B : Nat) (v : Value) (xs : List Sp) : Prop := ∃ ps : List Ps, ps.map Ps.sp = xs ∧ POwn w B v ps ∧ ∀ p ∈ ps, LOwn w B (.slice p.A p.a.length p.c) p.a
theorem SpOwn.nil (w : World) (B : Nat) : SpOwn w B (.slice none 0 0) [] := ⟨[], rfl, POwn.nil _ _, fun p hp => absurd hp (by simp)⟩
theorem lown_mn {w : World} {B : Nat} {p : Ps} (h : LOwn w B (.slice p.A p.a.length p.c) p.a) : Mn w w.heap.size p := by
  obtain ⟨A, c, e, h1, h2, h3⟩ := h.form
  injection e with e1 _ e3
  unfold Mn
  rw [e1, e3]
  exact ⟨h1, h2, h3⟩
theorem SpOwn.form {w : World} {B : Nat} {v : Value} {xs : List Sp} (h : SpOwn w B v xs) : ∃ A c ps, v = .slice A ps.length c ∧ ps.map Ps.sp = xs ∧ ps.length ≤ c ∧ (A = none → c = 0) ∧ SLies w w.heap.size A ps := by
  obtain ⟨ps, e, ho, hm⟩ := h
  obtain ⟨A, c, e1, h1, h2, h3⟩ := ho.form
  exact ⟨A, c, ps, e1, e, h1, h2, h3, fun p hp => lown_mn (hm p hp)⟩
theorem SpOwn.below {w w' : World} {B : Nat} {v : Value} {xs : List Sp} (h : SpOwn w B v xs) (hb : Below w.heap.size w w') : SpOwn w' B v xs := by
  obtain ⟨ps, e, ho, hm⟩ := h
  exact ⟨ps, e, ho.below hb, fun p hp => (hm p hp).below hb⟩
theorem SpOwn.base {w : World} {B B' : Nat} {v : Value} {xs : List Sp} (h : SpOwn w B v xs) (hB : B' ≤ B) : SpOwn w B' v xs := by
  obtain ⟨ps, e, ho, hm⟩ := h
  exact ⟨ps, e, ho.base hB, fun p hp => (hm p hp).base hB⟩
theorem SpOwn.lt {w : World} {B : Nat} {v : Value} {xs : List Sp} (h : SpOwn w B v xs) : ∀ k, v.ownBlock = some k → B ≤ k ∧ k < w.heap.size := by
  obtain ⟨ps, _, ho, _⟩ := h
  exact ho.lt
end Go.Proofs.YtjagjkogloggpaaGreat

namespace Go.Proofs.YtjagjkogloggpaaGreat
open Go.ChangeShapes Go.WideShapes Go.ChangeAt Go.RowKit Go.Deep

def tv (s : List UInt8) : Value := .string (str s)
/-- a variable -/
structure Vr where
  nm : List UInt8
  kd : Int
  n : Int
  tn : List UInt8
  wd : Int
  fs : List (List UInt8)
/-- a variable, and where its fields lie -/
structure Pv where
  d : Vr
  A : Option Addr
  c : Nat
/-- a list of spans, and where they lie -/
structure Rs where
  l : List Ps
  A : Option Addr
  c : Nat
def Rs.d (r : Rs) : List Sp := r.l.map Ps.sp
/-- a place -/
structure Plc where
  nm : List UInt8
  fr : Int
  tt : Int
  vs : List Vr
  ss : List (List Sp)
structure Pp where
  nm : List UInt8
  fr : Int
  tt : Int
  vs : List Pv
  vA : Option Addr
  vc : Nat
  ss : List Rs
  sA : Option Addr
  sc : Nat
def Pp.d (p : Pp) : Plc := ⟨p.nm, p.fr, p.tt, p.vs.map Pv.d, p.ss.map Rs.d⟩
/-- a point -/
structure Pnt where
  fn : Int
  ln : Int
  sc : List Int
structure Pq where
  d : Pnt
  A : Option Addr
  c : Nat
def vK (p : Pv) : Array Value := #[tv p.d.nm, .int .u8 p.d.kd, .int .i64 p.d.n, tv p.d.tn, .int .i64 p.d.wd, .slice p.A p.d.fs.length p.c]
/-- the value of a variable -/
def vV (p : Pv) : Value := .agg (vK p)
def lK (p : Pp) : Array Value := #[tv p.nm, .int .i64 p.fr, .int .i64 p.tt, .slice p.vA p.vs.length p.vc, .slice p.sA p.ss.length p.sc]
def qK (p : Pq) : Array Value := #[.int .i64 p.d.fn, .int .i64 p.d.ln, .slice p.A p.d.sc.length p.c]
def rV (r : Rs) : Value := .slice r.A r.l.length r.c

theorem str_info : (Tryz.prog.info? 9).map (fun i => (i.zero, i.size, i.bytes)) = some (some (.string ⟨#[]⟩), 1, 16) := by kernel_rfl
theorem var_info : (Tryz.prog.info? 65).map (fun i => (i.zero, i.size, i.bytes)) = some (some (.agg #[.string ⟨#[]⟩, .int .u8 0, .int .i64 0, .string ⟨#[]⟩, .int .i64 0, .slice none 0 0]), 6, 80) := by kernel_rfl
theorem place_info : (Tryz.prog.info? 51).map (fun i => (i.zero, i.size, i.bytes)) = some (some (.agg #[.string ⟨#[]⟩, .int .i64 0, .int .i64 0, .slice none 0 0, .slice none 0 0]), 5, 80) := by kernel_rfl
theorem point_info : (Tryz.prog.info? 60).map (fun i => (i.zero, i.size, i.bytes)) = some (some (.agg #[.int .i64 0, .int .i64 0, .slice none 0 0]), 3, 40) := by kernel_rfl
theorem rs_info : (Tryz.prog.info? 57).map (fun i => (i.zero, i.size, i.bytes)) = some (some (.slice none 0 0), 1, 24) := by kernel_rfl
theorem int_info : (Tryz.prog.info? 3).map (fun i => (i.zero, i.size, i.bytes)) = some (some (.int .i64 0), 1, 8) := by kernel_rfl

def eS : El (List UInt8) := ⟨9, 1, fun s => [tv s], fun _ => rfl, fun x u hu => by rw [List.mem_singleton] at hu; subst hu; rfl, by omega⟩
def eI : El Int := ⟨3, 1, fun i => [.int .i64 i], fun _ => rfl, fun x u hu => by rw [List.mem_singleton] at hu; subst hu; rfl, by omega⟩
def eR : El Rs := ⟨57, 1, fun r => [rV r], fun _ => rfl, fun x u hu => by rw [List.mem_singleton] at hu; subst hu; rfl, by omega⟩
def eV : El Pv := ⟨65, 6, fun p => (vK p).toList, fun _ => rfl, fun x u hu => by
  simp only [vK, List.mem_cons, List.not_mem_nil, or_false] at hu
  rcases hu with rfl | rfl | rfl | rfl | rfl | rfl <;> rfl, by omega⟩
def eL : El Pp := ⟨51, 5, fun p => (lK p).toList, fun _ => rfl, fun x u hu => by
  simp only [lK, List.mem_cons, List.not_mem_nil, or_false] at hu
  rcases hu with rfl | rfl | rfl | rfl | rfl <;> rfl, by omega⟩
def eQ : El Pq := ⟨60, 3, fun p => (qK p).toList, fun _ => rfl, fun x u hu => by
  simp only [qK, List.mem_cons, List.not_mem_nil, or_false] at hu
  rcases hu with rfl | rfl | rfl <;> rfl, by omega⟩

section
variable {w w' : World} {B B' : Nat} {A : Option Addr}
theorem eS_at {xs : List (List UInt8)} (h : eS.Lies w B A xs) {j : Nat} (hj : j < xs.length) : ∃ g o, A = some ⟨g, o, none⟩ ∧ g < B ∧ w.cell? ⟨g, o + j, none⟩ = some (.string (str xs[j])) := by
  obtain ⟨g, o, e, hg, hc⟩ := h.at_ hj
  exact ⟨g, o, e, hg, by simpa [eS, tv] using hc 0 _ rfl⟩
theorem eI_at {xs : List Int} (h : eI.Lies w B A xs) {j : Nat} (hj : j < xs.length) : ∃ g o, A = some ⟨g, o, none⟩ ∧ g < B ∧ w.cell? ⟨g, o + j, none⟩ = some (.int .i64 xs[j]) := by
  obtain ⟨g, o, e, hg, hc⟩ := h.at_ hj
  exact ⟨g, o, e, hg, by simpa [eI] using hc 0 _ rfl⟩
theorem eR_at {xs : List Rs} (h : eR.Lies w B A xs) {j : Nat} (hj : j < xs.length) : ∃ g o, A = some ⟨g, o, none⟩ ∧ g < B ∧ w.cell? ⟨g, o + j, none⟩ = some (.slice xs[j].A xs[j].l.length xs[j].c) := by
  obtain ⟨g, o, e, hg, hc⟩ := h.at_ hj
  exact ⟨g, o, e, hg, by simpa [eR, rV] using hc 0 _ rfl⟩
theorem eV_at {xs : List Pv} (h : eV.Lies w B A xs) {j : Nat} (hj : j < xs.length) : ∃ g o, A = some ⟨g, o, none⟩ ∧ g < B ∧ w.cell? ⟨g, o + j * 6, none⟩ = some (.string (str xs[j].d.nm)) ∧ w.cell? ⟨g, o + j * 6 + 1, none⟩ = some (.int .u8 xs[j].d.kd) ∧ w.cell? ⟨g, o + j * 6 + 2, none⟩ = some (.int .i64 xs[j].d.n) ∧ w.cell? ⟨g, o + j * 6 + 3, none⟩ = some (.string (str xs[j].d.tn)) ∧ w.cell? ⟨g, o + j * 6 + 4, none⟩ = some (.int .i64 xs[j].d.wd) ∧ w.cell? ⟨g, o + j * 6 + 5, none⟩ = some (.slice xs[j].A xs[j].d.fs.length xs[j].c) := by
  obtain ⟨g, o, e, hg, hc⟩ := h.at_ hj
  exact ⟨g, o, e, hg, hc 0 _ rfl, hc 1 _ rfl, hc 2 _ rfl, hc 3 _ rfl, hc 4 _ rfl, hc 5 _ rfl⟩
theorem eL_at {xs : List Pp} (h : eL.Lies w B A xs) {j : Nat} (hj : j < xs.length) : ∃ g o, A = some ⟨g, o, none⟩ ∧ g < B ∧ w.cell? ⟨g, o + j * 5, none⟩ = some (.string (str xs[j].nm)) ∧ w.cell? ⟨g, o + j * 5 + 1, none⟩ = some (.int .i64 xs[j].fr) ∧ w.cell? ⟨g, o + j * 5 + 2, none⟩ = some (.int .i64 xs[j].tt) ∧ w.cell? ⟨g, o + j * 5 + 3, none⟩ = some (.slice xs[j].vA xs[j].vs.length xs[j].vc) ∧ w.cell? ⟨g, o + j * 5 + 4, none⟩ = some (.slice xs[j].sA xs[j].ss.length xs[j].sc) := by
  obtain ⟨g, o, e, hg, hc⟩ := h.at_ hj
  exact ⟨g, o, e, hg, hc 0 _ rfl, hc 1 _ rfl, hc 2 _ rfl, hc 3 _ rfl, hc 4 _ rfl⟩
theorem eQ_at {xs : List Pq} (h : eQ.Lies w B A xs) {j : Nat} (hj : j < xs.length) : ∃ g o, A = some ⟨g, o, none⟩ ∧ g < B ∧ w.cell? ⟨g, o + j * 3, none⟩ = some (.int .i64 xs[j].d.fn) ∧ w.cell? ⟨g, o + j * 3 + 1, none⟩ = some (.int .i64 xs[j].d.ln) ∧ w.cell? ⟨g, o + j * 3 + 2, none⟩ = some (.slice xs[j].A xs[j].d.sc.length xs[j].c) := by
  obtain ⟨g, o, e, hg, hc⟩ := h.at_ hj
  exact ⟨g, o, e, hg, hc 0 _ rfl, hc 1 _ rfl, hc 2 _ rfl⟩

/-- what a thing names lies -/
def VL (w : World) (B : Nat) (p : Pv) : Prop := eS.Lies w B p.A p.d.fs ∧ p.d.fs.length ≤ p.c ∧ (p.A = none → p.c = 0)
def RL (w : World) (B : Nat) (r : Rs) : Prop := SLies w B r.A r.l ∧ r.l.length ≤ r.c ∧ (r.A = none → r.c = 0)
structure PL (w : World) (B : Nat) (p : Pp) : Prop where
  v : eV.Lies w B p.vA p.vs
  vs : ∀ x ∈ p.vs, VL w B x
  vc : p.vs.length ≤ p.vc ∧ (p.vA = none → p.vc = 0)
  s : eR.Lies w B p.sA p.ss
  ss : ∀ x ∈ p.ss, RL w B x
  sc : p.ss.length ≤ p.sc ∧ (p.sA = none → p.sc = 0)
def QL (w : World) (B : Nat) (p : Pq) : Prop := eI.Lies w B p.A p.d.sc ∧ p.d.sc.length ≤ p.c ∧ (p.A = none → p.c = 0)
def TL (w : World) (B : Nat) (A : Option Addr) (l : List Pp) : Prop := eL.Lies w B A l ∧ ∀ p ∈ l, PL w B p
def UL (w : World) (B : Nat) (A : Option Addr) (l : List Pq) : Prop := eQ.Lies w B A l ∧ ∀ p ∈ l, QL w B p
theorem VL.below {p : Pv} (h : VL w B p) (hb : Below B w w') : VL w' B p := ⟨h.1.below hb, h.2⟩
theorem VL.more {p : Pv} (h : VL w B p) (hB : B ≤ B') : VL w B' p := ⟨h.1.more hB, h.2⟩
theorem RL.below {p : Rs} (h : RL w B p) (hb : Below B w w') : RL w' B p := ⟨h.1.below hb, h.2⟩
theorem RL.more {p : Rs} (h : RL w B p) (hB : B ≤ B') : RL w B' p := ⟨h.1.more hB, h.2⟩
theorem QL.below {p : Pq} (h : QL w B p) (hb : Below B w w') : QL w' B p := ⟨h.1.below hb, h.2⟩
theorem QL.more {p : Pq} (h : QL w B p) (hB : B ≤ B') : QL w B' p := ⟨h.1.more hB, h.2⟩
theorem PL.below {p : Pp} (h : PL w B p) (hb : Below B w w') : PL w' B p := ⟨h.v.below hb, fun x hx => (h.vs x hx).below hb, h.vc, h.s.below hb, fun x hx => (h.ss x hx).below hb, h.sc⟩
theorem PL.more {p : Pp} (h : PL w B p) (hB : B ≤ B') : PL w B' p := ⟨h.v.more hB, fun x hx => (h.vs x hx).more hB, h.vc, h.s.more hB, fun x hx => (h.ss x hx).more hB, h.sc⟩
theorem TL.below {l : List Pp} (h : TL w B A l) (hb : Below B w w') : TL w' B A l := ⟨h.1.below hb, fun p hp => (h.2 p hp).below hb⟩
theorem TL.more {l : List Pp} (h : TL w B A l) (hB : B ≤ B') : TL w B' A l := ⟨h.1.more hB, fun p hp => (h.2 p hp).more hB⟩
theorem TL.next {l : List Pp} (h : TL w w.heap.size A l) (hb : Below w.heap.size w w') : TL w' w'.heap.size A l := (h.below hb).more hb.size
theorem UL.below {l : List Pq} (h : UL w B A l) (hb : Below B w w') : UL w' B A l := ⟨h.1.below hb, fun p hp => (h.2 p hp).below hb⟩
theorem UL.more {l : List Pq} (h : UL w B A l) (hB : B ≤ B') : UL w B' A l := ⟨h.1.more hB, fun p hp => (h.2 p hp).more hB⟩
theorem UL.next {l : List Pq} (h : UL w w.heap.size A l) (hb : Below w.heap.size w w') : UL w' w'.heap.size A l := (h.below hb).more hb.size

/-- the same in blocks of their types -/
def ePs : El Ps := ⟨56, 3, pC, pC_len, pC_one, by omega⟩
def eLc : El Lc := ⟨53, 2, cC, cC_len, cC_one, by omega⟩
def MnT (w : World) (p : Ps) : Prop := p.a.length ≤ p.c ∧ (p.A = none → p.c = 0) ∧ eLc.LiesT w p.A p.a
def VT (w : World) (p : Pv) : Prop := eS.LiesT w p.A p.d.fs ∧ p.d.fs.length ≤ p.c ∧ (p.A = none → p.c = 0)
def RT (w : World) (r : Rs) : Prop := (ePs.LiesT w r.A r.l ∧ ∀ p ∈ r.l, MnT w p) ∧ r.l.length ≤ r.c ∧ (r.A = none → r.c = 0)
structure PT (w : World) (p : Pp) : Prop where
  v : eV.LiesT w p.vA p.vs
  vs : ∀ x ∈ p.vs, VT w x
  vc : p.vs.length ≤ p.vc ∧ (p.vA = none → p.vc = 0)
  s : eR.LiesT w p.sA p.ss
  ss : ∀ x ∈ p.ss, RT w x
  sc : p.ss.length ≤ p.sc ∧ (p.sA = none → p.sc = 0)
def QT (w : World) (p : Pq) : Prop := eI.LiesT w p.A p.d.sc ∧ p.d.sc.length ≤ p.c ∧ (p.A = none → p.c = 0)
variable {T : TypeId}
theorem VT.vl {p : Pv} (h : VT w p) : VL w w.heap.size p := ⟨h.1.lies, h.2⟩
theorem RT.rl {p : Rs} (h : RT w p) : RL w w.heap.size p := ⟨⟨h.1.1.lies, fun p hp => ⟨(h.1.2 p hp).1, (h.1.2 p hp).2.1, (h.1.2 p hp).2.2.lies⟩⟩, h.2⟩
theorem PT.pl {p : Pp} (h : PT w p) : PL w w.heap.size p := ⟨h.v.lies, fun x hx => (h.vs x hx).vl, h.vc, h.s.lies, fun x hx => (h.ss x hx).rl, h.sc⟩
theorem QT.ql {p : Pq} (h : QT w p) : QL w w.heap.size p := ⟨h.1.lies, h.2⟩
theorem VT.but {p : Pv} (h : VT w p) (hb : ButT T w w') (hT : (9 : TypeId) ≠ T) : VT w' p := ⟨h.1.but hb hT, h.2⟩
theorem RT.but {p : Rs} (h : RT w p) (hb : ButT T w w') (hT : (56 : TypeId) ≠ T) (hT2 : (53 : TypeId) ≠ T) : RT w' p := ⟨⟨h.1.1.but hb hT, fun p hp => ⟨(h.1.2 p hp).1, (h.1.2 p hp).2.1, (h.1.2 p hp).2.2.but hb hT2⟩⟩, h.2⟩
theorem PT.but {p : Pp} (h : PT w p) (hb : ButT T w w') (h1 : (9 : TypeId) ≠ T) (h2 : (56 : TypeId) ≠ T) (h3 : (53 : TypeId) ≠ T) (h4 : (65 : TypeId) ≠ T) (h5 : (57 : TypeId) ≠ T) : PT w' p :=
  ⟨h.v.but hb h4, fun x hx => (h.vs x hx).but hb h1, h.vc, h.s.but hb h5, fun x hx => (h.ss x hx).but hb h2 h3, h.sc⟩
theorem QT.but {p : Pq} (h : QT w p) (hb : ButT T w w') (hT : (3 : TypeId) ≠ T) : QT w' p := ⟨h.1.but hb hT, h.2⟩
theorem VT.below {p : Pv} (h : VT w p) (hb : Below w.heap.size w w') : VT w' p := ⟨h.1.below hb, h.2⟩
theorem RT.below {p : Rs} (h : RT w p) (hb : Below w.heap.size w w') : RT w' p := h.but (T := 65) (.below hb) (by decide) (by decide)
theorem PT.below {p : Pp} (h : PT w p) (hb : Below w.heap.size w w') : PT w' p := h.but (T := 51) (.below hb) (by decide) (by decide) (by decide) (by decide) (by decide)
theorem QT.below {p : Pq} (h : QT w p) (hb : Below w.heap.size w w') : QT w' p := ⟨h.1.below hb, h.2⟩

/-- rows of the call's own, of things that lie in blocks of their types -/
def VO (w : World) (B : Nat) (v : Value) (l : List Vr) : Prop := ∃ ps : List Pv, ps.map Pv.d = l ∧ eV.Own w B v ps ∧ ∀ p ∈ ps, VT w p
def RO (w : World) (B : Nat) (v : Value) (l : List (List Sp)) : Prop := ∃ rs : List Rs, rs.map Rs.d = l ∧ eR.Own w B v rs ∧ ∀ r ∈ rs, RT w r
def PO (w : World) (B : Nat) (v : Value) (l : List Plc) : Prop := ∃ ps : List Pp, ps.map Pp.d = l ∧ eL.Own w B v ps ∧ ∀ p ∈ ps, PT w p
def QO (w : World) (B : Nat) (v : Value) (l : List Pnt) : Prop := ∃ ps : List Pq, ps.map Pq.d = l ∧ eQ.Own w B v ps ∧ ∀ p ∈ ps, QT w p
theorem VO.nil (w : World) (B : Nat) : VO w B (.slice none 0 0) [] := ⟨[], rfl, El.Own.nil _ _, fun p hp => absurd hp (by simp)⟩
theorem RO.nil (w : World) (B : Nat) : RO w B (.slice none 0 0) [] := ⟨[], rfl, El.Own.nil _ _, fun p hp => absurd hp (by simp)⟩
theorem PO.nil (w : World) (B : Nat) : PO w B (.slice none 0 0) [] := ⟨[], rfl, El.Own.nil _ _, fun p hp => absurd hp (by simp)⟩
theorem QO.nil (w : World) (B : Nat) : QO w B (.slice none 0 0) [] := ⟨[], rfl, El.Own.nil _ _, fun p hp => absurd hp (by simp)⟩
theorem VO.below {v : Value} {l : List Vr} (h : VO w B v l) (hb : Below w.heap.size w w') : VO w' B v l := by
  obtain ⟨ps, e, ho, hm⟩ := h
  exact ⟨ps, e, ho.below hb, fun p hp => (hm p hp).below hb⟩
theorem RO.below {v : Value} {l : List (List Sp)} (h : RO w B v l) (hb : Below w.heap.size w w') : RO w' B v l := by
  obtain ⟨ps, e, ho, hm⟩ := h
  exact ⟨ps, e, ho.below hb, fun p hp => (hm p hp).below hb⟩
theorem PO.below {v : Value} {l : List Plc} (h : PO w B v l) (hb : Below w.heap.size w w') : PO w' B v l := by
  obtain ⟨ps, e, ho, hm⟩ := h
  exact ⟨ps, e, ho.below hb, fun p hp => (hm p hp).below hb⟩
theorem QO.below {v : Value} {l : List Pnt} (h : QO w B v l) (hb : Below w.heap.size w w') : QO w' B v l := by
  obtain ⟨ps, e, ho, hm⟩ := h
  exact ⟨ps, e, ho.below hb, fun p hp => (hm p hp).below hb⟩
theorem VO.base {v : Value} {l : List Vr} (h : VO w B v l) (hB : B' ≤ B) : VO w B' v l := by
  obtain ⟨ps, e, ho, hm⟩ := h
  exact ⟨ps, e, ho.base hB, hm⟩
theorem RO.base {v : Value} {l : List (List Sp)} (h : RO w B v l) (hB : B' ≤ B) : RO w B' v l := by
  obtain ⟨ps, e, ho, hm⟩ := h
  exact ⟨ps, e, ho.base hB, hm⟩
theorem PO.base {v : Value} {l : List Plc} (h : PO w B v l) (hB : B' ≤ B) : PO w B' v l := by
  obtain ⟨ps, e, ho, hm⟩ := h
  exact ⟨ps, e, ho.base hB, hm⟩
theorem QO.base {v : Value} {l : List Pnt} (h : QO w B v l) (hB : B' ≤ B) : QO w B' v l := by
  obtain ⟨ps, e, ho, hm⟩ := h
  exact ⟨ps, e, ho.base hB, hm⟩
theorem PO.form {v : Value} {l : List Plc} (h : PO w B v l) : ∃ A c ps, v = .slice A ps.length c ∧ ps.map Pp.d = l ∧ ps.length ≤ c ∧ (A = none → c = 0) ∧ TL w w.heap.size A ps := by
  obtain ⟨ps, e, ho, hm⟩ := h
  obtain ⟨A, c, e1, h1, h2, h3⟩ := ho.form
  exact ⟨A, c, ps, e1, e, h1, h2, h3.lies, fun p hp => (hm p hp).pl⟩
theorem QO.form {v : Value} {l : List Pnt} (h : QO w B v l) : ∃ A c ps, v = .slice A ps.length c ∧ ps.map Pq.d = l ∧ ps.length ≤ c ∧ (A = none → c = 0) ∧ UL w w.heap.size A ps := by
  obtain ⟨ps, e, ho, hm⟩ := h
  obtain ⟨A, c, e1, h1, h2, h3⟩ := ho.form
  exact ⟨A, c, ps, e1, e, h1, h2, h3.lies, fun p hp => (hm p hp).ql⟩
theorem rt_of_own {v : Value} {l : List Sp} (h : SpOwn w B v l) : ∃ r : Rs, v = rV r ∧ r.d = l ∧ RT w r := by
  obtain ⟨ps, e, ho, hm⟩ := h
  have ho' : ePs.Own w B v ps := ho
  obtain ⟨A, c, rfl, h1, h2, h3⟩ := ho'.form
  refine ⟨⟨ps, A, c⟩, rfl, e, ⟨h3, fun p hp => ?_⟩, h1, h2⟩
  have hq : eLc.Own w B (.slice p.A p.a.length p.c) p.a := hm p hp
  obtain ⟨A2, c2, q, k1, k2, k3⟩ := hq.form
  injection q with q1 _ q3
  unfold MnT
  rw [q1, q3]
  exact ⟨k1, k2, k3⟩
end
end Go.Proofs.YtjagjkogloggpaaGreat
