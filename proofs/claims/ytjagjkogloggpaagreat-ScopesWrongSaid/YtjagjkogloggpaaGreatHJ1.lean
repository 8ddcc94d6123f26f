/-
  Merged for a claim: O1S, E6A.
-/
import Derived.Test.YtjagjkogloggpaaGreatHJ0
import Derived.Test.YtjagjkogloggpaaGreatProg
import Derived.Laws.BytesString
import Derived.Laws.Cells
import Derived.Laws.Concat
import Derived.Deep.Slices
import Derived.Deep.Fields
namespace Go.Proofs.YtjagjkogloggpaaGreat
open Go.RowKit

def str (l : List UInt8) : ByteArray := ⟨l.toArray⟩

theorem fold_push : ∀ (l : List UInt8) (s : ByteArray), (l.map fun x => (x.toNat : Int)).foldl (fun r n => r.push (UInt8.ofNat n.toNat)) s = ⟨(s.data.toList ++ l).toArray⟩ := by
  intro l
  induction l with
  | nil => intro s; simp
  | cons x l ih =>
    intro s
    simp only [List.map_cons, List.foldl_cons]
    rw [ih]
    simp [ByteArray.push]

theorem conv_some (w : World) (a : Addr) (l : List UInt8) (c : Nat) (h : ∀ j (hj : j < l.length), w.cell? (a.add j) = some (.int .u8 (l[j].toNat : Int))) :
    (convert 22 9 (.slice (some a) l.length c)).run Tryz.prog w = .ok (.string (str l)) w := by
  rw [run_convert_bytes_string w 22 9 5 _ _ _ Tryz.underlying22 Tryz.underlying5 Tryz.underlying9]
  have hl := run_loadCells_list (P := Tryz.prog) w a ((l.map fun x => (x.toNat : Int)).map (Value.int .u8)) (by
    intro j v hv
    have hj : j < l.length := by
      have := (List.getElem?_eq_some_iff.1 hv).1; simpa using this
    have := h j hj
    simp [hj] at hv
    rw [this, hv])
  simp only [List.length_map] at hl
  rw [run_bytesToString w a l.length c _ hl, fold_push]
  simp [str]

theorem conv_any (w : World) (A : Option Addr) (l : List UInt8) (c : Nat) (h : ∀ j (hj : j < l.length), ∃ a, A = some a ∧ w.cell? (a.add j) = some (.int .u8 (l[j].toNat : Int))) :
    (convert 22 9 (.slice A l.length c)).run Tryz.prog w = .ok (.string (str l)) w := by
  rcases A with _ | a
  · have hl : l = [] := by
      rcases l with _ | ⟨x, l⟩
      · rfl
      · obtain ⟨a, h, _⟩ := h 0 (by simp)
        cases h
    subst hl
    rw [run_convert_bytes_string w 22 9 5 _ _ _ Tryz.underlying22 Tryz.underlying5 Tryz.underlying9]
    rfl
  · refine conv_some w a l c fun j hj => ?_
    obtain ⟨a', e, hc⟩ := h j hj
    cases e
    exact hc

theorem str_append (x y : List UInt8) : str x ++ str y = str (x ++ y) := ByteArray.mk_append_mk x y

end Go.Proofs.YtjagjkogloggpaaGreat

namespace Go.Proofs.YtjagjkogloggpaaGreat
open Go.ChangeShapes Go.WideShapes Go.ChangeAt Go.RowKit Go.Deep

theorem below_lnew (w : World) (o : Obj) : Below w.heap.size w (w.alloc o) := (Below.refl _ _).alloc (Nat.le_refl _) _
theorem below_lnew2 (w : World) (o o2 : Obj) : Below w.heap.size w ((w.alloc o).alloc o2) := (below_lnew w o).alloc (by simp) _
structure Lc where
  k : Int
  n : Int
  deriving DecidableEq
def Lc.Rng (r : Lc) : Prop := (0 ≤ r.k ∧ r.k < 256) ∧ -9223372036854775808 ≤ r.n ∧ r.n < 9223372036854775808
def cK (r : Lc) : Array Value := #[.int .u8 r.k, .int .i64 r.n]
def cC (r : Lc) : List Value := (cK r).toList
def cv (r : Lc) : Value := .agg (cK r)
theorem cC_len (r : Lc) : (cC r).length = 2 := rfl
theorem cC_one (i : Lc) : ∀ u ∈ cC i, u.oneCell' = true := by
  intro u hu
  simp only [cC, cK, List.mem_cons, List.not_mem_nil, or_false] at hu
  rcases hu with rfl | rfl <;> rfl
/-- a row's cells in a block -/
def LocAt (w : World) (g : Nat) (r : Lc) : Prop := w.heap[g]? = some (.cells (cK r) 53 (0, 0))
theorem locAt_new (w : World) (r : Lc) : LocAt (w.alloc (.cells (cK r) 53)) w.heap.size r := heap_alloc_new w _
theorem LocAt.below {w w' : World} {g B : Nat} {r : Lc} (h : LocAt w g r) (hb : Below B w w') (hg : g < B) : LocAt w' g r := (hb.block g hg).trans h
theorem LocAt.kd {w : World} {g : Nat} {r : Lc} (h : LocAt w g r) : w.cell? ⟨g, 0, none⟩ = some (.int .u8 r.k) := by
  unfold LocAt at h
  simp [World.cell?, h, cK]
theorem LocAt.nm {w : World} {g : Nat} {r : Lc} (h : LocAt w g r) : w.cell? ⟨g, 1, none⟩ = some (.int .i64 r.n) := by
  unfold LocAt at h
  simp [World.cell?, h, cK]
theorem LocAt.lt {w : World} {g : Nat} {r : Lc} (h : LocAt w g r) : g < w.heap.size := by
  rcases Nat.lt_or_ge g w.heap.size with h' | h'
  · exact h'
  · unfold LocAt at h; rw [Array.getElem?_eq_none h'] at h; cases h

/-- rows that lie at an address below a block's number -/
def LLies (w : World) (B : Nat) (A : Option Addr) (xs : List Lc) : Prop :=
  0 < xs.length → ∃ g o, A = some ⟨g, o, none⟩ ∧ g < B ∧ ∀ j (hj : j < xs.length) f u, (cC xs[j])[f]? = some u → w.cell? ⟨g, o + (j * 2 + f), none⟩ = some u
theorem LLies.nil (w : World) (B : Nat) (A : Option Addr) : LLies w B A [] := fun h => absurd h (by simp)
theorem LLies.below {w w' : World} {B : Nat} {A : Option Addr} {xs : List Lc} (h : LLies w B A xs) (hb : Below B w w') : LLies w' B A xs := fun hl => by
  obtain ⟨g, o, e, hg, hc⟩ := h hl
  exact ⟨g, o, e, hg, fun j hj f u hu => (hb.cell hg).trans (hc j hj f u hu)⟩
theorem LLies.more {w : World} {B B' : Nat} {A : Option Addr} {xs : List Lc} (h : LLies w B A xs) (hB : B ≤ B') : LLies w B' A xs := fun hl => by
  obtain ⟨g, o, e, hg, hc⟩ := h hl
  exact ⟨g, o, e, by omega, hc⟩
theorem LLies.next {w w' : World} {A : Option Addr} {xs : List Lc} (h : LLies w w.heap.size A xs) (hb : Below w.heap.size w w') : LLies w' w'.heap.size A xs := (h.below hb).more hb.size
theorem LLies.at_ {w : World} {B : Nat} {A : Option Addr} {xs : List Lc} (h : LLies w B A xs) {j : Nat} (hj : j < xs.length) :
    ∃ g o, A = some ⟨g, o, none⟩ ∧ g < B ∧ w.cell? ⟨g, o + j * 2, none⟩ = some (.int .u8 xs[j].k) ∧ w.cell? ⟨g, o + j * 2 + 1, none⟩ = some (.int .i64 xs[j].n) := by
  obtain ⟨g, o, e, hg, hc⟩ := h (by omega)
  have c := fun f u hu => hc j hj f u hu
  simp only [← Nat.add_assoc] at c
  exact ⟨g, o, e, hg, c 0 _ rfl, c 1 _ rfl⟩
theorem LLies.drop {w : World} {B : Nat} {g o : Nat} {xs : List Lc} (h : LLies w B (some ⟨g, o, none⟩) xs) (k : Nat) : LLies w B (some ⟨g, o + k * 2, none⟩) (xs.drop k) := fun hl => by
  have hl' : k < xs.length := by simp at hl; omega
  obtain ⟨g', o', e, hg, hc⟩ := h (by omega)
  cases e
  refine ⟨g, _, rfl, hg, fun j hj f u hu => ?_⟩
  have hj' : k + j < xs.length := by simp at hj; omega
  have := hc (k + j) hj' f u (by simpa using hu)
  rw [show o + k * 2 + (j * 2 + f) = o + ((k + j) * 2 + f) by omega]
  exact this

theorem open_loc_cells {H : Type} {enc : TypeId × Value → H} {P : Program} {w : World} {base : Nat} {spare : Nat → Bool} {held : Bool} {e : TypeId} {f0 f1 : Field} {fuel : Nat} {cs : List Value} {x : DataW H × List MemPlace}
    (hs : P.underlying e = some (.struct #[f0, f1])) (hone : oneCellFields P #[f0, f1] = true) (hC : P.cellsOf e = 2)
    (t0 : P.underlying f0.type = some (.int .u8)) (t1 : P.underlying f1.type = some (.int .i64))
    (h : DataW.trod enc P w base spare held fuel e cs = some x) : ∃ y : Lc, y.Rng ∧ cs = cC y := by
  obtain ⟨ys, n, _, _, hlen, hyl, hf⟩ := DataW.trod_struct hs h
  rw [hC] at hlen
  have hsome : ∀ j, j < 2 → ∃ z, ys[j]? = some z := fun j hj => ⟨_, List.getElem?_eq_getElem (by rw [hyl]; exact hj)⟩
  match cs, hlen with
  | [v0, v1], _ =>
    obtain ⟨o0, k0⟩ := hone_of hone 0 f0 rfl
    have g0 := hf 0 f0 rfl
    obtain ⟨z0, e0⟩ := hsome 0 (by omega)
    rw [e0, o0, k0] at g0
    obtain ⟨a0, c0, _, q0⟩ := DataW.trod_int t0 g0
    obtain ⟨o1, k1⟩ := hone_of hone 1 f1 rfl
    have g1 := hf 1 f1 rfl
    obtain ⟨z1, e1⟩ := hsome 1 (by omega)
    rw [e1, o1, k1] at g1
    obtain ⟨a1, c1, _, q1⟩ := DataW.trod_int t1 g1
    simp at c0 c1
    have b0 := bounds_u8 q0
    have b1 := bounds_i64 q1
    refine ⟨⟨a0, a1⟩, ⟨⟨(by simp only; omega), (by simp only; omega)⟩, (by simp only; omega), (by simp only; omega)⟩, ?_⟩
    simp only [cC, cK, c0, c1]

theorem open_locs {H : Type} {enc : TypeId × Value → H} {P : Program} {W : World} {base : Nat} {t e : TypeId} {f0 f1 : Field} {v : Value} {d : DataW H} {p : List MemPlace}
    (ht : P.underlying t = some (.slice e)) (hs : P.underlying e = some (.struct #[f0, f1])) (hone : oneCellFields P #[f0, f1] = true) (hC : P.cellsOf e = 2)
    (t0 : P.underlying f0.type = some (.int .u8)) (t1 : P.underlying f1.type = some (.int .i64))
    (hv : Value.okWide P W .any base t v) (h : DataW.Trod enc P W 0 (fun _ => true) true t v d p) :
    ∃ (A : Option Addr) (c : Nat) (xs : List Lc), v = .slice A xs.length c ∧ xs.length ≤ c ∧ (∀ x ∈ xs, x.Rng) ∧ LLies W W.heap.size A xs ∧ (A = none → c = 0) := by
  obtain ⟨a0, len, cap, rfl⟩ := okWide_slice ht hv
  obtain ⟨fuel, hf⟩ := h
  rcases open_slice ht hf with ⟨hcs, _⟩ | ⟨a, len', cap', m, n, D, Pl, hcs, _, hl, _, hm, _, hel⟩
  · simp [Value.cells] at hcs
    obtain ⟨rfl, rfl, rfl⟩ := hcs
    exact ⟨none, 0, [], rfl, Nat.le_refl _, fun x hx => absurd hx (by simp), fun h => absurd h (by simp), fun _ => rfl⟩
  · simp [Value.cells] at hcs
    obtain ⟨rfl, rfl, rfl⟩ := hcs
    simp only [if_true] at hm
    subst hm
    have each : ∀ i, i < len → ∃ y : Lc, y.Rng ∧ ∀ f u, (cC y)[f]? = some u → W.cell? (a.add (i * 2 + f)) = some u := fun i hi => by
      obtain ⟨cs', hc, htr⟩ := hel i (by omega)
      obtain ⟨y, hy, rfl⟩ := open_loc_cells hs hone hC t0 t1 htr
      obtain ⟨_, hcl, hat⟩ := World.cells?_some hc
      refine ⟨y, hy, fun f u hu => ?_⟩
      have hf5 : f < 2 := by have := (List.getElem?_eq_some_iff.1 hu).1; simpa [cC_len] using this
      have := hat f (by rw [hC]; exact hf5)
      rw [hu, hC, add_add] at this
      exact this
    have hlist : ∀ k, k ≤ len → ∃ xs : List Lc, xs.length = k ∧ (∀ x ∈ xs, x.Rng) ∧ ∀ j (hj : j < xs.length) f u, (cC xs[j])[f]? = some u → W.cell? (a.add (j * 2 + f)) = some u := by
      intro k
      induction k with
      | zero => intro _; exact ⟨[], rfl, fun x hx => absurd hx (by simp), fun j hj => absurd hj (by simp)⟩
      | succ k ih =>
        intro hk
        obtain ⟨xs, hx, hr, hall⟩ := ih (by omega)
        obtain ⟨y, hyr, hy⟩ := each k (by omega)
        refine ⟨xs ++ [y], by simp [hx], fun x hx => ?_, fun j hj f u hu => ?_⟩
        · rcases List.mem_append.1 hx with h | h
          · exact hr x h
          · simp at h; subst h; exact hyr
        · by_cases hjk : j < xs.length
          · rw [List.getElem_append_left hjk] at hu
            exact hall j hjk f u hu
          · have : j = xs.length := by simp at hj; omega
            subst this
            simp at hu
            rw [hx]
            exact hy f u hu
    obtain ⟨xs, hx, hr, hall⟩ := hlist len (Nat.le_refl _)
    subst hx
    refine ⟨some a, _, xs, rfl, hl, hr, fun hp => ?_, fun h => by cases h⟩
    have h0 := hall 0 hp 0 _ rfl
    obtain ⟨b, off, spot⟩ := a
    have hspot : spot = none := by simpa [Addr.add] using World.cell?_spot h0
    subst hspot
    refine ⟨b, off, rfl, ?_, fun j hj f u hu => ?_⟩
    · have := World.block_lt_of_cell? W _ h0
      simpa [Addr.add] using this
    · have := hall j hj f u hu
      rw [add_zero_off] at this
      exact this

theorem loc_info : (Tryz.prog.info? 53).map (fun i => (i.zero, i.size, i.bytes)) = some (some (.agg #[.int .u8 0, .int .i64 0]), 2, 16) := by kernel_rfl
/-- a row of rows of the call's own -/
def LOwn (w : World) (B : Nat) (v : Value) (xs : List Lc) : Prop := w.ownsRow B 53 2 v xs.length (xs.flatMap cC)
theorem LOwn.nil (w : World) (B : Nat) : LOwn w B (.slice none 0 0) [] := World.ownsRow_nil w B _ _
theorem lflat_len (xs : List Lc) : (xs.flatMap cC).length = xs.length * 2 := by
  induction xs with
  | nil => rfl
  | cons x xs ih => simp [cC_len, ih]; omega
theorem lflat_get : ∀ (xs : List Lc) (j f : Nat) (hj : j < xs.length) (_ : f < 2), (xs.flatMap cC)[j * 2 + f]? = (cC xs[j])[f]?
  | x :: xs, 0, f, _, hf => by
    rw [List.flatMap_cons, List.getElem?_append_left (by rw [cC_len]; omega)]
    simp
  | x :: xs, j + 1, f, hj, hf => by
    rw [List.flatMap_cons, List.getElem?_append_right (by rw [cC_len]; omega), cC_len, show (j + 1) * 2 + f - 2 = j * 2 + f by omega, lflat_get xs j f (by simpa using hj) hf]
    simp
theorem lflat_one (xs : List Lc) : ∀ u ∈ xs.flatMap cC, u.oneCell' = true := by
  intro u hu
  obtain ⟨x, _, h⟩ := List.mem_flatMap.1 hu
  exact cC_one x u h
theorem LOwn.lt {w : World} {B : Nat} {v : Value} {xs : List Lc} (h : LOwn w B v xs) : ∀ k, v.ownBlock = some k → B ≤ k ∧ k < w.heap.size := by
  intro k e
  rcases h.2 with ⟨rfl, _⟩ | ⟨g, cap, cur, rfl, hB, hh, _⟩
  · cases e
  · injection e with e
    subst e
    rcases Nat.lt_or_ge g w.heap.size with h' | h'
    · exact ⟨hB, h'⟩
    · rw [Array.getElem?_eq_none h'] at hh; cases hh
theorem LOwn.form {w : World} {B : Nat} {v : Value} {xs : List Lc} (h : LOwn w B v xs) : ∃ A c, v = .slice A xs.length c ∧ xs.length ≤ c ∧ (A = none → c = 0) ∧ LLies w w.heap.size A xs := by
  have h' := h
  have hlt := h.lt
  rcases h.2 with ⟨rfl, h0⟩ | ⟨g, cap, cur, rfl, hg, hh, hn, _, hsz, ht⟩
  · have : xs = [] := List.eq_nil_of_length_eq_zero h0
    subst this
    exact ⟨none, 0, rfl, Nat.le_refl _, fun _ => rfl, fun h => absurd h (by simp)⟩
  · refine ⟨_, cap, rfl, hn, fun e => (by cases e), fun _ => ⟨g, 0, rfl, (hlt g rfl).2, fun j hj f u hu => ?_⟩⟩
    have hf : f < 2 := by have := (List.getElem?_eq_some_iff.1 hu).1; simpa [cC_len] using this
    have := World.ownsRow.cellAt h' (j * 2 + f) (by omega)
    rw [Nat.zero_add, this, lflat_get xs j f hj hf, hu]
theorem LOwn.formN {w : World} {B : Nat} {v : Value} {xs : List Lc} (h : LOwn w B v xs) : ∃ A n c, v = .slice A n c ∧ Hid (xs.length = n) ∧ n ≤ c ∧ (A = none → c = 0) ∧ LLies w w.heap.size A xs := by
  obtain ⟨A, c, e, h1, h2, h3⟩ := h.form
  exact ⟨A, xs.length, c, e, rfl, h1, h2, h3⟩
theorem LOwn.kept {w w' : World} {B : Nat} {v : Value} {xs : List Lc} (h : LOwn w B v xs) (hk : ∀ k, v.ownBlock = some k → w'.heap[k]? = w.heap[k]?) : LOwn w' B v xs := by
  refine ⟨h.1, ?_⟩
  rcases h.2 with h0 | ⟨g, cap, cur, rfl, hg, hh, r⟩
  · exact .inl h0
  · exact .inr ⟨g, cap, cur, rfl, hg, (hk g rfl).trans hh, r⟩
theorem LOwn.below {w w' : World} {B : Nat} {v : Value} {xs : List Lc} (h : LOwn w B v xs) (hb : Below w.heap.size w w') : LOwn w' B v xs := h.kept fun k e => hb.block k (h.lt k e).2
theorem LOwn.base {w : World} {B B' : Nat} {v : Value} {xs : List Lc} (h : LOwn w B v xs) (hB : B' ≤ B) : LOwn w B' v xs := by
  refine ⟨h.1, ?_⟩
  rcases h.2 with h0 | ⟨g, cap, cur, rfl, hg, r⟩
  · exact .inl h0
  · exact .inr ⟨g, cap, cur, rfl, Nat.le_trans hB hg, r⟩
theorem below_lgrown {B : Nat} {w w1 w2 : World} {v : Value} {l : List Lc} (hb : Below B w w1) (hg : w1.grownBy w2 v.ownBlock) (ho : LOwn w1 B v l) (hB : B ≤ w1.heap.size) : Below B w w2 :=
  hb.grown hg hB fun k hk => (ho.lt k hk).1
/-- an empty row that is not nil -/
theorem lown_empty (w : World) : LOwn (w.alloc (.cells #[] 53)) w.heap.size (.slice (some ⟨w.heap.size, 0, none⟩) 0 0) [] := by
  refine ⟨rfl, .inr ⟨w.heap.size, 0, _, rfl, Nat.le_refl _, heap_alloc_new w _, Nat.le_refl _, by simp [maxLen], by simp, by simp⟩⟩

section
variable {ops : Array Oper} {rest : List Oper} {o : Oper} {a : Act} {Q : Exit → Act → World → Prop}
/-- append of rows that lie somewhere onto such a row -/
theorem app_locs (w : World) (hgd : o.guard = none) (s x : Operand) (ho : o.op = .call { callee := .builtin .append, args := #[s, x], argTypes := #[54, 54] })
    (B : Nat) (v : Value) (xs : List Lc) (hs : a.eval s = v) (hown : LOwn w B v xs) (A : Option Addr) (c : Nat) (C : Nat) (ys : List Lc) (hx : a.eval x = .slice A ys.length c) (hc0 : A = none → c = 0) (hy : LLies w C A ys)
    (hn : xs.length + ys.length ≤ 1099511627776) (hB : B ≤ w.heap.size) (h : ∀ v' w', LOwn w' B v' (xs ++ ys) → w.grownBy w' v.ownBlock → wpList Tryz.prog ops Q rest (a.put o.dst v') w') : wpList Tryz.prog ops Q (o :: rest) a w := by
  obtain ⟨i0, hi0, hz0, hz1, hz2⟩ := info_parts loc_info
  rcases A with _ | ad
  · have h0 : ys = [] := by
      rcases ys with _ | ⟨y, ys⟩
      · rfl
      · obtain ⟨g, o, e, _⟩ := hy (by simp)
        cases e
    subst h0
    obtain rfl := hc0 rfl
    have hrun := run_append_owned_none (P := Tryz.prog) w B 54 o.type 53 i0 2 Tryz.underlying54 hi0 v xs.length (xs.flatMap cC) hown
    refine wpList_plain hgd fun K hK' => ?_
    have := h v w (by simpa using hown) (World.grownBy.refl _ _)
    unfold Oper.wp execOp
    simp only [ho, resolve, invoke, builtin, Sem.run_bind, Sem.run_pure, Result.andThen_ok, List.map_toArray, List.map_cons, List.map_nil, hs, hx, List.length_nil, hrun]
    exact hK' _ _ this
  · refine wpList_append_own w hgd s x 54 ho B 53 i0 _ 2 16 Tryz.underlying54 hi0 hz0 hz1 hz2 rfl (by omega) v xs.length (xs.flatMap cC) hs hown ad ys.length c (ys.flatMap cC) hx (by rw [lflat_len]) ?_ (lflat_one ys)
      (by simp only [maxLen]; omega) (by omega) hB fun v' w' h1 h2 _ => h v' w' ?_ h2
    · intro j u hu
      have hj : j < ys.length * 2 := by have := (List.getElem?_eq_some_iff.1 hu).1; rwa [lflat_len] at this
      obtain ⟨g', o', e, _, hc⟩ := hy (by omega)
      cases e
      have hj2 : j / 2 < ys.length := by omega
      have e1 := lflat_get ys (j / 2) (j % 2) hj2 (by omega)
      rw [show j / 2 * 2 + j % 2 = j by omega, hu] at e1
      have := hc (j / 2) hj2 (j % 2) u e1.symm
      rw [add_zero_off]
      rwa [show o' + (j / 2 * 2 + j % 2) = o' + j by omega] at this
    · show w'.ownsRow B _ 2 v' (xs ++ ys).length ((xs ++ ys).flatMap cC)
      rw [List.flatMap_append, List.length_append]
      simpa using h1
/-- append of one row onto such a row -/
theorem app_loc (w : World) (hgd : o.guard = none) (s x : Operand) (ho : o.op = .call { callee := .builtin .append, args := #[s, x], argTypes := #[54, 54] })
    (B : Nat) (v : Value) (xs : List Lc) (hs : a.eval s = v) (hown : LOwn w B v xs) (g c : Nat) (y : Lc) (hx : a.eval x = .slice (some ⟨g, 0, none⟩) 1 c) (hy : LocAt w g y)
    (hn : xs.length ≤ 1000000) (hB : B ≤ w.heap.size) (h : ∀ v' w', LOwn w' B v' (xs ++ [y]) → w.grownBy w' v.ownBlock → wpList Tryz.prog ops Q rest (a.put o.dst v') w') : wpList Tryz.prog ops Q (o :: rest) a w := by
  refine app_locs w hgd s x ho B v xs hs hown (some ⟨g, 0, none⟩) c (g + 1) [y] hx (fun e => by cases e) (fun _ => ⟨g, 0, rfl, Nat.lt_succ_self g, fun j hj f u hu => ?_⟩) (by simp; omega) hB h
  obtain rfl : j = 0 := by simp at hj; omega
  unfold LocAt at hy
  simp only [World.cell?, hy]
  simpa [cC] using hu
end
end Go.Proofs.YtjagjkogloggpaaGreat
