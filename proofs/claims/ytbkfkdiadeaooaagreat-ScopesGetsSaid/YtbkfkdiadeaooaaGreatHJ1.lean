/-
  Merged for a claim: O1S, E6A, L7A.
-/
import Derived.Test.YtbkfkdiadeaooaaGreatHJ0
import Derived.Test.YtbkfkdiadeaooaaGreatProg
import Derived.Laws.BytesString
import Derived.Laws.Cells
import Derived.Laws.Concat
import Derived.Deep.Slices
import Derived.Deep.Fields
namespace Go.Proofs.YtbkfkdiadeaooaaGreat
open Go.RowKit

def str (l : List UInt8) : ByteArray := ⟨l.toArray⟩

theorem fold_push : ∀ (l : List UInt8) (s : ByteArray), (l.map fun x => (x.toNat : Int)).foldl (fun r n => r.push (UInt8.ofNat n.toNat)) s = ⟨(s.data.toList ++ l).toArray⟩ := by
  intro l
  induction l with
  | nil => intro s; simp
  | cons x l ih =>
    intro s
    simp only [List.map_cons, List.foldl_cons]
    rw [ih]
    simp [ByteArray.push]

theorem conv_some (w : World) (a : Addr) (l : List UInt8) (c : Nat) (h : ∀ j (hj : j < l.length), w.cell? (a.add j) = some (.int .u8 (l[j].toNat : Int))) :
    (convert 22 9 (.slice (some a) l.length c)).run Tryz.prog w = .ok (.string (str l)) w := by
  rw [run_convert_bytes_string w 22 9 5 _ _ _ Tryz.underlying22 Tryz.underlying5 Tryz.underlying9]
  have hl := run_loadCells_list (P := Tryz.prog) w a ((l.map fun x => (x.toNat : Int)).map (Value.int .u8)) (by
    intro j v hv
    have hj : j < l.length := by
      have := (List.getElem?_eq_some_iff.1 hv).1; simpa using this
    have := h j hj
    simp [hj] at hv
    rw [this, hv])
  simp only [List.length_map] at hl
  rw [run_bytesToString w a l.length c _ hl, fold_push]
  simp [str]

theorem conv_any (w : World) (A : Option Addr) (l : List UInt8) (c : Nat) (h : ∀ j (hj : j < l.length), ∃ a, A = some a ∧ w.cell? (a.add j) = some (.int .u8 (l[j].toNat : Int))) :
    (convert 22 9 (.slice A l.length c)).run Tryz.prog w = .ok (.string (str l)) w := by
  rcases A with _ | a
  · have hl : l = [] := by
      rcases l with _ | ⟨x, l⟩
      · rfl
      · obtain ⟨a, h, _⟩ := h 0 (by simp)
        cases h
    subst hl
    rw [run_convert_bytes_string w 22 9 5 _ _ _ Tryz.underlying22 Tryz.underlying5 Tryz.underlying9]
    rfl
  · refine conv_some w a l c fun j hj => ?_
    obtain ⟨a', e, hc⟩ := h j hj
    cases e
    exact hc

theorem str_append (x y : List UInt8) : str x ++ str y = str (x ++ y) := ByteArray.mk_append_mk x y

end Go.Proofs.YtbkfkdiadeaooaaGreat

namespace Go.Proofs.YtbkfkdiadeaooaaGreat
open Go.ChangeShapes Go.WideShapes Go.ChangeAt Go.RowKit Go.Deep

theorem below_lnew (w : World) (o : Obj) : Below w.heap.size w (w.alloc o) := (Below.refl _ _).alloc (Nat.le_refl _) _
theorem below_lnew2 (w : World) (o o2 : Obj) : Below w.heap.size w ((w.alloc o).alloc o2) := (below_lnew w o).alloc (by simp) _
structure Lc where
  k : Int
  n : Int
  deriving DecidableEq
def Lc.Rng (r : Lc) : Prop := (0 ≤ r.k ∧ r.k < 256) ∧ -9223372036854775808 ≤ r.n ∧ r.n < 9223372036854775808
def cK (r : Lc) : Array Value := #[.int .u8 r.k, .int .i64 r.n]
def cC (r : Lc) : List Value := (cK r).toList
def cv (r : Lc) : Value := .agg (cK r)
theorem cC_len (r : Lc) : (cC r).length = 2 := rfl
theorem cC_one (i : Lc) : ∀ u ∈ cC i, u.oneCell' = true := by
  intro u hu
  simp only [cC, cK, List.mem_cons, List.not_mem_nil, or_false] at hu
  rcases hu with rfl | rfl <;> rfl
/-- a row's cells in a block -/
def LocAt (w : World) (g : Nat) (r : Lc) : Prop := w.heap[g]? = some (.cells (cK r) 74 (0, 0))
theorem locAt_new (w : World) (r : Lc) : LocAt (w.alloc (.cells (cK r) 74)) w.heap.size r := heap_alloc_new w _
theorem LocAt.below {w w' : World} {g B : Nat} {r : Lc} (h : LocAt w g r) (hb : Below B w w') (hg : g < B) : LocAt w' g r := (hb.block g hg).trans h
theorem LocAt.kd {w : World} {g : Nat} {r : Lc} (h : LocAt w g r) : w.cell? ⟨g, 0, none⟩ = some (.int .u8 r.k) := by
  unfold LocAt at h
  simp [World.cell?, h, cK]
theorem LocAt.nm {w : World} {g : Nat} {r : Lc} (h : LocAt w g r) : w.cell? ⟨g, 1, none⟩ = some (.int .i64 r.n) := by
  unfold LocAt at h
  simp [World.cell?, h, cK]
theorem LocAt.lt {w : World} {g : Nat} {r : Lc} (h : LocAt w g r) : g < w.heap.size := by
  rcases Nat.lt_or_ge g w.heap.size with h' | h'
  · exact h'
  · unfold LocAt at h; rw [Array.getElem?_eq_none h'] at h; cases h

/-- rows that lie at an address below a block's number -/
def LLies (w : World) (B : Nat) (A : Option Addr) (xs : List Lc) : Prop :=
  0 < xs.length → ∃ g o, A = some ⟨g, o, none⟩ ∧ g < B ∧ ∀ j (hj : j < xs.length) f u, (cC xs[j])[f]? = some u → w.cell? ⟨g, o + (j * 2 + f), none⟩ = some u
theorem LLies.nil (w : World) (B : Nat) (A : Option Addr) : LLies w B A [] := fun h => absurd h (by simp)
theorem LLies.below {w w' : World} {B : Nat} {A : Option Addr} {xs : List Lc} (h : LLies w B A xs) (hb : Below B w w') : LLies w' B A xs := fun hl => by
  obtain ⟨g, o, e, hg, hc⟩ := h hl
  exact ⟨g, o, e, hg, fun j hj f u hu => (hb.cell hg).trans (hc j hj f u hu)⟩
theorem LLies.more {w : World} {B B' : Nat} {A : Option Addr} {xs : List Lc} (h : LLies w B A xs) (hB : B ≤ B') : LLies w B' A xs := fun hl => by
  obtain ⟨g, o, e, hg, hc⟩ := h hl
  exact ⟨g, o, e, by omega, hc⟩
theorem LLies.next {w w' : World} {A : Option Addr} {xs : List Lc} (h : LLies w w.heap.size A xs) (hb : Below w.heap.size w w') : LLies w' w'.heap.size A xs := (h.below hb).more hb.size
theorem LLies.at_ {w : World} {B : Nat} {A : Option Addr} {xs : List Lc} (h : LLies w B A xs) {j : Nat} (hj : j < xs.length) :
    ∃ g o, A = some ⟨g, o, none⟩ ∧ g < B ∧ w.cell? ⟨g, o + j * 2, none⟩ = some (.int .u8 xs[j].k) ∧ w.cell? ⟨g, o + j * 2 + 1, none⟩ = some (.int .i64 xs[j].n) := by
  obtain ⟨g, o, e, hg, hc⟩ := h (by omega)
  have c := fun f u hu => hc j hj f u hu
  simp only [← Nat.add_assoc] at c
  exact ⟨g, o, e, hg, c 0 _ rfl, c 1 _ rfl⟩
theorem LLies.drop {w : World} {B : Nat} {g o : Nat} {xs : List Lc} (h : LLies w B (some ⟨g, o, none⟩) xs) (k : Nat) : LLies w B (some ⟨g, o + k * 2, none⟩) (xs.drop k) := fun hl => by
  have hl' : k < xs.length := by simp at hl; omega
  obtain ⟨g', o', e, hg, hc⟩ := h (by omega)
  cases e
  refine ⟨g, _, rfl, hg, fun j hj f u hu => ?_⟩
  have hj' : k + j < xs.length := by simp at hj; omega
  have := hc (k + j) hj' f u (by simpa using hu)
  rw [show o + k * 2 + (j * 2 + f) = o + ((k + j) * 2 + f) by omega]
  exact this

theorem loc_info : (Tryz.prog.info? 74).map (fun i => (i.zero, i.size, i.bytes)) = some (some (.agg #[.int .u8 0, .int .i64 0]), 2, 16) := by kernel_rfl
/-- a row of rows of the call's own -/
def LOwn (w : World) (B : Nat) (v : Value) (xs : List Lc) : Prop := w.ownsRow B 74 2 v xs.length (xs.flatMap cC)
theorem LOwn.nil (w : World) (B : Nat) : LOwn w B (.slice none 0 0) [] := World.ownsRow_nil w B _ _
theorem lflat_len (xs : List Lc) : (xs.flatMap cC).length = xs.length * 2 := by
  induction xs with
  | nil => rfl
  | cons x xs ih => simp [cC_len, ih]; omega
theorem lflat_get : ∀ (xs : List Lc) (j f : Nat) (hj : j < xs.length) (_ : f < 2), (xs.flatMap cC)[j * 2 + f]? = (cC xs[j])[f]?
  | x :: xs, 0, f, _, hf => by
    rw [List.flatMap_cons, List.getElem?_append_left (by rw [cC_len]; omega)]
    simp
  | x :: xs, j + 1, f, hj, hf => by
    rw [List.flatMap_cons, List.getElem?_append_right (by rw [cC_len]; omega), cC_len, show (j + 1) * 2 + f - 2 = j * 2 + f by omega, lflat_get xs j f (by simpa using hj) hf]
    simp
theorem lflat_one (xs : List Lc) : ∀ u ∈ xs.flatMap cC, u.oneCell' = true := by
  intro u hu
  obtain ⟨x, _, h⟩ := List.mem_flatMap.1 hu
  exact cC_one x u h
theorem LOwn.lt {w : World} {B : Nat} {v : Value} {xs : List Lc} (h : LOwn w B v xs) : ∀ k, v.ownBlock = some k → B ≤ k ∧ k < w.heap.size := by
  intro k e
  rcases h.2 with ⟨rfl, _⟩ | ⟨g, cap, cur, rfl, hB, hh, _⟩
  · cases e
  · injection e with e
    subst e
    rcases Nat.lt_or_ge g w.heap.size with h' | h'
    · exact ⟨hB, h'⟩
    · rw [Array.getElem?_eq_none h'] at hh; cases hh
theorem LOwn.form {w : World} {B : Nat} {v : Value} {xs : List Lc} (h : LOwn w B v xs) : ∃ A c, v = .slice A xs.length c ∧ xs.length ≤ c ∧ (A = none → c = 0) ∧ LLies w w.heap.size A xs := by
  have h' := h
  have hlt := h.lt
  rcases h.2 with ⟨rfl, h0⟩ | ⟨g, cap, cur, rfl, hg, hh, hn, _, hsz, ht⟩
  · have : xs = [] := List.eq_nil_of_length_eq_zero h0
    subst this
    exact ⟨none, 0, rfl, Nat.le_refl _, fun _ => rfl, fun h => absurd h (by simp)⟩
  · refine ⟨_, cap, rfl, hn, fun e => (by cases e), fun _ => ⟨g, 0, rfl, (hlt g rfl).2, fun j hj f u hu => ?_⟩⟩
    have hf : f < 2 := by have := (List.getElem?_eq_some_iff.1 hu).1; simpa [cC_len] using this
    have := World.ownsRow.cellAt h' (j * 2 + f) (by omega)
    rw [Nat.zero_add, this, lflat_get xs j f hj hf, hu]
theorem LOwn.formN {w : World} {B : Nat} {v : Value} {xs : List Lc} (h : LOwn w B v xs) : ∃ A n c, v = .slice A n c ∧ Hid (xs.length = n) ∧ n ≤ c ∧ (A = none → c = 0) ∧ LLies w w.heap.size A xs := by
  obtain ⟨A, c, e, h1, h2, h3⟩ := h.form
  exact ⟨A, xs.length, c, e, rfl, h1, h2, h3⟩
theorem LOwn.kept {w w' : World} {B : Nat} {v : Value} {xs : List Lc} (h : LOwn w B v xs) (hk : ∀ k, v.ownBlock = some k → w'.heap[k]? = w.heap[k]?) : LOwn w' B v xs := by
  refine ⟨h.1, ?_⟩
  rcases h.2 with h0 | ⟨g, cap, cur, rfl, hg, hh, r⟩
  · exact .inl h0
  · exact .inr ⟨g, cap, cur, rfl, hg, (hk g rfl).trans hh, r⟩
theorem LOwn.below {w w' : World} {B : Nat} {v : Value} {xs : List Lc} (h : LOwn w B v xs) (hb : Below w.heap.size w w') : LOwn w' B v xs := h.kept fun k e => hb.block k (h.lt k e).2
theorem LOwn.base {w : World} {B B' : Nat} {v : Value} {xs : List Lc} (h : LOwn w B v xs) (hB : B' ≤ B) : LOwn w B' v xs := by
  refine ⟨h.1, ?_⟩
  rcases h.2 with h0 | ⟨g, cap, cur, rfl, hg, r⟩
  · exact .inl h0
  · exact .inr ⟨g, cap, cur, rfl, Nat.le_trans hB hg, r⟩
theorem below_lgrown {B : Nat} {w w1 w2 : World} {v : Value} {l : List Lc} (hb : Below B w w1) (hg : w1.grownBy w2 v.ownBlock) (ho : LOwn w1 B v l) (hB : B ≤ w1.heap.size) : Below B w w2 :=
  hb.grown hg hB fun k hk => (ho.lt k hk).1
section
variable {ops : Array Oper} {rest : List Oper} {o : Oper} {a : Act} {Q : Exit → Act → World → Prop}
/-- append of rows that lie somewhere onto such a row -/
theorem app_locs (w : World) (hgd : o.guard = none) (s x : Operand) (ho : o.op = .call { callee := .builtin .append, args := #[s, x], argTypes := #[75, 75] })
    (B : Nat) (v : Value) (xs : List Lc) (hs : a.eval s = v) (hown : LOwn w B v xs) (A : Option Addr) (c : Nat) (C : Nat) (ys : List Lc) (hx : a.eval x = .slice A ys.length c) (hc0 : A = none → c = 0) (hy : LLies w C A ys)
    (hn : xs.length + ys.length ≤ 1099511627776) (hB : B ≤ w.heap.size) (h : ∀ v' w', LOwn w' B v' (xs ++ ys) → w.grownBy w' v.ownBlock → wpList Tryz.prog ops Q rest (a.put o.dst v') w') : wpList Tryz.prog ops Q (o :: rest) a w := by
  obtain ⟨i0, hi0, hz0, hz1, hz2⟩ := info_parts loc_info
  rcases A with _ | ad
  · have h0 : ys = [] := by
      rcases ys with _ | ⟨y, ys⟩
      · rfl
      · obtain ⟨g, o, e, _⟩ := hy (by simp)
        cases e
    subst h0
    obtain rfl := hc0 rfl
    have hrun := run_append_owned_none (P := Tryz.prog) w B 75 o.type 74 i0 2 Tryz.underlying75 hi0 v xs.length (xs.flatMap cC) hown
    refine wpList_plain hgd fun K hK' => ?_
    have := h v w (by simpa using hown) (World.grownBy.refl _ _)
    unfold Oper.wp execOp
    simp only [ho, resolve, invoke, builtin, Sem.run_bind, Sem.run_pure, Result.andThen_ok, List.map_toArray, List.map_cons, List.map_nil, hs, hx, List.length_nil, hrun]
    exact hK' _ _ this
  · refine wpList_append_own w hgd s x 75 ho B 74 i0 _ 2 16 Tryz.underlying75 hi0 hz0 hz1 hz2 rfl (by omega) v xs.length (xs.flatMap cC) hs hown ad ys.length c (ys.flatMap cC) hx (by rw [lflat_len]) ?_ (lflat_one ys)
      (by simp only [maxLen]; omega) (by omega) hB fun v' w' h1 h2 _ => h v' w' ?_ h2
    · intro j u hu
      have hj : j < ys.length * 2 := by have := (List.getElem?_eq_some_iff.1 hu).1; rwa [lflat_len] at this
      obtain ⟨g', o', e, _, hc⟩ := hy (by omega)
      cases e
      have hj2 : j / 2 < ys.length := by omega
      have e1 := lflat_get ys (j / 2) (j % 2) hj2 (by omega)
      rw [show j / 2 * 2 + j % 2 = j by omega, hu] at e1
      have := hc (j / 2) hj2 (j % 2) u e1.symm
      rw [add_zero_off]
      rwa [show o' + (j / 2 * 2 + j % 2) = o' + j by omega] at this
    · show w'.ownsRow B _ 2 v' (xs ++ ys).length ((xs ++ ys).flatMap cC)
      rw [List.flatMap_append, List.length_append]
      simpa using h1
/-- append of one row onto such a row -/
theorem app_loc (w : World) (hgd : o.guard = none) (s x : Operand) (ho : o.op = .call { callee := .builtin .append, args := #[s, x], argTypes := #[75, 75] })
    (B : Nat) (v : Value) (xs : List Lc) (hs : a.eval s = v) (hown : LOwn w B v xs) (g c : Nat) (y : Lc) (hx : a.eval x = .slice (some ⟨g, 0, none⟩) 1 c) (hy : LocAt w g y)
    (hn : xs.length ≤ 1000000) (hB : B ≤ w.heap.size) (h : ∀ v' w', LOwn w' B v' (xs ++ [y]) → w.grownBy w' v.ownBlock → wpList Tryz.prog ops Q rest (a.put o.dst v') w') : wpList Tryz.prog ops Q (o :: rest) a w := by
  refine app_locs w hgd s x ho B v xs hs hown (some ⟨g, 0, none⟩) c (g + 1) [y] hx (fun e => by cases e) (fun _ => ⟨g, 0, rfl, Nat.lt_succ_self g, fun j hj f u hu => ?_⟩) (by simp; omega) hB h
  obtain rfl : j = 0 := by simp at hj; omega
  unfold LocAt at hy
  simp only [World.cell?, hy]
  simpa [cC] using hu
end
end Go.Proofs.YtbkfkdiadeaooaaGreat

namespace Go.Proofs.YtbkfkdiadeaooaaGreat
open Go.ChangeShapes Go.WideShapes Go.ChangeAt Go.RowKit Go.Deep

/-- a span, and where its steps lie -/
structure Ps where
  f : Int
  t : Int
  a : List Lc
  A : Option Addr
  c : Nat
/-- what it says -/
structure Sp where
  f : Int
  t : Int
  a : List Lc
  deriving DecidableEq
def Ps.sp (p : Ps) : Sp := ⟨p.f, p.t, p.a⟩
def pK (p : Ps) : Array Value := #[.int .i64 p.f, .int .i64 p.t, .slice p.A p.a.length p.c]
def pC (p : Ps) : List Value := (pK p).toList
def pv (p : Ps) : Value := .agg (pK p)
theorem pC_len (p : Ps) : (pC p).length = 3 := rfl
theorem pC_one (i : Ps) : ∀ u ∈ pC i, u.oneCell' = true := by
  intro u hu
  simp only [pC, pK, List.mem_cons, List.not_mem_nil, or_false] at hu
  rcases hu with rfl | rfl | rfl <;> rfl
/-- a span's cells in a block -/
def SpAt (w : World) (g : Nat) (r : Ps) : Prop := w.heap[g]? = some (.cells (pK r) 77 (0, 0))
theorem spAt_new (w : World) (r : Ps) : SpAt (w.alloc (.cells (pK r) 77)) w.heap.size r := heap_alloc_new w _
section
variable {w w' : World} {g B : Nat} {r : Ps}
theorem SpAt.below (h : SpAt w g r) (hb : Below B w w') (hg : g < B) : SpAt w' g r := (hb.block g hg).trans h
theorem SpAt.lt (h : SpAt w g r) : g < w.heap.size := by
  rcases Nat.lt_or_ge g w.heap.size with h' | h'
  · exact h'
  · unfold SpAt at h; rw [Array.getElem?_eq_none h'] at h; cases h
theorem SpAt.fr (h : SpAt w g r) : w.cell? ⟨g, 0, none⟩ = some (.int .i64 r.f) := by
  unfold SpAt at h
  simp [World.cell?, h, pK]
theorem SpAt.to (h : SpAt w g r) : w.cell? ⟨g, 1, none⟩ = some (.int .i64 r.t) := by
  unfold SpAt at h
  simp [World.cell?, h, pK]
theorem SpAt.at_ (h : SpAt w g r) : w.cell? ⟨g, 2, none⟩ = some (.slice r.A r.a.length r.c) := by
  unfold SpAt at h
  simp [World.cell?, h, pK]
theorem SpAt.frozen (h : SpAt w g r) (j : Nat) : w.frozen? ⟨g, j, none⟩ = false := by
  unfold SpAt at h
  simp [World.frozen?, h]
theorem SpAt.setAll (h : SpAt w g r) (p : Ps) : SpAt (((w.setCell ⟨g, 0, none⟩ (.int .i64 p.f)).setCell ⟨g, 1, none⟩ (.int .i64 p.t)).setCell ⟨g, 2, none⟩ (.slice p.A p.a.length p.c)) g p := by
  unfold SpAt at h ⊢
  simp only [World.setCell, Array.getElem?_modify, h]
  simp [pK]
theorem SpAt.setA (h : SpAt w g r) (A : Option Addr) (c : Nat) : SpAt (w.setCell ⟨g, 2, none⟩ (.slice A r.a.length c)) g { r with A := A, c := c } := by
  unfold SpAt at h ⊢
  simp only [World.setCell, Array.getElem?_modify, h]
  simp [pK]
end

/-- spans that lie at an address below a block's number -/
def PLies (w : World) (B : Nat) (A : Option Addr) (xs : List Ps) : Prop :=
  0 < xs.length → ∃ g o, A = some ⟨g, o, none⟩ ∧ g < B ∧ ∀ j (hj : j < xs.length) f u, (pC xs[j])[f]? = some u → w.cell? ⟨g, o + (j * 3 + f), none⟩ = some u
theorem PLies.nil (w : World) (B : Nat) (A : Option Addr) : PLies w B A [] := fun h => absurd h (by simp)
theorem PLies.below {w w' : World} {B : Nat} {A : Option Addr} {xs : List Ps} (h : PLies w B A xs) (hb : Below B w w') : PLies w' B A xs := fun hl => by
  obtain ⟨g, o, e, hg, hc⟩ := h hl
  exact ⟨g, o, e, hg, fun j hj f u hu => (hb.cell hg).trans (hc j hj f u hu)⟩
theorem PLies.more {w : World} {B B' : Nat} {A : Option Addr} {xs : List Ps} (h : PLies w B A xs) (hB : B ≤ B') : PLies w B' A xs := fun hl => by
  obtain ⟨g, o, e, hg, hc⟩ := h hl
  exact ⟨g, o, e, by omega, hc⟩
theorem PLies.next {w w' : World} {A : Option Addr} {xs : List Ps} (h : PLies w w.heap.size A xs) (hb : Below w.heap.size w w') : PLies w' w'.heap.size A xs := (h.below hb).more hb.size
theorem PLies.at_ {w : World} {B : Nat} {A : Option Addr} {xs : List Ps} (h : PLies w B A xs) {j : Nat} (hj : j < xs.length) :
    ∃ g o, A = some ⟨g, o, none⟩ ∧ g < B ∧ w.cell? ⟨g, o + j * 3, none⟩ = some (.int .i64 xs[j].f) ∧ w.cell? ⟨g, o + j * 3 + 1, none⟩ = some (.int .i64 xs[j].t) ∧ w.cell? ⟨g, o + j * 3 + 2, none⟩ = some (.slice xs[j].A xs[j].a.length xs[j].c) := by
  obtain ⟨g, o, e, hg, hc⟩ := h (by omega)
  have c := fun f u hu => hc j hj f u hu
  simp only [← Nat.add_assoc] at c
  exact ⟨g, o, e, hg, c 0 _ rfl, c 1 _ rfl, c 2 _ rfl⟩
theorem PLies.drop {w : World} {B : Nat} {g o : Nat} {xs : List Ps} (h : PLies w B (some ⟨g, o, none⟩) xs) (k : Nat) : PLies w B (some ⟨g, o + k * 3, none⟩) (xs.drop k) := fun hl => by
  have hl' : k < xs.length := by simp at hl; omega
  obtain ⟨g', o', e, hg, hc⟩ := h (by omega)
  cases e
  refine ⟨g, _, rfl, hg, fun j hj f u hu => ?_⟩
  have hj' : k + j < xs.length := by simp at hj; omega
  have := hc (k + j) hj' f u (by simpa using hu)
  rw [show o + k * 3 + (j * 3 + f) = o + ((k + j) * 3 + f) by omega]
  exact this

theorem span_info : (Tryz.prog.info? 77).map (fun i => (i.zero, i.size, i.bytes)) = some (some (.agg #[.int .i64 0, .int .i64 0, .slice none 0 0]), 3, 40) := by kernel_rfl
/-- a row of rows of the call's own -/
def POwn (w : World) (B : Nat) (v : Value) (xs : List Ps) : Prop := w.ownsRow B 77 3 v xs.length (xs.flatMap pC)
theorem POwn.nil (w : World) (B : Nat) : POwn w B (.slice none 0 0) [] := World.ownsRow_nil w B _ _
theorem pflat_len (xs : List Ps) : (xs.flatMap pC).length = xs.length * 3 := by
  induction xs with
  | nil => rfl
  | cons x xs ih => simp [pC_len, ih]; omega
theorem pflat_get : ∀ (xs : List Ps) (j f : Nat) (hj : j < xs.length) (_ : f < 3), (xs.flatMap pC)[j * 3 + f]? = (pC xs[j])[f]?
  | x :: xs, 0, f, _, hf => by
    rw [List.flatMap_cons, List.getElem?_append_left (by rw [pC_len]; omega)]
    simp
  | x :: xs, j + 1, f, hj, hf => by
    rw [List.flatMap_cons, List.getElem?_append_right (by rw [pC_len]; omega), pC_len, show (j + 1) * 3 + f - 3 = j * 3 + f by omega, pflat_get xs j f (by simpa using hj) hf]
    simp
theorem pflat_one (xs : List Ps) : ∀ u ∈ xs.flatMap pC, u.oneCell' = true := by
  intro u hu
  obtain ⟨x, _, h⟩ := List.mem_flatMap.1 hu
  exact pC_one x u h
theorem POwn.lt {w : World} {B : Nat} {v : Value} {xs : List Ps} (h : POwn w B v xs) : ∀ k, v.ownBlock = some k → B ≤ k ∧ k < w.heap.size := by
  intro k e
  rcases h.2 with ⟨rfl, _⟩ | ⟨g, cap, cur, rfl, hB, hh, _⟩
  · cases e
  · injection e with e
    subst e
    rcases Nat.lt_or_ge g w.heap.size with h' | h'
    · exact ⟨hB, h'⟩
    · rw [Array.getElem?_eq_none h'] at hh; cases hh
theorem POwn.form {w : World} {B : Nat} {v : Value} {xs : List Ps} (h : POwn w B v xs) : ∃ A c, v = .slice A xs.length c ∧ xs.length ≤ c ∧ (A = none → c = 0) ∧ PLies w w.heap.size A xs := by
  have h' := h
  have hlt := h.lt
  rcases h.2 with ⟨rfl, h0⟩ | ⟨g, cap, cur, rfl, hg, hh, hn, _, hsz, ht⟩
  · have : xs = [] := List.eq_nil_of_length_eq_zero h0
    subst this
    exact ⟨none, 0, rfl, Nat.le_refl _, fun _ => rfl, fun h => absurd h (by simp)⟩
  · refine ⟨_, cap, rfl, hn, fun e => (by cases e), fun _ => ⟨g, 0, rfl, (hlt g rfl).2, fun j hj f u hu => ?_⟩⟩
    have hf : f < 3 := by have := (List.getElem?_eq_some_iff.1 hu).1; simpa [pC_len] using this
    have := World.ownsRow.cellAt h' (j * 3 + f) (by omega)
    rw [Nat.zero_add, this, pflat_get xs j f hj hf, hu]
theorem POwn.formN {w : World} {B : Nat} {v : Value} {xs : List Ps} (h : POwn w B v xs) : ∃ A n c, v = .slice A n c ∧ Hid (xs.length = n) ∧ n ≤ c ∧ (A = none → c = 0) ∧ PLies w w.heap.size A xs := by
  obtain ⟨A, c, e, h1, h2, h3⟩ := h.form
  exact ⟨A, xs.length, c, e, rfl, h1, h2, h3⟩
theorem POwn.kept {w w' : World} {B : Nat} {v : Value} {xs : List Ps} (h : POwn w B v xs) (hk : ∀ k, v.ownBlock = some k → w'.heap[k]? = w.heap[k]?) : POwn w' B v xs := by
  refine ⟨h.1, ?_⟩
  rcases h.2 with h0 | ⟨g, cap, cur, rfl, hg, hh, r⟩
  · exact .inl h0
  · exact .inr ⟨g, cap, cur, rfl, hg, (hk g rfl).trans hh, r⟩
theorem POwn.below {w w' : World} {B : Nat} {v : Value} {xs : List Ps} (h : POwn w B v xs) (hb : Below w.heap.size w w') : POwn w' B v xs := h.kept fun k e => hb.block k (h.lt k e).2
theorem POwn.base {w : World} {B B' : Nat} {v : Value} {xs : List Ps} (h : POwn w B v xs) (hB : B' ≤ B) : POwn w B' v xs := by
  refine ⟨h.1, ?_⟩
  rcases h.2 with h0 | ⟨g, cap, cur, rfl, hg, r⟩
  · exact .inl h0
  · exact .inr ⟨g, cap, cur, rfl, Nat.le_trans hB hg, r⟩
section
variable {ops : Array Oper} {rest : List Oper} {o : Oper} {a : Act} {Q : Exit → Act → World → Prop}
/-- append of rows that lie somewhere onto such a row -/
theorem app_spans (w : World) (hgd : o.guard = none) (s x : Operand) (ho : o.op = .call { callee := .builtin .append, args := #[s, x], argTypes := #[69, 69] })
    (B : Nat) (v : Value) (xs : List Ps) (hs : a.eval s = v) (hown : POwn w B v xs) (A : Option Addr) (c : Nat) (C : Nat) (ys : List Ps) (hx : a.eval x = .slice A ys.length c) (hc0 : A = none → c = 0) (hy : PLies w C A ys)
    (hn : xs.length + ys.length ≤ 1099511627776) (hB : B ≤ w.heap.size) (h : ∀ v' w', POwn w' B v' (xs ++ ys) → w.grownBy w' v.ownBlock → wpList Tryz.prog ops Q rest (a.put o.dst v') w') : wpList Tryz.prog ops Q (o :: rest) a w := by
  obtain ⟨i0, hi0, hz0, hz1, hz2⟩ := info_parts span_info
  rcases A with _ | ad
  · have h0 : ys = [] := by
      rcases ys with _ | ⟨y, ys⟩
      · rfl
      · obtain ⟨g, o, e, _⟩ := hy (by simp)
        cases e
    subst h0
    obtain rfl := hc0 rfl
    have hrun := run_append_owned_none (P := Tryz.prog) w B 69 o.type 77 i0 3 Tryz.underlying69 hi0 v xs.length (xs.flatMap pC) hown
    refine wpList_plain hgd fun K hK' => ?_
    have := h v w (by simpa using hown) (World.grownBy.refl _ _)
    unfold Oper.wp execOp
    simp only [ho, resolve, invoke, builtin, Sem.run_bind, Sem.run_pure, Result.andThen_ok, List.map_toArray, List.map_cons, List.map_nil, hs, hx, List.length_nil, hrun]
    exact hK' _ _ this
  · refine wpList_append_own w hgd s x 69 ho B 77 i0 _ 3 40 Tryz.underlying69 hi0 hz0 hz1 hz2 rfl (by omega) v xs.length (xs.flatMap pC) hs hown ad ys.length c (ys.flatMap pC) hx (by rw [pflat_len]) ?_ (pflat_one ys)
      (by simp only [maxLen]; omega) (by omega) hB fun v' w' h1 h2 _ => h v' w' ?_ h2
    · intro j u hu
      have hj : j < ys.length * 3 := by have := (List.getElem?_eq_some_iff.1 hu).1; rwa [pflat_len] at this
      obtain ⟨g', o', e, _, hc⟩ := hy (by omega)
      cases e
      have hj2 : j / 3 < ys.length := by omega
      have e1 := pflat_get ys (j / 3) (j % 3) hj2 (by omega)
      rw [show j / 3 * 3 + j % 3 = j by omega, hu] at e1
      have := hc (j / 3) hj2 (j % 3) u e1.symm
      rw [add_zero_off]
      rwa [show o' + (j / 3 * 3 + j % 3) = o' + j by omega] at this
    · show w'.ownsRow B _ 3 v' (xs ++ ys).length ((xs ++ ys).flatMap pC)
      rw [List.flatMap_append, List.length_append]
      simpa using h1
/-- append of one row onto such a row -/
theorem app_span (w : World) (hgd : o.guard = none) (s x : Operand) (ho : o.op = .call { callee := .builtin .append, args := #[s, x], argTypes := #[69, 69] })
    (B : Nat) (v : Value) (xs : List Ps) (hs : a.eval s = v) (hown : POwn w B v xs) (g c : Nat) (y : Ps) (hx : a.eval x = .slice (some ⟨g, 0, none⟩) 1 c) (hy : SpAt w g y)
    (hn : xs.length ≤ 1000000) (hB : B ≤ w.heap.size) (h : ∀ v' w', POwn w' B v' (xs ++ [y]) → w.grownBy w' v.ownBlock → wpList Tryz.prog ops Q rest (a.put o.dst v') w') : wpList Tryz.prog ops Q (o :: rest) a w := by
  refine app_spans w hgd s x ho B v xs hs hown (some ⟨g, 0, none⟩) c (g + 1) [y] hx (fun e => by cases e) (fun _ => ⟨g, 0, rfl, Nat.lt_succ_self g, fun j hj f u hu => ?_⟩) (by simp; omega) hB h
  obtain rfl : j = 0 := by simp at hj; omega
  unfold SpAt at hy
  simp only [World.cell?, hy]
  simpa [pC] using hu
end

/-- where a span's steps lie -/
def Mn (w : World) (B : Nat) (p : Ps) : Prop := p.a.length ≤ p.c ∧ (p.A = none → p.c = 0) ∧ LLies w B p.A p.a
theorem Mn.below {w w' : World} {B : Nat} {p : Ps} (h : Mn w B p) (hb : Below B w w') : Mn w' B p := ⟨h.1, h.2.1, h.2.2.below hb⟩
theorem Mn.more {w : World} {B B' : Nat} {p : Ps} (h : Mn w B p) (hB : B ≤ B') : Mn w B' p := ⟨h.1, h.2.1, h.2.2.more hB⟩
/-- spans that lie, steps and all -/
def SLies (w : World) (B : Nat) (A : Option Addr) (ps : List Ps) : Prop := PLies w B A ps ∧ ∀ p ∈ ps, Mn w B p
theorem SLies.nil (w : World) (B : Nat) (A : Option Addr) : SLies w B A [] := ⟨PLies.nil _ _ _, fun p hp => absurd hp (by simp)⟩
theorem SLies.below {w w' : World} {B : Nat} {A : Option Addr} {ps : List Ps} (h : SLies w B A ps) (hb : Below B w w') : SLies w' B A ps := ⟨h.1.below hb, fun p hp => (h.2 p hp).below hb⟩
theorem SLies.more {w : World} {B B' : Nat} {A : Option Addr} {ps : List Ps} (h : SLies w B A ps) (hB : B ≤ B') : SLies w B' A ps := ⟨h.1.more hB, fun p hp => (h.2 p hp).more hB⟩
theorem SLies.next {w w' : World} {A : Option Addr} {ps : List Ps} (h : SLies w w.heap.size A ps) (hb : Below w.heap.size w w') : SLies w' w'.heap.size A ps := (h.below hb).more hb.size
/-- a row of the call's own, of spans whose steps are its own too -/
def SpOwn (w : World) (B : Nat) (v : Value) (xs : List Sp) : Prop := ∃ ps : List Ps, ps.map Ps.sp = xs ∧ POwn w B v ps ∧ ∀ p ∈ ps, LOwn w B (.slice p.A p.a.length p.c) p.a
theorem SpOwn.nil (w : World) (B : Nat) : SpOwn w B (.slice none 0 0) [] := ⟨[], rfl, POwn.nil _ _, fun p hp => absurd hp (by simp)⟩
theorem lown_mn {w : World} {B : Nat} {p : Ps} (h : LOwn w B (.slice p.A p.a.length p.c) p.a) : Mn w w.heap.size p := by
  obtain ⟨A, c, e, h1, h2, h3⟩ := h.form
  injection e with e1 _ e3
  unfold Mn
  rw [e1, e3]
  exact ⟨h1, h2, h3⟩
theorem SpOwn.form {w : World} {B : Nat} {v : Value} {xs : List Sp} (h : SpOwn w B v xs) : ∃ A c ps, v = .slice A ps.length c ∧ ps.map Ps.sp = xs ∧ ps.length ≤ c ∧ (A = none → c = 0) ∧ SLies w w.heap.size A ps := by
  obtain ⟨ps, e, ho, hm⟩ := h
  obtain ⟨A, c, e1, h1, h2, h3⟩ := ho.form
  exact ⟨A, c, ps, e1, e, h1, h2, h3, fun p hp => lown_mn (hm p hp)⟩
theorem SpOwn.below {w w' : World} {B : Nat} {v : Value} {xs : List Sp} (h : SpOwn w B v xs) (hb : Below w.heap.size w w') : SpOwn w' B v xs := by
  obtain ⟨ps, e, ho, hm⟩ := h
  exact ⟨ps, e, ho.below hb, fun p hp => (hm p hp).below hb⟩
theorem SpOwn.base {w : World} {B B' : Nat} {v : Value} {xs : List Sp} (h : SpOwn w B v xs) (hB : B' ≤ B) : SpOwn w B' v xs := by
  obtain ⟨ps, e, ho, hm⟩ := h
  exact ⟨ps, e, ho.base hB, fun p hp => (hm p hp).base hB⟩
theorem SpOwn.lt {w : World} {B : Nat} {v : Value} {xs : List Sp} (h : SpOwn w B v xs) : ∀ k, v.ownBlock = some k → B ≤ k ∧ k < w.heap.size := by
  obtain ⟨ps, _, ho, _⟩ := h
  exact ho.lt
end Go.Proofs.YtbkfkdiadeaooaaGreat
