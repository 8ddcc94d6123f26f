/-
  Merged for a claim: C4A, C4B, KV, R0A, KJ, C4C, C4D, C4E, C4F, C4G.
-/
import Derived.Test.YtdnpoeegefkoiaaGreatFJ3
import Derived.Test.YtdnpoeegefkoiaaGreatFJ0
import Derived.Maps.AppendAt
import Derived.Deep.QuietTactic
import Derived.BigQuiet
import Derived.WalkKit
import Derived.Lib.Hide
import Derived.WalkLawsBesides
import Derived.WalkSpells
import Derived.RegionTactic
import Derived.Deep.RegionHeld3
import Derived.IntWalk
import Derived.StillTailTactics
namespace Go.Proofs.YtdnpoeegefkoiaaGreat
open Go.RowKit

structure Mc where
  code : List UInt8
  pc : Int
  regs : List Int
  words : List Int
  input : List Int
  out : List Int
  how : Int
  num : Int

def rg (m : Mc) (r : Int) : Int := m.regs.getD r.toNat 0
def wd (m : Mc) (a : Int) : Int := m.words.getD a.toNat 0
def setR (m : Mc) (r x : Int) : Mc := { m with regs := m.regs.set r.toNat x }
def setW (m : Mc) (a x : Int) : Mc := { m with words := m.words.set a.toNat x }
def hasW (m : Mc) (a : Int) : Bool := decide (0 ≤ a ∧ a < (m.words.length : Int))

def truthV (b : Bool) : Int := if b then 1 else 0
/-- what two numbers come to -/
def binV (o a b : Int) : Int :=
  if o = 1 then wrap64 (a + b) else if o = 2 then wrap64 (a - b) else if o = 3 then wrap64 (a * b)
  else if o = 4 then wrap64 (a.tdiv b) else if o = 5 then a.tmod b
  else if o = 6 then truthV (a == b) else if o = 7 then truthV (a != b) else if o = 8 then truthV (decide (a < b)) else if o = 9 then truthV (decide (a ≤ b))
  else if o = 10 then truthV (decide (b < a)) else if o = 11 then truthV (decide (b ≤ a)) else if o = 12 then bits .and .i64 a b else bits .or .i64 a b
def unV (o a : Int) : Int := if o = 14 then wrap64 (1 - a) else wrap64 (-a)

/-- how an instruction ends the run, if it does: how, and a halt's number -/
def endOf (m : Mc) (i : Ins) : Option (Int × Int) :=
  if i.k = 4 then (if (i.o = 4 ∨ i.o = 5) ∧ rg m i.t = 0 then some (2, 0) else none)
  else if i.k = 6 ∨ i.k = 7 then (if hasW m (wrap64 (rg m i.s + i.n)) then none else some (6, 0))
  else if i.k = 8 ∨ i.k = 9 then
    (if rg m i.t < 0 ∨ i.m ≤ rg m i.t then some (3, 0) else if hasW m (wrap64 (wrap64 (rg m i.s + i.n) + rg m i.t)) then none else some (6, 0))
  else if i.k = 12 then (if wrap64 (rg m 15 - 1) < 0 then some (7, 0) else if hasW m (wrap64 (rg m 15 - 1)) then none else some (6, 0))
  else if i.k = 13 then (if hasW m (rg m 15) then (if wd m (rg m 15) < 0 ∨ 16777216 ≤ wd m (rg m 15) then some (5, 0) else none) else some (6, 0))
  else if i.k = 14 then (if wrap64 (rg m 15 - i.n) < 0 then some (7, 0) else if (m.words.length : Int) < wrap64 (rg m 15 - i.n) then some (6, 0) else none)
  else if i.k = 15 then (if m.input = [] then some (4, 0) else none)
  else if i.k = 17 then some (1, rg m i.r)
  else if i.k = 18 then some (i.n, 0)
  else none

/-- what an instruction turns, but the place; next: the place behind it -/
def turnOf (m : Mc) (i : Ins) (next : Int) : Mc :=
  if i.k = 2 then setR m i.r i.n
  else if i.k = 3 then setR m i.r (rg m i.s)
  else if i.k = 4 then setR m i.r (binV i.o (rg m i.s) (rg m i.t))
  else if i.k = 5 then setR m i.r (unV i.o (rg m i.s))
  else if i.k = 6 then setR m i.r (wd m (wrap64 (rg m i.s + i.n)))
  else if i.k = 7 then setW m (wrap64 (rg m i.s + i.n)) (rg m i.r)
  else if i.k = 8 then setR m i.r (wd m (wrap64 (wrap64 (rg m i.s + i.n) + rg m i.t)))
  else if i.k = 9 then setW m (wrap64 (wrap64 (rg m i.s + i.n) + rg m i.t)) (rg m i.r)
  else if i.k = 12 then setR (setW m (wrap64 (rg m 15 - 1)) next) 15 (wrap64 (rg m 15 - 1))
  else if i.k = 13 then setR m 15 (rg m 15 + 1)
  else if i.k = 14 then setR m 15 (wrap64 (rg m 15 - i.n))
  else if i.k = 15 then { setR m i.r (m.input.headD 0) with input := m.input.tail }
  else if i.k = 16 then { m with out := m.out ++ [rg m i.r] }
  else m
/-- where the run goes on -/
def goOf (m : Mc) (i : Ins) (next : Int) : Int :=
  if i.k = 10 then i.n else if i.k = 11 then (if rg m i.r = 0 then i.n else next) else if i.k = 12 then i.n else if i.k = 13 then wd m (rg m 15) else next

/-- an instruction is done, of a machine that goes -/
def doM (m : Mc) : Mc :=
  if gE m.code m.pc = 0 then
    (match endOf m (gI m.code m.pc) with
    | some (h, n) => { m with how := h, num := n }
    | none => { turnOf m (gI m.code m.pc) (gN m.code m.pc) with pc := goOf m (gI m.code m.pc) (gN m.code m.pc) })
  else { m with how := 5, num := 0 }
def stepM (m : Mc) : Mc := if m.how = 0 then doM m else m
/-- so many are, at most; what is left of the fuel -/
def runM : Nat → Mc → Mc × Nat
  | 0, m => (m, 0)
  | n + 1, m => if m.how = 0 then runM n (doM m) else (m, n + 1)

theorem runM_stop {m : Mc} (h : m.how ≠ 0) : ∀ n, runM n m = (m, n)
  | 0 => rfl
  | n + 1 => by rw [runM, if_neg h]
theorem runM_left : ∀ (n : Nat) (m : Mc), (runM n m).1.how = 0 → (runM n m).2 = 0
  | 0, m, _ => rfl
  | n + 1, m, h => by
    rw [runM] at h ⊢
    split at h
    · rename_i h0
      rw [if_pos h0]
      exact runM_left n _ h
    · rename_i h0
      exact absurd h h0
/-- to run a and then b is to run a + b -/
theorem runM_add : ∀ (a b : Nat) (m : Mc), runM (a + b) m = ((runM b (runM a m).1).1, (runM a m).2 + (runM b (runM a m).1).2)
  | 0, b, m => by simp [runM]
  | a + 1, b, m => by
    by_cases h : m.how = 0
    · rw [show a + 1 + b = (a + b) + 1 by omega]
      simp only [runM, if_pos h]
      exact runM_add a b (doM m)
    · rw [runM_stop h, runM_stop h]
      simp only
      rw [runM_stop h]
theorem runM_le : ∀ (n : Nat) (m : Mc), (runM n m).2 ≤ n
  | 0, _ => Nat.le_refl _
  | n + 1, m => by
    rw [runM]
    split
    · have := runM_le n (doM m); omega
    · exact Nat.le_refl _

/-- what a machine keeps: 16 registers -/
theorem setR_len (m : Mc) (r x : Int) : (setR m r x).regs.length = m.regs.length := by simp [setR]
theorem ite_p {α : Type} {P : α → Prop} {c : Prop} [Decidable c] {a b : α} (ha : P a) (hb : P b) : P (if c then a else b) := by
  split
  · exact ha
  · exact hb
def sameHow (m m' : Mc) : Prop := m'.regs.length = m.regs.length ∧ m'.how = m.how ∧ m'.num = m.num ∧ m'.code = m.code ∧ m'.words.length = m.words.length ∧ m'.pc = m.pc ∧ m'.out.length ≤ m.out.length + 1 ∧ m'.input.length ≤ m.input.length
theorem turn_same (m : Mc) (i : Ins) (next : Int) : sameHow m (turnOf m i next) := by
  unfold turnOf
  repeat' (refine ite_p (P := fun m' => sameHow m m') ?_ ?_)
  all_goals
    unfold sameHow
    simp [setR, setW]
theorem turn_regs (m : Mc) (i : Ins) (next : Int) : (turnOf m i next).regs.length = m.regs.length := (turn_same m i next).1
theorem doM_regs (m : Mc) : (doM m).regs.length = m.regs.length := by
  unfold doM
  split
  · split
    · rfl
    · exact turn_regs _ _ _
  · rfl
/-- a step that ends the run turns nothing but how it stands -/
theorem doM_ends (m : Mc) (h0 : m.how = 0) (h : (doM m).how ≠ 0) : doM m = { m with how := (doM m).how, num := (doM m).num } := by
  unfold doM at h ⊢
  split
  · rename_i hg
    rw [if_pos hg] at h
    split
    · rfl
    · rename_i he
      rw [he] at h
      exfalso
      apply h
      show (turnOf m _ _).how = 0
      rw [(turn_same m _ _).2.1]
      exact h0
  · rfl

end Go.Proofs.YtdnpoeegefkoiaaGreat

namespace Go.Proofs.YtdnpoeegefkoiaaGreat
open Go.RowKit

/-- of the blocks that were there none but S's has turned -/
structure Keeps (S : Nat → Prop) (w w' : World) : Prop where
  os : w'.os = w.os
  tape : w'.tape = w.tape
  output : w'.output = w.output
  size : w.heap.size ≤ w'.heap.size
  block : ∀ k, k < w.heap.size → ¬ S k → w'.heap[k]? = w.heap[k]?

def none_ : Nat → Prop := fun _ => False
/-- S, and what is new -/
def grow (S : Nat → Prop) (w w' : World) : Nat → Prop := fun k => S k ∨ (w.heap.size ≤ k ∧ k < w'.heap.size)

section
variable {S S' : Nat → Prop} {w w1 w2 : World}
theorem Keeps.refl (S : Nat → Prop) (w : World) : Keeps S w w := ⟨rfl, rfl, rfl, Nat.le_refl _, fun _ _ _ => rfl⟩
theorem Keeps.mono (h : Keeps S w w1) (hS : ∀ k, S k → S' k) : Keeps S' w w1 := ⟨h.os, h.tape, h.output, h.size, fun k hk hn => h.block k hk fun hs => hn (hS k hs)⟩
theorem Keeps.trans (h : Keeps S w w1) (h2 : Keeps S' w1 w2) (hS : ∀ k, S' k → S k ∨ w.heap.size ≤ k) : Keeps S w w2 :=
  ⟨h2.os.trans h.os, h2.tape.trans h.tape, h2.output.trans h.output, Nat.le_trans h.size h2.size, fun k hk hn => by
    rw [h2.block k (Nat.lt_of_lt_of_le hk h.size) (fun hs => by rcases hS k hs with h | h; exact hn h; omega), h.block k hk hn]⟩
theorem Keeps.then_ (h : Keeps S w w1) (h2 : Keeps (grow S w w1) w1 w2) : Keeps S w w2 :=
  h.trans h2 fun k hk => by rcases hk with h | h; exact .inl h; exact .inr h.1
theorem Keeps.of_below (h : Below w.heap.size w w1) : Keeps S w w1 := ⟨h.os, h.tape, h.output, h.size, fun k hk _ => h.block k hk⟩
theorem Keeps.below {B : Nat} (h : Keeps S w w1) (hS : ∀ k, S k → B ≤ k) (hB : B ≤ w.heap.size) : Below B w w1 :=
  ⟨h.os, h.tape, h.output, h.size, fun k hk => h.block k (by omega) fun hs => by have := hS k hs; omega⟩
theorem Keeps.none (h : Keeps none_ w w1) : Below w.heap.size w w1 := ⟨h.os, h.tape, h.output, h.size, fun k hk => h.block k hk fun hs => hs⟩
theorem Keeps.set (g j : Nat) (v : Value) (hg : S g) (w : World) : Keeps S w (w.setCell ⟨g, j, Option.none⟩ v) :=
  ⟨rfl, rfl, rfl, by simp [World.setCell], fun k _ hn => Below.heap_setCell w ⟨g, j, Option.none⟩ v k (fun e => hn (by rw [e]; exact hg))⟩
theorem Keeps.grown {row : Option Nat} (hg : w.grownBy w1 row) (hr : ∀ k, row = some k → S k) : Keeps S w w1 :=
  ⟨hg.os, hg.tape, hg.output, hg.size, fun k hk hn => hg.block k hk fun e => hn (hr k e.symm)⟩
theorem Keeps.drew : Keeps S w w.drew := ⟨rfl, rfl, rfl, Nat.le_refl _, fun _ _ _ => rfl⟩
theorem grow_lt (h : ∀ k, S k → k < w.heap.size) (hs : w.heap.size ≤ w1.heap.size) : ∀ k, grow S w w1 k → k < w1.heap.size := fun k hk => by
  rcases hk with h1 | h1
  · have := h k h1; omega
  · exact h1.2
end

/-- numbers of 64 bits -/
def iV (x : Int) : Value := .int .i64 x
def IBlk (w : World) (g : Nat) (l : List Int) : Prop := w.heap[g]? = some (.cells (l.map iV).toArray 2 (0, 0))
theorem IBlk.lt {w : World} {g : Nat} {l : List Int} (h : IBlk w g l) : g < w.heap.size := by
  rcases Nat.lt_or_ge g w.heap.size with h' | h'
  · exact h'
  · unfold IBlk at h; rw [Array.getElem?_eq_none h'] at h; cases h
theorem IBlk.cell {w : World} {g : Nat} {l : List Int} (h : IBlk w g l) {j : Nat} (hj : j < l.length) : w.cell? ⟨g, j, none⟩ = some (.int .i64 (l.getD j 0)) := by
  unfold IBlk at h
  simp only [World.cell?, h]
  simp [hj, iV]
theorem IBlk.frozen {w : World} {g : Nat} {l : List Int} (h : IBlk w g l) (j : Nat) : w.frozen? ⟨g, j, none⟩ = false := by
  unfold IBlk at h
  simp [World.frozen?, h]
theorem IBlk.store {w : World} {g : Nat} {l : List Int} (h : IBlk w g l) (j : Nat) (x : Int) : IBlk (w.setCell ⟨g, j, none⟩ (.int .i64 x)) g (l.set j x) := by
  unfold IBlk at h ⊢
  simp only [World.setCell, Array.getElem?_modify, h]
  simp [List.map_set, iV]
theorem iblk_new (w : World) (l : List Int) : IBlk (w.alloc (.cells (l.map iV).toArray 2)) w.heap.size l := heap_alloc_new w _

/-- bytes, numbers that lie at an address of S's, not in a block of the machine's own -/
def LSt (w : World) (S : Nat → Prop) (no : Nat → Prop) (A : Option Addr) (l : List UInt8) : Prop :=
  0 < l.length → ∃ g o, A = some ⟨g, o, none⟩ ∧ S g ∧ no g ∧ ∀ j (h : j < l.length), w.cell? ⟨g, o + j, none⟩ = some (.int .u8 (l[j].toNat : Int))
def ISt (w : World) (S : Nat → Prop) (no : Nat → Prop) (A : Option Addr) (l : List Int) : Prop :=
  0 < l.length → ∃ g o, A = some ⟨g, o, none⟩ ∧ S g ∧ no g ∧ ∀ j (_h : j < l.length), w.cell? ⟨g, o + j, none⟩ = some (.int .i64 (l.getD j 0))
/-- numbers of the call's own, onto which one is appended -/
def IRow (w : World) (v : Value) (l : List Int) : Prop := w.ownsRow 0 2 1 v l.length (l.map iV)

/-- where a machine's parts stand -/
structure Mp where
  Ac : Option Addr
  cc : Nat
  gw : Nat
  Ai : Option Addr
  ci : Nat
  ov : Value
def mC (m : Mc) (p : Mp) : List Value :=
  .slice p.Ac m.code.length p.cc :: .int .i64 m.pc :: (m.regs.map iV ++ [.slice (some ⟨p.gw, 0, none⟩) m.words.length m.words.length, .slice p.Ai m.input.length p.ci, p.ov, .int .u8 m.how, .int .i64 m.num])
/-- a block that a machine at g doesn't write -/
def calm (g : Nat) (p : Mp) (k : Nat) : Prop := k ≠ g ∧ k ≠ p.gw ∧ p.ov.ownBlock ≠ some k

structure MIn (w : World) (S : Nat → Prop) (g : Nat) (m : Mc) (p : Mp) : Prop where
  lt : ∀ k, S k → k < w.heap.size
  mem : S g
  self : w.heap[g]? = some (.cells (mC m p).toArray 59 (0, 0))
  regs : m.regs.length = 16
  code : LSt w S (calm g p) p.Ac m.code
  ccap : m.code.length ≤ p.cc
  gwS : S p.gw
  gwg : p.gw ≠ g
  words : IBlk w p.gw m.words
  input : ISt w S (calm g p) p.Ai m.input
  icap : m.input.length ≤ p.ci
  out : IRow w p.ov m.out
  ovS : ∀ k, p.ov.ownBlock = some k → S k ∧ k ≠ g ∧ k ≠ p.gw

theorem cell_same {w w' : World} {g : Nat} (h : w'.heap[g]? = w.heap[g]?) (j : Nat) : w'.cell? ⟨g, j, none⟩ = w.cell? ⟨g, j, none⟩ := World.cell?_of_block h
theorem LSt.same {w w' : World} {S no : Nat → Prop} {A : Option Addr} {l : List UInt8} (h : LSt w S no A l) (hk : ∀ k, S k → no k → w'.heap[k]? = w.heap[k]?) : LSt w' S no A l := fun hl => by
  obtain ⟨g, o, e, h1, h2, h3⟩ := h hl
  exact ⟨g, o, e, h1, h2, fun j hj => (cell_same (hk g h1 h2) _).trans (h3 j hj)⟩
theorem ISt.same {w w' : World} {S no : Nat → Prop} {A : Option Addr} {l : List Int} (h : ISt w S no A l) (hk : ∀ k, S k → no k → w'.heap[k]? = w.heap[k]?) : ISt w' S no A l := fun hl => by
  obtain ⟨g, o, e, h1, h2, h3⟩ := h hl
  exact ⟨g, o, e, h1, h2, fun j hj => (cell_same (hk g h1 h2) _).trans (h3 j hj)⟩
theorem LSt.mono {w : World} {S S' no no' : Nat → Prop} {A : Option Addr} {l : List UInt8} (h : LSt w S no A l) (hS : ∀ k, S k → S' k) (hn : ∀ k, S k → no k → no' k) : LSt w S' no' A l := fun hl => by
  obtain ⟨g, o, e, h1, h2, h3⟩ := h hl
  exact ⟨g, o, e, hS g h1, hn g h1 h2, h3⟩
theorem ISt.mono {w : World} {S S' no no' : Nat → Prop} {A : Option Addr} {l : List Int} (h : ISt w S no A l) (hS : ∀ k, S k → S' k) (hn : ∀ k, S k → no k → no' k) : ISt w S' no' A l := fun hl => by
  obtain ⟨g, o, e, h1, h2, h3⟩ := h hl
  exact ⟨g, o, e, hS g h1, hn g h1 h2, h3⟩
theorem LSt.lies {w : World} {S no : Nat → Prop} {A : Option Addr} {l : List UInt8} (h : LSt w S no A l) {B : Nat} (hB : ∀ k, S k → k < B) : Lies w B A l := fun hl => by
  obtain ⟨g, o, e, h1, _, h3⟩ := h hl
  exact ⟨g, o, e, hB g h1, h3⟩
theorem IRow.same {w w' : World} {v : Value} {l : List Int} (h : IRow w v l) (hk : ∀ k, v.ownBlock = some k → w'.heap[k]? = w.heap[k]?) : IRow w' v l := by
  obtain ⟨h1, h2⟩ := h
  refine ⟨h1, ?_⟩
  rcases h2 with h2 | ⟨g, cap, cur, rfl, hg, hh, r⟩
  · exact .inl h2
  · exact .inr ⟨g, cap, cur, rfl, hg, (hk g rfl).trans hh, r⟩

section
variable {w w' : World} {S S' : Nat → Prop} {g : Nat} {m : Mc} {p : Mp}
theorem MIn.same (h : MIn w S g m p) (hk : ∀ k, S k → w'.heap[k]? = w.heap[k]?) (hs : w.heap.size ≤ w'.heap.size) : MIn w' S g m p :=
  ⟨fun k hS => Nat.lt_of_lt_of_le (h.lt k hS) hs, h.mem, (hk g h.mem).trans h.self, h.regs, h.code.same fun k hS _ => hk k hS, h.ccap, h.gwS, h.gwg, (hk p.gw h.gwS).trans h.words, h.input.same fun k hS _ => hk k hS, h.icap,
    h.out.same fun k e => hk k (h.ovS k e).1, h.ovS⟩
theorem MIn.keep {T : Nat → Prop} (h : MIn w S g m p) (hk : Keeps T w w') (hT : ∀ k, S k → ¬ T k) : MIn w' S g m p :=
  h.same (fun k hS => hk.block k (h.lt k hS) (hT k hS)) hk.size
theorem MIn.below (h : MIn w S g m p) (hb : Below w.heap.size w w') : MIn w' S g m p := h.same (fun k hS => hb.block k (h.lt k hS)) hb.size
theorem MIn.more (h : MIn w S g m p) (hS : ∀ k, S k → S' k) (hl : ∀ k, S' k → k < w.heap.size) : MIn w S' g m p :=
  ⟨hl, hS g h.mem, h.self, h.regs, h.code.mono hS fun _ _ hn => hn, h.ccap, hS _ h.gwS, h.gwg, h.words, h.input.mono hS fun _ _ hn => hn, h.icap, h.out, fun k e => ⟨hS k (h.ovS k e).1, (h.ovS k e).2⟩⟩

theorem mC_len (hr : m.regs.length = 16) : (mC m p).length = 23 := by simp [mC, hr]
theorem mC_reg (hr : m.regs.length = 16) {r : Nat} (h : r < 16) : (mC m p)[2 + r]? = some (.int .i64 (rg m r)) := by
  rw [show 2 + r = r + 1 + 1 by omega]
  simp only [mC, List.getElem?_cons_succ]
  rw [List.getElem?_append_left (by simp; omega)]
  simp [rg, iV, hr, h]
theorem mC_at (hr : m.regs.length = 16) (j : Nat) : (mC m p)[18 + j]? = [Value.slice (some ⟨p.gw, 0, none⟩) m.words.length m.words.length, .slice p.Ai m.input.length p.ci, p.ov, .int .u8 m.how, .int .i64 m.num][j]? := by
  rw [show 18 + j = (16 + j) + 1 + 1 by omega]
  simp only [mC, List.getElem?_cons_succ]
  rw [List.getElem?_append_right (by simp; omega)]
  simp [hr]
theorem MIn.cell (h : MIn w S g m p) (j : Nat) : w.cell? ⟨g, j, none⟩ = (mC m p)[j]? := by
  have := h.self
  simp [World.cell?, this]
theorem MIn.frozen (h : MIn w S g m p) (j : Nat) : w.frozen? ⟨g, j, none⟩ = false := by
  have := h.self
  simp [World.frozen?, this]
theorem MIn.reg (h : MIn w S g m p) {r : Nat} (hr : r < 16) : w.cell? ⟨g, 2 + r, none⟩ = some (.int .i64 (rg m r)) := (h.cell _).trans (mC_reg h.regs hr)
theorem MIn.cells (h : MIn w S g m p) : w.cell? ⟨g, 0, none⟩ = some (.slice p.Ac m.code.length p.cc) ∧ w.cell? ⟨g, 1, none⟩ = some (.int .i64 m.pc) ∧ w.cell? ⟨g, 17, none⟩ = some (.int .i64 (rg m 15)) ∧
    w.cell? ⟨g, 18, none⟩ = some (.slice (some ⟨p.gw, 0, none⟩) m.words.length m.words.length) ∧ w.cell? ⟨g, 19, none⟩ = some (.slice p.Ai m.input.length p.ci) ∧ w.cell? ⟨g, 20, none⟩ = some p.ov ∧
    w.cell? ⟨g, 21, none⟩ = some (.int .u8 m.how) ∧ w.cell? ⟨g, 22, none⟩ = some (.int .i64 m.num) :=
  ⟨h.cell 0, h.cell 1, h.reg (r := 15) (by omega), (h.cell _).trans (mC_at h.regs 0), (h.cell _).trans (mC_at h.regs 1), (h.cell _).trans (mC_at h.regs 2), (h.cell _).trans (mC_at h.regs 3), (h.cell _).trans (mC_at h.regs 4)⟩
theorem MIn.word (h : MIn w S g m p) {a : Nat} (ha : a < m.words.length) : w.cell? ⟨p.gw, a, none⟩ = some (.int .i64 (wd m a)) := by
  have := h.words.cell ha
  simpa [wd] using this

/-- a store into its own block -/
theorem MIn.put (h : MIn w S g m p) {m' : Mc} {p' : Mp} (j : Nat) (v : Value) (hc : (mC m p).set j v = mC m' p') (hr : m'.regs.length = 16) (h1 : m'.code = m.code) (h2 : m'.words = m.words) (h4 : m'.out = m.out)
    (e1 : p'.Ac = p.Ac) (e2 : p'.cc = p.cc) (e3 : p'.gw = p.gw) (e4 : p'.ov = p.ov) (hi : ISt w S (calm g p) p'.Ai m'.input) (hic : m'.input.length ≤ p'.ci) : MIn (w.setCell ⟨g, j, none⟩ v) S g m' p' := by
  have hk : ∀ k, k ≠ g → (w.setCell ⟨g, j, none⟩ v).heap[k]? = w.heap[k]? := fun k hk => Below.heap_setCell w ⟨g, j, none⟩ v k hk
  have hcalm : calm g p' = calm g p := by unfold calm; rw [e3, e4]
  refine ⟨fun k hS => by have := h.lt k hS; simpa [World.setCell] using this, h.mem, ?_, hr, ?_, by rw [h1, e2]; exact h.ccap, by rw [e3]; exact h.gwS, by rw [e3]; exact h.gwg, ?_, ?_, hic, ?_, by rw [e3, e4]; exact h.ovS⟩
  · rw [← hc]
    have := h.self
    simp only [World.setCell, Array.getElem?_modify, this]
    simp
  · rw [hcalm, e1, h1]; exact h.code.same fun k _ hn => hk k hn.1
  · rw [e3, h2]; exact (hk _ h.gwg).trans h.words
  · rw [hcalm]; exact hi.same fun k _ hn => hk k hn.1
  · rw [e4, h4]; exact h.out.same fun k e => hk k (h.ovS k e).2.1
theorem MIn.setReg (h : MIn w S g m p) {r : Nat} (hr : r < 16) (x : Int) : MIn (w.setCell ⟨g, 2 + r, none⟩ (.int .i64 x)) S g (setR m r x) p := by
  refine h.put (2 + r) _ ?_ (by simp [setR, h.regs]) rfl rfl rfl rfl rfl rfl rfl h.input h.icap
  rw [show 2 + r = r + 1 + 1 by omega]
  simp only [mC, setR, List.set_cons_succ, Int.toNat_natCast]
  rw [List.set_append, if_pos (by simp [h.regs]; omega), List.map_set]
  rfl
theorem MIn.setPc (h : MIn w S g m p) (x : Int) : MIn (w.setCell ⟨g, 1, none⟩ (.int .i64 x)) S g { m with pc := x } p :=
  h.put 1 _ rfl h.regs rfl rfl rfl rfl rfl rfl rfl h.input h.icap
theorem mC_set (hr : m.regs.length = 16) (j : Nat) (v : Value) : (mC m p).set (18 + j) v = .slice p.Ac m.code.length p.cc :: .int .i64 m.pc :: (m.regs.map iV ++ ([Value.slice (some ⟨p.gw, 0, none⟩) m.words.length m.words.length, .slice p.Ai m.input.length p.ci, p.ov, .int .u8 m.how, .int .i64 m.num].set j v)) := by
  rw [show 18 + j = (16 + j) + 1 + 1 by omega]
  simp only [mC, List.set_cons_succ]
  rw [List.set_append, if_neg (by simp [hr])]
  simp [hr]
theorem MIn.setEnd (h : MIn w S g m p) (x y : Int) : MIn ((w.setCell ⟨g, 21, none⟩ (.int .u8 x)).setCell ⟨g, 22, none⟩ (.int .i64 y)) S g { m with how := x, num := y } p := by
  have h1 : MIn (w.setCell ⟨g, 21, none⟩ (.int .u8 x)) S g { m with how := x } p :=
    h.put 21 _ (mC_set h.regs 3 _) h.regs rfl rfl rfl rfl rfl rfl rfl h.input h.icap
  exact h1.put 22 _ (mC_set h1.regs 4 _) h1.regs rfl rfl rfl rfl rfl rfl rfl h1.input h1.icap
theorem MIn.setIn (h : MIn w S g m p) (A : Option Addr) (c : Nat) (l : List Int) (hi : ISt w S (calm g p) A l) (hc : l.length ≤ c) : MIn (w.setCell ⟨g, 19, none⟩ (.slice A l.length c)) S g { m with input := l } { p with Ai := A, ci := c } :=
  h.put 19 _ (mC_set h.regs 1 _) h.regs rfl rfl rfl rfl rfl rfl rfl hi hc
/-- a store into a word -/
theorem MIn.setWord (h : MIn w S g m p) (a : Nat) (x : Int) : MIn (w.setCell ⟨p.gw, a, none⟩ (.int .i64 x)) S g (setW m a x) p := by
  have hk : ∀ k, k ≠ p.gw → (w.setCell ⟨p.gw, a, none⟩ (.int .i64 x)).heap[k]? = w.heap[k]? := fun k hk => Below.heap_setCell w ⟨p.gw, a, none⟩ (.int .i64 x) k hk
  refine ⟨fun k hS => by have := h.lt k hS; simpa [World.setCell] using this, h.mem, ?_, h.regs, h.code.same fun k _ hn => hk k hn.2.1, h.ccap, h.gwS, h.gwg, ?_, h.input.same fun k _ hn => hk k hn.2.1, h.icap, h.out.same fun k e => hk k (h.ovS k e).2.2, h.ovS⟩
  · rw [hk g h.gwg.symm, h.self]
    simp [mC, setW]
  · have := h.words.store a x
    simpa [setW] using this
/-- the outputs have grown: the new row's value is stored -/
theorem MIn.setOut (h : MIn w S g m p) {w1 : World} {v : Value} {l : List Int} (hg : w.grownBy w1 p.ov.ownBlock) (hv : v.ownBlock = p.ov.ownBlock ∨ v.ownBlock = some w.heap.size) (ho : IRow w1 v l) (hlt : ∀ k, v.ownBlock = some k → k < w1.heap.size) :
    MIn (w1.setCell ⟨g, 20, none⟩ v) (grow S w w1) g { m with out := l } { p with ov := v } := by
  have hS : ∀ k, S k → p.ov.ownBlock ≠ some k → w1.heap[k]? = w.heap[k]? := fun k hS hn => hg.block k (h.lt k hS) (fun e => hn e.symm)
  have hk : ∀ k, k ≠ g → (w1.setCell ⟨g, 20, none⟩ v).heap[k]? = w1.heap[k]? := fun k hk => Below.heap_setCell w1 ⟨g, 20, none⟩ v k hk
  have hgo : p.ov.ownBlock ≠ some g := fun e => (h.ovS g e).2.1 rfl
  have hwo : p.ov.ownBlock ≠ some p.gw := fun e => (h.ovS _ e).2.2 rfl
  have hcalm : ∀ k, S k → calm g p k → calm g { p with ov := v } k := fun k hSk hc => ⟨hc.1, hc.2.1, fun e => by
    rcases hv with hv | hv
    · exact hc.2.2 (hv ▸ e)
    · have h1 := h.lt k hSk
      have h2 : v.ownBlock = some k := e
      rw [hv] at h2
      injection h2 with h2
      omega⟩
  have hov : ∀ k, v.ownBlock = some k → k ≠ g ∧ k ≠ p.gw := fun k e => by
    rcases hv with hv | hv
    · exact (h.ovS k (hv ▸ e)).2
    · rw [hv] at e
      injection e with e
      have h1 := h.lt g h.mem
      have h2 := h.lt p.gw h.gwS
      omega
  refine ⟨?_, .inl h.mem, ?_, h.regs, ?_, h.ccap, .inl h.gwS, h.gwg, ?_, ?_, h.icap, ?_, ?_⟩
  · intro k hk'
    have := grow_lt h.lt hg.size k hk'
    simpa [World.setCell] using this
  · have h1 := (hS g h.mem hgo).trans h.self
    simp only [World.setCell, Array.getElem?_modify, h1]
    have := mC_set (m := m) (p := p) h.regs 2 v
    simp only [Nat.reduceAdd] at this
    simp [this]
    rfl
  · refine (h.code.same (fun k hSk hc => ?_)).mono (fun k => .inl) hcalm
    rw [hk k hc.1, hS k hSk hc.2.2]
  · exact ((hk p.gw h.gwg).trans (hS _ h.gwS hwo)).trans h.words
  · refine (h.input.same (fun k hSk hc => ?_)).mono (fun k => .inl) hcalm
    rw [hk k hc.1, hS k hSk hc.2.2]
  · exact ho.same fun k e => hk k (hov k e).1
  · intro k e
    refine ⟨?_, hov k e⟩
    rcases hv with hv | hv
    · exact .inl (h.ovS k (hv ▸ e)).1
    · have e' : v.ownBlock = some k := e
      have := hlt k e'
      rw [hv] at e'
      injection e' with e'
      exact .inr ⟨by omega, this⟩
end

end Go.Proofs.YtdnpoeegefkoiaaGreat

namespace Go.Proofs.YtdnpoeegefkoiaaGreat
open Go Go.RowKit

theorem i64_info : (Tryz.prog.info? 2).map (fun i => (i.zero, i.size, i.bytes)) = some (some (.int .i64 0), 1, 8) := by kernel_rfl
theorem iV_one (l : List Int) : ∀ u ∈ l.map iV, u.oneCell' = true := by
  intro u hu
  obtain ⟨x, _, rfl⟩ := List.mem_map.1 hu
  rfl
/-- append of numbers that lie somewhere onto a row of the call's own, as a run -/
theorem run_app_ints (w : World) (v : Value) (l l2 : List Int) (hown : IRow w v l) (a : Addr) (c : Nat) (hl : ∀ j (h : j < l2.length), w.cell? (a.add j) = some (iV l2[j])) (hsz : l.length + l2.length ≤ 17592186044416) (ty : TypeId) :
    ∃ v' w', (Builtin.append_ #[24, 24] ty #[v, .slice (some a) l2.length c]).run Tryz.prog w = .ok v' w' ∧ IRow w' v' (l ++ l2) ∧ w.grownBy w' v.ownBlock ∧ (v'.ownBlock = v.ownBlock ∨ v'.ownBlock = some w.heap.size) := by
  obtain ⟨i0, hi0, hz0, hz1, hz2⟩ := info_parts i64_info
  have hnews : ∀ j u, (l2.map iV)[j]? = some u → w.cell? (a.add j) = some u := by
    intro j u hu
    have hj : j < l2.length := by have := (List.getElem?_eq_some_iff.1 hu).1; simpa using this
    rw [hl j hj]
    simpa [hj] using hu
  obtain ⟨v', w', hr, h1, h2, _, h3⟩ := run_append_own_at (P := Tryz.prog) w 0 24 ty 2 i0 _ 1 8 Tryz.underlying24 hi0 hz0 hz1 hz2 rfl (by omega) v l.length (l.map iV) hown a l2.length c (l2.map iV) (by simp) hnews (iV_one _)
    (by simp only [maxLen]; omega) (by omega) (Nat.zero_le _)
  refine ⟨v', w', hr, ?_, h2, h3⟩
  unfold IRow
  simpa using h1
theorem IRow.lt {w : World} {v : Value} {l : List Int} (h : IRow w v l) : ∀ k, v.ownBlock = some k → k < w.heap.size := by
  intro k e
  rcases h.2 with ⟨rfl, _⟩ | ⟨g, cap, cur, rfl, _, hh, _⟩
  · cases e
  · injection e with e
    subst e
    rcases Nat.lt_or_ge g w.heap.size with h' | h'
    · exact h'
    · rw [Array.getElem?_eq_none h'] at hh; cases hh
theorem IRow.form {w : World} {v : Value} {l : List Int} (h : IRow w v l) : ∃ A c, v = .slice A l.length c := by
  rcases h.2 with ⟨rfl, h0⟩ | ⟨g, cap, cur, rfl, _⟩
  · exact ⟨none, 0, by rw [h0]⟩
  · exact ⟨_, _, rfl⟩
section
variable {ops : Array Oper} {rest : List Oper} {o : Oper} {a : Act} {Q : Exit → Act → World → Prop}
theorem wp_app_int {K : Act → World → Prop} (w : World) (s x : Operand) (ho : o.op = .call { callee := .builtin .append, args := #[s, x], argTypes := #[24, 24] })
    (v : Value) (l : List Int) (hs : a.eval s = v) (hown : IRow w v l) (g c : Nat) (y : Int) (hx : a.eval x = .slice (some ⟨g, 0, none⟩) 1 c) (hy : w.cell? ⟨g, 0, none⟩ = some (.int .i64 y)) (hsz : l.length ≤ 1099511627776)
    (h : ∀ v' w', IRow w' v' (l ++ [y]) → w.grownBy w' v.ownBlock → (v'.ownBlock = v.ownBlock ∨ v'.ownBlock = some w.heap.size) → K (a.put o.dst v') w') : Oper.wp Tryz.prog o a w K Q := by
  obtain ⟨v', w', hr, h1, h2, h3⟩ := run_app_ints w v l [y] hown ⟨g, 0, none⟩ c (fun j hj => by
    have : j = 0 := by simp at hj; omega
    subst this
    rw [add_zero_off]; exact hy) (by simp; omega) o.type
  unfold Oper.wp execOp
  simp only [ho, resolve, invoke, builtin, Sem.run_bind, Sem.run_pure, Result.andThen_ok, List.map_toArray, List.map_cons, List.map_nil, hs, hx]
  simp only [List.length_singleton] at hr
  simp only [hr]
  exact h v' w' h1 h2 h3
theorem app_int (w : World) (hgd : o.guard = none) (s x : Operand) (ho : o.op = .call { callee := .builtin .append, args := #[s, x], argTypes := #[24, 24] })
    (v : Value) (l : List Int) (hs : a.eval s = v) (hown : IRow w v l) (g c : Nat) (y : Int) (hx : a.eval x = .slice (some ⟨g, 0, none⟩) 1 c) (hy : w.cell? ⟨g, 0, none⟩ = some (.int .i64 y)) (hsz : l.length ≤ 1099511627776)
    (h : ∀ v' w', IRow w' v' (l ++ [y]) → w.grownBy w' v.ownBlock → (v'.ownBlock = v.ownBlock ∨ v'.ownBlock = some w.heap.size) → wpList Tryz.prog ops Q rest (a.put o.dst v') w') : wpList Tryz.prog ops Q (o :: rest) a w := by
  refine wpList_plain hgd fun K hK' => ?_
  obtain ⟨v', w', hr, h1, h2, h3⟩ := run_app_ints w v l [y] hown ⟨g, 0, none⟩ c (fun j hj => by
    have : j = 0 := by simp at hj; omega
    subst this
    rw [add_zero_off]; exact hy) (by simp; omega) o.type
  unfold Oper.wp execOp
  simp only [ho, resolve, invoke, builtin, Sem.run_bind, Sem.run_pure, Result.andThen_ok, List.map_toArray, List.map_cons, List.map_nil, hs, hx]
  simp only [List.length_singleton] at hr
  simp only [hr]
  exact hK' _ _ (h v' w' h1 h2 h3)
end

end Go.Proofs.YtdnpoeegefkoiaaGreat

namespace Go.Proofs.YtdnpoeegefkoiaaGreat
open Go.RowKit

set_option maxHeartbeats 400000 in
theorem eqBytes_same (A A2 : Option Addr) (c c2 : Nat) (l : List UInt8) (w : World) (B B2 : Nat) (hn : l.length ≤ 1099511627776) (h : Lies w B A l) (h2 : Lies w B2 A2 l) :
    Calls Tryz.prog 10 #[.slice A l.length c, .slice A2 l.length c2] w fun e w' => e = .returned (.bool true) ∧ w = w' := by
  go_enter Tryz.func10, Tryz.ntmps10
  go_wp2
  go_loop [17] (fun i => ∃ k : Nat, k ≤ l.length ∧ i = .int .i64 k) (fun i => l.length - (intOf i).toNat)
  case atStart => exact ⟨0, by omega, rfl⟩
  case round =>
    obtain ⟨k, hk, rfl⟩ := hrel
    by_cases hlt : k < l.length
    · obtain ⟨g, o, rfl, hg, hc⟩ := h.at_ hlt
      obtain ⟨g2, o2, rfl, hg2, hc2⟩ := h2.at_ hlt
      have b : ((l[k].toNat : Int) != (l[k].toNat : Int)) = false := by simp
      go_wp2
      go_round
      case rel => exact ⟨k + 1, by omega, by go_num⟩
      case measure => simp [intOf]; omega
    · go_wp2
      go_ret
      exact ⟨rfl, rfl⟩

theorem byte_lies (w : World) (x : UInt8) : Lies (w.alloc (.cells #[.int .u8 (x.toNat : Int)] 5)) (w.alloc (.cells #[.int .u8 (x.toNat : Int)] 5)).heap.size (some ⟨w.heap.size, 0, none⟩) [x] :=
  lies_lit w 5 _ _ rfl

set_option maxHeartbeats 400000 in
theorem copyBytes_any (A : Option Addr) (c : Nat) (l : List UInt8) (w : World) (hn : l.length ≤ 1099511627776) (h : Lies w w.heap.size A l) :
    Calls Tryz.prog 7 #[.slice A l.length c] w (Made w l) := by
  go_enter Tryz.func7, Tryz.ntmps7
  go_wp2
  go_loopw [3, 8] (fun v i wr => ∃ k : Nat, k ≤ l.length ∧ i = .int .i64 k ∧ Hid (Own wr w.heap.size v (l.take k)) ∧ Hid (Below w.heap.size w wr)) (fun _ i _ => l.length - (intOf i).toNat)
  case atStart => exact ⟨0, by omega, rfl, Own.nil _ _, Below.refl _ _⟩
  case round =>
    obtain ⟨k, hk, rfl, hq, hb⟩ := hrel
    have hz := hb.out.size
    by_cases hlt : k < l.length
    · obtain ⟨g, o, rfl, hg, hc⟩ := (h.below hb.out).at_ hlt
      have HT := Lib.hid (show l.take k ++ [l[k]] = l.take (k + 1) by simp)
      go_wp2_with (first
        | (at_builtin
           refine app_slice _ rfl (.tmp 12) (.tmp 14) rfl w.heap.size _ _ rfl (hq.out.alloc _) (some ⟨wr.heap.size, 0, none⟩) 1 _ [l[k]] rfl (by simp) (byte_lies wr l[k]) (by simp; omega) (by simp; omega) ?_
           intro v3 w3 ho3 hg3
           have hb3 := below_grown (hb.out.alloc hz _) hg3 (hq.out.alloc _) (by simp; omega)
           rw [HT.out] at ho3
           clear hg3))
      go_roundw
      case rel => exact ⟨k + 1, by omega, by go_num, ho3, hb3⟩
      case measure => simp [intOf]; omega
    · obtain rfl : k = l.length := by omega
      have ho := hq.out
      rw [List.take_length] at ho
      clear hq
      go_wp2
      go_ret
      exact ⟨_, rfl, ho, hb⟩

end Go.Proofs.YtdnpoeegefkoiaaGreat

namespace Go.Proofs.YtdnpoeegefkoiaaGreat
open Go.RowKit

theorem Lies.take {w : World} {B : Nat} {A : Option Addr} {l : List UInt8} (h : Lies w B A l) (k : Nat) : Lies w B A (l.take k) := fun hl => by
  have hl' : 0 < l.length := by simp at hl; omega
  obtain ⟨g, o, e, hg, hc⟩ := h hl'
  refine ⟨g, o, e, hg, fun j hj => ?_⟩
  have hj' : j < l.length := by simp at hj; omega
  rw [hc j hj']; simp
theorem drawn {w w2 : World} (h : Below w.drew.heap.size w.drew w2) : Below w.heap.size w w2 := ⟨h.os, h.tape, h.output, h.size, h.block⟩
theorem eqIs (A A2 : Option Addr) (c c2 B B2 : Nat) {P : List UInt8} {q q2 : Nat} (w : World) (hl : P.length = q) (hl2 : P.length = q2) (hq : q ≤ 1099511627776) (h : Lies w B A P) (h2 : Lies w B2 A2 P) :
    Calls Tryz.prog 10 #[.slice A q c, .slice A2 q2 c2] w fun e w' => e = .returned (.bool true) ∧ w = w' := by
  have := eqBytes_same A A2 c c2 P w B B2 (by omega) h h2
  subst hl; subst hl2; exact this
/-- an instruction's cells in a block -/
def Cell7 (W : World) (g : Nat) (y : Ins) : Prop := W.cell? ⟨g, 0, none⟩ = some (.int .u8 y.k) ∧ W.cell? ⟨g, 1, none⟩ = some (.int .u8 y.o) ∧ W.cell? ⟨g, 2, none⟩ = some (.int .i64 y.r) ∧ W.cell? ⟨g, 3, none⟩ = some (.int .i64 y.s) ∧ W.cell? ⟨g, 4, none⟩ = some (.int .i64 y.t) ∧ W.cell? ⟨g, 5, none⟩ = some (.int .i64 y.n) ∧ W.cell? ⟨g, 6, none⟩ = some (.int .i64 y.m)
theorem Cell7.below {w w' : World} {g B : Nat} {y : Ins} (h : Cell7 w g y) (hb : Below B w w') (h1 : g < B) : Cell7 w' g y := by
  have e1 : ∀ j, w'.cell? ⟨g, j, none⟩ = w.cell? ⟨g, j, none⟩ := fun j => hb.cell (p := ⟨g, j, none⟩) h1
  unfold Cell7 at *
  simp only [e1]
  exact h

end Go.Proofs.YtdnpoeegefkoiaaGreat

namespace Go.Proofs.YtdnpoeegefkoiaaGreat
open Go Go.RowKit

/-- what is thrown when a run ends -/
def endC (h n : Int) : List PanicEntry := [{ v := .iface 57 (.agg #[.int .u8 h, .int .i64 n]), recovered := false }]

theorem divisor_yes (b : Int) (hb : ¬ b = 0) (w : World) : Calls Tryz.prog 69 #[.int .i64 b] w fun e w' => e = .returned (.int .i64 b) ∧ w = w' := by
  have h1 : (b == 0) = false := by simpa using hb
  go_enter Tryz.func69, Tryz.ntmps69
  go_wp2_with fail
  go_ret
  exact ⟨rfl, rfl⟩
theorem divisor_no (w : World) : Calls Tryz.prog 69 #[.int .i64 0] w fun e w' => e = .panicked (endC 2 0) ∧ w = w' := by
  go_enter Tryz.func69, Tryz.ntmps69
  go_wp2
  exact ⟨rfl, rfl, rfl⟩
theorem truth_any (b : Bool) (w : World) : Calls Tryz.prog 70 #[.bool b] w fun e w' => e = .returned (.int .i64 (truthV b)) ∧ w = w' := by
  cases b
  all_goals
    go_enter Tryz.func70, Tryz.ntmps70
    go_wp2_with fail
    go_ret
    exact ⟨rfl, rfl⟩
theorem unary_any (o a : Int) (w : World) : Calls Tryz.prog 56 #[.int .u8 o, .int .i64 a] w fun e w' => e = .returned (.int .i64 (unV o a)) ∧ w = w' := by
  by_cases ho : o = 14
  · subst ho
    go_enter Tryz.func56, Tryz.ntmps56
    go_wp2_with fail
    go_ret
    exact ⟨rfl, rfl⟩
  · have h1 : (o == 14) = false := by simpa using ho
    have HO := Lib.hid (show unV o a = wrap64 (-a) by unfold unV; rw [if_neg ho])
    clear ho
    go_enter Tryz.func56, Tryz.ntmps56
    go_wp2_with fail
    go_ret
    exact ⟨by rw [HO.out]; rfl, rfl⟩

section
variable (g gw n : Nat) (a : Int) (w : World)
theorem has_yes (hc : w.cell? ⟨g, 18, none⟩ = some (.slice (some ⟨gw, 0, none⟩) n n)) (h0 : 0 ≤ a) (h1 : a < n) :
    Calls Tryz.prog 30 #[.pointer (some ⟨g, 0, none⟩), .int .i64 a] w fun e w' => e = .returned (.bool true) ∧ w = w' := by
  go_enter Tryz.func30, Tryz.ntmps30
  go_wp2_with fail
  go_ret
  exact ⟨rfl, rfl⟩
theorem has_no (hc : w.cell? ⟨g, 18, none⟩ = some (.slice (some ⟨gw, 0, none⟩) n n)) (h : ¬ (0 ≤ a ∧ a < n)) :
    Calls Tryz.prog 30 #[.pointer (some ⟨g, 0, none⟩), .int .i64 a] w fun e w' => e = .returned (.bool false) ∧ w = w' := by
  by_cases h0 : 0 ≤ a
  · have h1 : ¬ (a < n) := fun h' => h ⟨h0, h'⟩
    clear h
    go_enter Tryz.func30, Tryz.ntmps30
    go_wp2_with fail
    go_ret
    exact ⟨rfl, rfl⟩
  · clear h
    go_enter Tryz.func30, Tryz.ntmps30
    go_wp2_with fail
    go_ret
    exact ⟨rfl, rfl⟩
theorem word_yes (hc : w.cell? ⟨g, 18, none⟩ = some (.slice (some ⟨gw, 0, none⟩) n n)) (h0 : 0 ≤ a) (h1 : a < n) :
    Calls Tryz.prog 57 #[.pointer (some ⟨g, 0, none⟩), .int .i64 a] w fun e w' => e = .returned (.pointer (some ⟨gw, a.toNat, none⟩)) ∧ w = w' := by
  have HH := Lib.hid (fun w hc => has_yes g gw n a w hc h0 h1)
  obtain ⟨k, rfl⟩ : ∃ k : Nat, a = k := ⟨a.toNat, by omega⟩
  have h2 : k < n := by omega
  have HC := Lib.hid hc
  go_enter Tryz.func57, Tryz.ntmps57
  go_wp2_with fail
  refine (HH.out _ HC.out).mono ?_
  rintro e w' ⟨rfl, rfl⟩
  go_wp2_with fail
  go_ret
  exact ⟨by simp, rfl⟩
theorem word_no (hc : w.cell? ⟨g, 18, none⟩ = some (.slice (some ⟨gw, 0, none⟩) n n)) (h : ¬ (0 ≤ a ∧ a < n)) :
    Calls Tryz.prog 57 #[.pointer (some ⟨g, 0, none⟩), .int .i64 a] w fun e w' => e = .panicked (endC 6 0) ∧ w = w' := by
  have HH := Lib.hid (has_no g gw n a w hc h)
  clear h
  go_enter Tryz.func57, Tryz.ntmps57
  go_wp2_with fail
  refine HH.out.mono ?_
  rintro e w' ⟨rfl, rfl⟩
  go_wp2
  exact ⟨rfl, rfl, rfl⟩
end

set_option maxHeartbeats 400000 in
theorem binary_any (o a b : Int) (h1 : 1 ≤ o) (h2 : o ≤ 13) (hb : (o = 4 ∨ o = 5) → ¬ b = 0) (w : World) : Calls Tryz.prog 55 #[.int .u8 o, .int .i64 a, .int .i64 b] w fun e w' => e = .returned (.int .i64 (binV o a b)) ∧ w = w' := by
  have ho : o = 1 ∨ o = 2 ∨ o = 3 ∨ o = 4 ∨ o = 5 ∨ o = 6 ∨ o = 7 ∨ o = 8 ∨ o = 9 ∨ o = 10 ∨ o = 11 ∨ o = 12 ∨ o = 13 := by omega
  have HT := Lib.hid (fun x w => truth_any x w)
  clear h1 h2
  rcases ho with rfl | rfl | rfl | rfl | rfl | rfl | rfl | rfl | rfl | rfl | rfl | rfl | rfl
  case inr.inr.inr.inl =>
    have h0 := hb (by omega)
    have HD := Lib.hid (fun w => divisor_yes b h0 w)
    clear hb
    go_enter Tryz.func55, Tryz.ntmps55
    go_wp2_with (go_at_call 69; refine (HD.out _).mono ?_; rintro e w' ⟨rfl, rfl⟩)
    go_ret
    exact ⟨rfl, rfl⟩
  case inr.inr.inr.inr.inl =>
    have h0 := hb (by omega)
    have HD := Lib.hid (fun w => divisor_yes b h0 w)
    clear hb
    go_enter Tryz.func55, Tryz.ntmps55
    go_wp2_with (go_at_call 69; refine (HD.out _).mono ?_; rintro e w' ⟨rfl, rfl⟩)
    go_ret
    exact ⟨rfl, rfl⟩
  all_goals clear hb
  case inl | inr.inl | inr.inr.inl | inr.inr.inr.inr.inr.inr.inr.inr.inr.inr.inr.inl | inr.inr.inr.inr.inr.inr.inr.inr.inr.inr.inr.inr =>
    go_enter Tryz.func55, Tryz.ntmps55
    go_wp2_with fail
    go_ret
    exact ⟨rfl, rfl⟩
  all_goals
    go_enter Tryz.func55, Tryz.ntmps55
    go_wp2_with fail
    refine (HT.out _ _).mono ?_
    rintro e w' ⟨rfl, rfl⟩
    go_wp2_with fail
    go_ret
    exact ⟨rfl, rfl⟩
theorem binary_no (o a : Int) (h : o = 4 ∨ o = 5) (w : World) : Calls Tryz.prog 55 #[.int .u8 o, .int .i64 a, .int .i64 0] w fun e w' => e = .panicked (endC 2 0) ∧ w = w' := by
  have HD := Lib.hid (fun w => divisor_no w)
  rcases h with rfl | rfl
  all_goals
    go_enter Tryz.func55, Tryz.ntmps55
    go_wp2_with (go_at_call 69; refine (HD.out _).mono ?_; rintro e w' ⟨rfl, rfl⟩)
    exact ⟨rfl, rfl, rfl⟩

section
variable (g gw n : Nat) (w : World)
theorem push_stack (t x : Int) (hc : w.cell? ⟨g, 17, none⟩ = some (.int .i64 t)) (h : wrap64 (t - 1) < 0) :
    Calls Tryz.prog 59 #[.pointer (some ⟨g, 0, none⟩), .int .i64 x] w fun e w' => e = .panicked (endC 7 0) ∧ w = w' := by
  go_enter Tryz.func59, Tryz.ntmps59
  go_wp2
  exact ⟨rfl, rfl, rfl⟩
theorem push_no (t x : Int) (hc : w.cell? ⟨g, 17, none⟩ = some (.int .i64 t)) (hd : w.cell? ⟨g, 18, none⟩ = some (.slice (some ⟨gw, 0, none⟩) n n)) (h : ¬ wrap64 (t - 1) < 0) (h1 : ¬ wrap64 (t - 1) < n) :
    Calls Tryz.prog 59 #[.pointer (some ⟨g, 0, none⟩), .int .i64 x] w fun e w' => e = .panicked (endC 6 0) ∧ w = w' := by
  have HW := Lib.hid (word_no g gw n (wrap64 (t - 1)) w hd (fun h' => h1 h'.2))
  clear hd h1
  go_enter Tryz.func59, Tryz.ntmps59
  go_wp2_with fail
  refine HW.out.mono ?_
  rintro e w' ⟨rfl, rfl⟩
  go_wp2
  exact ⟨rfl, rfl, rfl⟩
theorem push_yes (t x : Int) (hc : w.cell? ⟨g, 17, none⟩ = some (.int .i64 t)) (hd : w.cell? ⟨g, 18, none⟩ = some (.slice (some ⟨gw, 0, none⟩) n n)) (h : ¬ wrap64 (t - 1) < 0) (h1 : wrap64 (t - 1) < n)
    (hg : ∃ u, w.cell? ⟨gw, (wrap64 (t - 1)).toNat, none⟩ = some u) (hf : w.frozen? ⟨gw, (wrap64 (t - 1)).toNat, none⟩ = false) (hf2 : w.frozen? ⟨g, 17, none⟩ = false) (hne : gw ≠ g) :
    Calls Tryz.prog 59 #[.pointer (some ⟨g, 0, none⟩), .int .i64 x] w fun e w' =>
      e = .returned (.tuple #[]) ∧ w' = (w.setCell ⟨gw, (wrap64 (t - 1)).toNat, none⟩ (.int .i64 x)).setCell ⟨g, 17, none⟩ (.int .i64 (wrap64 (t - 1))) := by
  have HW := Lib.hid (word_yes g gw n (wrap64 (t - 1)) w hd (by omega) h1)
  obtain ⟨u, hg⟩ := hg
  have hne2 := hne.symm
  clear hd h1
  go_enter Tryz.func59, Tryz.ntmps59
  go_wp2_with fail
  refine HW.out.mono ?_
  rintro e w' ⟨rfl, rfl⟩
  go_wp2
  go_end0
  exact ⟨rfl, rfl⟩
theorem frame_stack (t x : Int) (hc : w.cell? ⟨g, 17, none⟩ = some (.int .i64 t)) (h : wrap64 (t - x) < 0) :
    Calls Tryz.prog 61 #[.pointer (some ⟨g, 0, none⟩), .int .i64 x] w fun e w' => e = .panicked (endC 7 0) ∧ w = w' := by
  go_enter Tryz.func61, Tryz.ntmps61
  go_wp2
  exact ⟨rfl, rfl, rfl⟩
theorem frame_no (t x : Int) (hc : w.cell? ⟨g, 17, none⟩ = some (.int .i64 t)) (hd : w.cell? ⟨g, 18, none⟩ = some (.slice (some ⟨gw, 0, none⟩) n n)) (h : ¬ wrap64 (t - x) < 0) (h1 : (n : Int) < wrap64 (t - x)) :
    Calls Tryz.prog 61 #[.pointer (some ⟨g, 0, none⟩), .int .i64 x] w fun e w' => e = .panicked (endC 6 0) ∧ w = w' := by
  go_enter Tryz.func61, Tryz.ntmps61
  go_wp2
  exact ⟨rfl, rfl, rfl⟩
theorem frame_yes (t x : Int) (hc : w.cell? ⟨g, 17, none⟩ = some (.int .i64 t)) (hd : w.cell? ⟨g, 18, none⟩ = some (.slice (some ⟨gw, 0, none⟩) n n)) (h : ¬ wrap64 (t - x) < 0) (h1 : ¬ (n : Int) < wrap64 (t - x)) (hf2 : w.frozen? ⟨g, 17, none⟩ = false) :
    Calls Tryz.prog 61 #[.pointer (some ⟨g, 0, none⟩), .int .i64 x] w fun e w' => e = .returned (.tuple #[]) ∧ w' = w.setCell ⟨g, 17, none⟩ (.int .i64 (wrap64 (t - x))) := by
  go_enter Tryz.func61, Tryz.ntmps61
  go_wp2
  go_end0
  exact ⟨rfl, rfl⟩
theorem read_no (A : Option Addr) (c : Nat) (hc : w.cell? ⟨g, 19, none⟩ = some (.slice A 0 c)) :
    Calls Tryz.prog 62 #[.pointer (some ⟨g, 0, none⟩)] w fun e w' => e = .panicked (endC 4 0) ∧ w = w' := by
  go_enter Tryz.func62, Tryz.ntmps62
  go_wp2
  exact ⟨rfl, rfl, rfl⟩
theorem read_yes (b o c k : Nat) (x : Int) (hc : w.cell? ⟨g, 19, none⟩ = some (.slice (some ⟨b, o, none⟩) (k + 1) c)) (hk : k + 1 ≤ c) (hx : w.cell? ⟨b, o, none⟩ = some (.int .i64 x)) (hf : w.frozen? ⟨g, 19, none⟩ = false) :
    Calls Tryz.prog 62 #[.pointer (some ⟨g, 0, none⟩)] w fun e w' => e = .returned (.int .i64 x) ∧ ∃ A, w' = w.setCell ⟨g, 19, none⟩ (.slice (some A) k (c - 1)) ∧ (0 < k → A = ⟨b, o + 1, none⟩) := by
  by_cases hcap : c = 1
  · subst hcap
    obtain rfl : k = 0 := by omega
    go_enter Tryz.func62, Tryz.ntmps62
    go_wp2
    go_ret
    exact ⟨rfl, _, rfl, fun h => absurd h (by omega)⟩
  · have h1 : 1 < c := by omega
    have h2 : (1 : Int) < (c : Int) := by omega
    have h3 : (1 : Int) ≤ (c : Int) := by omega
    clear hcap
    go_enter Tryz.func62, Tryz.ntmps62
    go_wp2
    go_ret
    exact ⟨rfl, _, rfl, fun _ => rfl⟩
theorem back_no (t : Int) (hc : w.cell? ⟨g, 17, none⟩ = some (.int .i64 t)) (hd : w.cell? ⟨g, 18, none⟩ = some (.slice (some ⟨gw, 0, none⟩) n n)) (h : ¬ (0 ≤ t ∧ t < n)) :
    Calls Tryz.prog 60 #[.pointer (some ⟨g, 0, none⟩)] w fun e w' => e = .panicked (endC 6 0) ∧ w = w' := by
  have HW := Lib.hid (word_no g gw n t w hd h)
  clear hd h
  go_enter Tryz.func60, Tryz.ntmps60
  go_wp2_with fail
  refine HW.out.mono ?_
  rintro e w' ⟨rfl, rfl⟩
  go_wp2
  exact ⟨rfl, rfl, rfl⟩
theorem back_code (t x : Int) (hc : w.cell? ⟨g, 17, none⟩ = some (.int .i64 t)) (hd : w.cell? ⟨g, 18, none⟩ = some (.slice (some ⟨gw, 0, none⟩) n n)) (h0 : 0 ≤ t) (h1 : t < n) (hx : w.cell? ⟨gw, t.toNat, none⟩ = some (.int .i64 x)) (hb : x < 0 ∨ 16777216 ≤ x) :
    Calls Tryz.prog 60 #[.pointer (some ⟨g, 0, none⟩)] w fun e w' => e = .panicked (endC 5 0) ∧ w = w' := by
  have HW := Lib.hid (word_yes g gw n t w hd h0 h1)
  clear hd h0 h1
  by_cases h2 : x < 0
  all_goals
    first | (have h3 : 16777216 ≤ x := by omega) | skip
    clear hb
    go_enter Tryz.func60, Tryz.ntmps60
    go_wp2_with fail
    refine HW.out.mono ?_
    rintro e w' ⟨rfl, rfl⟩
    go_wp2
    exact ⟨rfl, rfl, rfl⟩
theorem back_yes (t x : Int) (hc : w.cell? ⟨g, 17, none⟩ = some (.int .i64 t)) (hd : w.cell? ⟨g, 18, none⟩ = some (.slice (some ⟨gw, 0, none⟩) n n)) (h0 : 0 ≤ t) (h1 : t < n) (hn : n ≤ 65536) (hx : w.cell? ⟨gw, t.toNat, none⟩ = some (.int .i64 x)) (h2 : 0 ≤ x) (h3 : x < 16777216)
    (hf : w.frozen? ⟨g, 17, none⟩ = false) :
    Calls Tryz.prog 60 #[.pointer (some ⟨g, 0, none⟩)] w fun e w' => e = .returned (.int .i64 x) ∧ ∃ d, w' = (w.setCell ⟨g, 17, none⟩ (.int .i64 (t + 1))).drewN d := by
  have HW := Lib.hid (word_yes g gw n t w hd h0 h1)
  clear hd
  go_enter Tryz.func60, Tryz.ntmps60
  go_wp2_with fail
  refine HW.out.mono ?_
  rintro e w' ⟨rfl, rfl⟩
  go_wp2_with fail
  go_region
  all_goals
    go_wp2
    go_ret
    exact ⟨rfl, 1, rfl⟩
end

end Go.Proofs.YtdnpoeegefkoiaaGreat

namespace Go.Proofs.YtdnpoeegefkoiaaGreat
open Go Go.RowKit

section
variable (g gw nw : Nat) (w : World) (k o r n mm x y : Int) (s t : Nat)
theorem part_index (_hs : s < 16) (ht : t < 16) (hx : w.cell? ⟨g, 2 + s, none⟩ = some (.int .i64 x)) (hy : w.cell? ⟨g, 2 + t, none⟩ = some (.int .i64 y)) (h : y < 0 ∨ mm ≤ y) :
    Calls Tryz.prog 58 #[.pointer (some ⟨g, 0, none⟩), .agg #[.int .u8 k, .int .u8 o, .int .i64 r, .int .i64 s, .int .i64 t, .int .i64 n, .int .i64 mm]] w fun e w' => e = .panicked (endC 3 0) ∧ Below w.heap.size w w' := by
  have hb := ((below_box w (.cells #[.int .u8 k, .int .u8 o, .int .i64 r, .int .i64 s, .int .i64 t, .int .i64 n, .int .i64 mm] 53)).drew)
  have HB := Lib.hid hb
  clear hb
  have hlt := World.block_lt_of_cell? w _ hx
  simp only at hlt
  by_cases h0 : y < 0
  all_goals
    first | (have h1 : mm ≤ y := by omega) | skip
    clear h
    go_enter Tryz.func58, Tryz.ntmps58
    go_wp2_with fail
    go_region
    all_goals
      go_wp2_with fail
      exact ⟨rfl, rfl, HB.out⟩
set_option maxRecDepth 100000 in
theorem part_yes (hs : s < 16) (ht : t < 16) (hx : w.cell? ⟨g, 2 + s, none⟩ = some (.int .i64 x)) (hy : w.cell? ⟨g, 2 + t, none⟩ = some (.int .i64 y)) (hd : w.cell? ⟨g, 18, none⟩ = some (.slice (some ⟨gw, 0, none⟩) nw nw)) (h0 : 0 ≤ y) (h1 : y < mm)
    (a1 a2 : Int) (e1 : IntKind.i64.wrap (x + n) = a1) (e2 : IntKind.i64.wrap (a1 + y) = a2) (hin : 0 ≤ a2 ∧ a2 < nw) :
    Calls Tryz.prog 58 #[.pointer (some ⟨g, 0, none⟩), .agg #[.int .u8 k, .int .u8 o, .int .i64 r, .int .i64 s, .int .i64 t, .int .i64 n, .int .i64 mm]] w fun e w' => e = .returned (.pointer (some ⟨gw, a2.toNat, none⟩)) ∧ Below w.heap.size w w' := by
  have hb := ((below_box w (.cells #[.int .u8 k, .int .u8 o, .int .i64 r, .int .i64 s, .int .i64 t, .int .i64 n, .int .i64 mm] 53)))
  have HB := Lib.hid hb
  have HW := Lib.hid (fun w hc => word_yes g gw nw a2 w hc hin.1 hin.2)
  have hlt := World.block_lt_of_cell? w _ hx
  simp only at hlt
  have hd' : (w.alloc (.cells #[.int .u8 k, .int .u8 o, .int .i64 r, .int .i64 s, .int .i64 t, .int .i64 n, .int .i64 mm] 53)).cell? ⟨g, 18, none⟩ = some (.slice (some ⟨gw, 0, none⟩) nw nw) := (hb.cell (p := ⟨g, 18, none⟩) hlt).trans hd
  have HD := Lib.hid hd'
  clear hb hd' hd hin
  have g0 : ¬ (y < 0) := by omega
  have g1 : ¬ (mm ≤ y) := by omega
  have g2 : decide (y < 0) = false := by simpa using h0
  have g3 : decide (mm ≤ y) = false := by simpa using h1
  have s0 : (0 : Int) ≤ (s : Int) := by omega
  have s1 : (s : Int) < 16 := by omega
  go_enter Tryz.func58, Tryz.ntmps58
  go_wp2_with fail
  go_region
  go_wp2_with fail
  go_region_held3 (fun W => W.cell? ⟨w.heap.size, 3, none⟩ = some (.int .i64 s) ∧ W.cell? ⟨w.heap.size, 5, none⟩ = some (.int .i64 n) ∧ W.cell? ⟨g, 2 + s, none⟩ = some (.int .i64 x)) (go_keep)
    ((go_at_call 57; (with_reducible refine (HW.out _ ?_).mono ?_); exact HD.out; rintro e w' ⟨rfl, rfl⟩))
  go_wp2_with fail
  go_ret
  exact ⟨rfl, HB.out.drew.drew⟩
set_option maxRecDepth 100000 in
theorem part_no (hs : s < 16) (ht : t < 16) (hx : w.cell? ⟨g, 2 + s, none⟩ = some (.int .i64 x)) (hy : w.cell? ⟨g, 2 + t, none⟩ = some (.int .i64 y)) (hd : w.cell? ⟨g, 18, none⟩ = some (.slice (some ⟨gw, 0, none⟩) nw nw)) (h0 : 0 ≤ y) (h1 : y < mm)
    (a1 a2 : Int) (e1 : IntKind.i64.wrap (x + n) = a1) (e2 : IntKind.i64.wrap (a1 + y) = a2) (hin : ¬ (0 ≤ a2 ∧ a2 < nw)) :
    Calls Tryz.prog 58 #[.pointer (some ⟨g, 0, none⟩), .agg #[.int .u8 k, .int .u8 o, .int .i64 r, .int .i64 s, .int .i64 t, .int .i64 n, .int .i64 mm]] w fun e w' => e = .panicked (endC 6 0) ∧ Below w.heap.size w w' := by
  have hb := ((below_box w (.cells #[.int .u8 k, .int .u8 o, .int .i64 r, .int .i64 s, .int .i64 t, .int .i64 n, .int .i64 mm] 53)))
  have HB := Lib.hid hb
  have HW := Lib.hid (fun w hc => word_no g gw nw a2 w hc hin)
  have hlt := World.block_lt_of_cell? w _ hx
  simp only at hlt
  have hd' : (w.alloc (.cells #[.int .u8 k, .int .u8 o, .int .i64 r, .int .i64 s, .int .i64 t, .int .i64 n, .int .i64 mm] 53)).cell? ⟨g, 18, none⟩ = some (.slice (some ⟨gw, 0, none⟩) nw nw) := (hb.cell (p := ⟨g, 18, none⟩) hlt).trans hd
  have HD := Lib.hid hd'
  clear hb hd' hd hin
  have g0 : ¬ (y < 0) := by omega
  have g1 : ¬ (mm ≤ y) := by omega
  have g2 : decide (y < 0) = false := by simpa using h0
  have g3 : decide (mm ≤ y) = false := by simpa using h1
  have s0 : (0 : Int) ≤ (s : Int) := by omega
  have s1 : (s : Int) < 16 := by omega
  go_enter Tryz.func58, Tryz.ntmps58
  go_wp2_with fail
  go_region
  go_wp2_with fail
  refine wp_region_held_drew (S := fun W => W.cell? ⟨w.heap.size, 3, none⟩ = some (.int .i64 s) ∧ W.cell? ⟨w.heap.size, 5, none⟩ = some (.int .i64 n) ∧ W.cell? ⟨g, 2 + s, none⟩ = some (.int .i64 x)) (by kernel_rfl) (by (try dsimp only); go_keep) (fun hHeld => ?_)
  refine wpAnyH_take (i := 0) (v := ?_) rfl (by kernel_rfl) (by kernel_rfl) (by kernel_rfl) (fun _ _ _ h => h) (Or.inl ⟨by rfl, ?hyq0⟩) (by assumption) ?restq0
  case hyq0 => (intro W hSw; (try dsimp only at hSw); go_simp; try (with_reducible rfl))
  (try simp only [Act.put, List.setIfInBounds_toArray])
  refine wpAnyH_take (i := 1) (v := ?_) rfl (by kernel_rfl) (by kernel_rfl) (by kernel_rfl) (fun _ _ _ h => h) (Or.inl ⟨by rfl, ?hyq1⟩) (by assumption) ?restq1
  case hyq1 => (intro W hSw; (try dsimp only at hSw); go_simp; try (with_reducible rfl))
  (try simp only [Act.put])
  refine wpAnyH_take (i := 2) (v := ?_) rfl (by kernel_rfl) (by kernel_rfl) (by kernel_rfl) (fun _ _ _ h => h) (Or.inl ⟨by rfl, ?hyq2⟩) (by assumption) ?restq2
  case hyq2 => (intro W hSw; (try dsimp only at hSw); go_simp; try (with_reducible rfl))
  (try simp only [Act.put])
  refine wpAnyH_take (i := 3) (v := ?_) rfl (by kernel_rfl) (by kernel_rfl) (by kernel_rfl) (fun _ _ _ h => h) (Or.inl ⟨by rfl, ?hyq3⟩) (by assumption) ?restq3
  case hyq3 => (intro W hSw; (try dsimp only at hSw); go_simp; try (with_reducible rfl))
  (try simp only [Act.put])
  refine wpAnyH_take (i := 4) (v := ?_) rfl (by kernel_rfl) (by kernel_rfl) (by kernel_rfl) (fun _ _ _ h => h) (Or.inl ⟨by rfl, ?hyq4⟩) (by assumption) ?restq4
  case hyq4 => (intro W hSw; (try dsimp only at hSw); go_simp; try (with_reducible rfl))
  (try simp only [Act.put])
  refine wpAnyH_take (i := 5) (v := ?_) rfl (by kernel_rfl) (by kernel_rfl) (by kernel_rfl) (fun _ _ _ h => h) (Or.inl ⟨by rfl, ?hyq5⟩) (by assumption) ?restq5
  case hyq5 => (intro W hSw; (try dsimp only at hSw); go_simp; try (with_reducible rfl))
  (try simp only [Act.put])
  refine wpAnyH_take (i := 6) (v := ?_) rfl (by kernel_rfl) (by kernel_rfl) (by kernel_rfl) (fun _ _ _ h => h) (Or.inl ⟨by rfl, ?hyq6⟩) (by assumption) ?restq6
  case hyq6 => (intro W hSw; (try dsimp only at hSw); go_simp; try (with_reducible rfl))
  (try simp only [Act.put])
  refine wpAnyH_take (i := 7) (v := ?_) rfl (by kernel_rfl) (by kernel_rfl) (by kernel_rfl) (fun _ _ _ h => h) (Or.inl ⟨by rfl, ?hyq7⟩) (by assumption) ?restq7
  case hyq7 => (intro W hSw; (try dsimp only at hSw); go_simp; try (with_reducible rfl))
  (try simp only [Act.put])
  refine wpAnyH_take (i := 8) (v := ?_) rfl (by kernel_rfl) (by kernel_rfl) (by kernel_rfl) (fun _ _ _ h => h) (Or.inl ⟨by rfl, ?hyq8⟩) (by assumption) ?restq8
  case hyq8 => (intro W hSw; (try dsimp only at hSw); go_simp; try (with_reducible rfl))
  (try simp only [Act.put])
  refine wpAnyH_take (i := 9) (v := ?_) rfl (by kernel_rfl) (by kernel_rfl) (by kernel_rfl) (fun _ _ _ h => h) (Or.inl ⟨by rfl, ?hyq9⟩) (by assumption) ?restq9
  case hyq9 => (intro W hSw; (try dsimp only at hSw); go_simp; try (with_reducible rfl))
  (try simp only [Act.put])
  refine wpAnyH_take (i := 10) (v := ?_) rfl (by kernel_rfl) (by kernel_rfl) (by kernel_rfl) (fun _ _ _ h => h) (Or.inl ⟨by rfl, ?hyq10⟩) (by assumption) ?restq10
  case hyq10 => (intro W hSw; (try dsimp only at hSw); go_simp; try (with_reducible rfl))
  (try simp only [Act.put])
  refine wpAnyH_take (i := 11) (v := ?_) rfl (by kernel_rfl) (by kernel_rfl) (by kernel_rfl) (fun _ _ _ h => h) (Or.inl ⟨by rfl, ?hyq11⟩) (by assumption) ?restq11
  case hyq11 => (intro W hSw; (try dsimp only at hSw); go_simp; try (with_reducible rfl))
  (try simp only [Act.put])
  refine wpAnyH_take (i := 12) (v := ?_) rfl (by kernel_rfl) (by kernel_rfl) (by kernel_rfl) (fun _ _ _ h => h) (Or.inl ⟨by rfl, ?hyq12⟩) (by assumption) ?restq12
  case hyq12 => (intro W hSw; (try dsimp only at hSw); go_simp; try (with_reducible rfl))
  (try simp only [Act.put])
  refine wpAnyH_ready (rs := [13]) (by kernel_rfl) (by simp) ?_
  refine AllReadyH.cons rfl (fun K hK => ?_) AllReadyH.nil
  go_simp
  trace_state
  go_at_call 57
  (with_reducible refine (HW.out _ ?_).mono ?_)
  · exact HD.out
  rintro e w' ⟨rfl, rfl⟩
  exact ⟨rfl, rfl, HB.out.drew.drew⟩
end

end Go.Proofs.YtdnpoeegefkoiaaGreat

namespace Go.Proofs.YtdnpoeegefkoiaaGreat
open Go Go.RowKit

def DoneE (h n : Int) (w : World) (e : Ending) (w' : World) : Prop := e = .panicked (endC h n) ∧ Below w.heap.size w w'
def DoneT (m : Mc) (S : Nat → Prop) (g : Nat) (i : Ins) (next : Int) (w : World) (e : Ending) (w' : World) : Prop :=
  e = .returned (.int .i64 (goOf m i next)) ∧ ∃ p', MIn w' (grow S w w') g (turnOf m i next) p' ∧ Keeps S w w'
def DoneR (m : Mc) (S : Nat → Prop) (g : Nat) (i : Ins) (next : Int) (w : World) (e : Ending) (w' : World) : Prop :=
  (∃ h n, endOf m i = some (h, n) ∧ DoneE h n w e w') ∨ (endOf m i = none ∧ DoneT m S g i next w e w')

theorem wd_nat (m : Mc) (a : Int) : wd m ((a.toNat : Nat) : Int) = wd m a := by unfold wd; rw [Int.toNat_natCast]
theorem setW_nat (m : Mc) (a x : Int) : setW m ((a.toNat : Nat) : Int) x = setW m a x := by unfold setW; rw [Int.toNat_natCast]
theorem still_of {P : Program} {f : FuncId} {args : Array Value} {w : World} {v : Value} (h : Calls P f args w fun e w' => e = .returned v ∧ w = w') : Calls P f args w fun e w' => e = .returned v ∧ w' = w :=
  h.mono fun _ _ ⟨h1, h2⟩ => ⟨h1, h2.symm⟩
theorem Cell7.far {w : World} {g : Nat} {y : Ins} (h : Cell7 w g y) (p : Addr) (v : Value) (hp : p.block ≠ g) : Cell7 (w.setCell p v) g y := by
  have e1 : ∀ j, (w.setCell p v).cell? ⟨g, j, none⟩ = w.cell? ⟨g, j, none⟩ := fun j => World.cell?_setCell_far _ _ _ _ hp
  unfold Cell7 at *
  simp only [e1]
  exact h
theorem Cell7.and {w : World} {g : Nat} {y : Ins} {q : Prop} (h : Cell7 w g y) (hq : q) : w.cell? ⟨g, 0, none⟩ = some (.int .u8 y.k) ∧ w.cell? ⟨g, 1, none⟩ = some (.int .u8 y.o) ∧ w.cell? ⟨g, 2, none⟩ = some (.int .i64 y.r) ∧ w.cell? ⟨g, 3, none⟩ = some (.int .i64 y.s) ∧ w.cell? ⟨g, 4, none⟩ = some (.int .i64 y.t) ∧ w.cell? ⟨g, 5, none⟩ = some (.int .i64 y.n) ∧ w.cell? ⟨g, 6, none⟩ = some (.int .i64 y.m) ∧ q :=
  ⟨h.1, h.2.1, h.2.2.1, h.2.2.2.1, h.2.2.2.2.1, h.2.2.2.2.2.1, h.2.2.2.2.2.2, hq⟩
section
variable {w w1 w2 : World} {S : Nat → Prop} {g : Nat} {m m' : Mc} {p p' : Mp}
/-- behind all: what is left of the machine -/
theorem doneT {i : Ins} {next v : Int} (hv : v = goOf m i next) (hm : m' = turnOf m i next) (h2 : MIn w2 S g m' p') (hk : Keeps S w w2) (hS : ∀ k, S k → k < w.heap.size) : DoneT m S g i next w (.returned (.int .i64 v)) w2 := by
  subst hv hm
  exact ⟨rfl, p', h2.more (fun k hs => .inl hs) (grow_lt (fun k hs => hS k hs) hk.size), hk⟩
theorem doneO {i : Ins} {next v : Int} {w3 : World} (hv : v = goOf m i next) (hm : m' = turnOf m i next) (hb : Below w.heap.size w w1) (h2 : MIn w2 (grow S w1 w3) g m' p') (hsz : w3.heap.size = w2.heap.size) (hk : Keeps S w w2) (hS : ∀ k, S k → k < w.heap.size) : DoneT m S g i next w (.returned (.int .i64 v)) w2 := by
  subst hv hm
  have hle := hb.size
  have hl2 : ∀ k, grow S w1 w3 k → grow S w w2 k := fun k hs => by
    rcases hs with h | h
    · exact .inl h
    · exact .inr ⟨by omega, by omega⟩
  refine ⟨rfl, p', h2.more hl2 (grow_lt (fun k hs => ?_) hk.size), hk⟩
  exact hS k hs
theorem Keeps.box (h : Keeps S w w1) (o : Obj) : Keeps S w (w1.alloc o).drew := h.trans (Keeps.of_below (below_box w1 o).drew) fun _ hs => .inl hs
theorem MIn.box (h : MIn w S g m p) (o : Obj) : MIn (w.alloc o).drew S g m p := h.below (below_box w o).drew
theorem Keeps.box0 (h : Keeps S w w1) (o : Obj) : Keeps S w (w1.alloc o) := h.trans (Keeps.of_below (below_box w1 o)) fun _ hs => .inl hs
theorem MIn.box0 (h : MIn w S g m p) (o : Obj) : MIn (w.alloc o) S g m p := h.below (below_box w o)
theorem box_cell (w : World) (a : Addr) (u : Value) (cs : Array Value) (t : TypeId) (j : Nat) {v : Value} (h : cs[j]? = some v) : ((w.setCell a u).alloc (.cells cs t)).drew.cell? ⟨w.heap.size, j, none⟩ = some v := by
  have h1 := heap_alloc_new (w.setCell a u) (.cells cs t)
  have h2 : (w.setCell a u).heap.size = w.heap.size := by simp [World.setCell]
  rw [h2] at h1
  have h3 : ((w.setCell a u).alloc (.cells cs t)).drew.heap[w.heap.size]? = some (.cells cs t (0, 0)) := h1
  simp only [World.cell?, h3]
  simpa using h
theorem box_cell3 (w : World) (a b : Addr) (u x : Value) (cs : Array Value) (t : TypeId) (j : Nat) {v : Value} (ha : a.block < w.heap.size) (hb : b.block < w.heap.size) (h : cs[j]? = some v) :
    (((w.alloc (.cells cs t)).setCell a u).setCell b x).cell? ⟨w.heap.size, j, none⟩ = some v := by
  have h1 := heap_alloc_new w (.cells cs t)
  have h2 : (((w.alloc (.cells cs t)).setCell a u).setCell b x).heap[w.heap.size]? = some (.cells cs t (0, 0)) := by
    rw [Below.heap_setCell _ _ _ _ (by omega), Below.heap_setCell _ _ _ _ (by omega)]
    exact h1
  simp only [World.cell?, h2]
  simpa using h
theorem new_cell (w : World) (cs : Array Value) (t : TypeId) (j : Nat) {v : Value} {n : Nat} (hn : w.heap.size = n) (h : cs[j]? = some v) : (w.alloc (.cells cs t)).drew.cell? ⟨n, j, none⟩ = some v := by
  subst hn
  have h1 : (w.alloc (.cells cs t)).drew.heap[w.heap.size]? = some (.cells cs t (0, 0)) := heap_alloc_new w (.cells cs t)
  simp only [World.cell?, h1]
  simpa using h
theorem old_cell (w : World) (o o2 : Obj) {cs : Array Value} {t : TypeId} (ho : o = .cells cs t) (j : Nat) {v : Value} (h : cs[j]? = some v) : ((w.alloc o).alloc o2).drew.cell? ⟨w.heap.size, j, none⟩ = some v := by
  subst ho
  have h1 : ((w.alloc (.cells cs t)).alloc o2).drew.heap[w.heap.size]? = some (.cells cs t (0, 0)) := heap_alloc2_old w _ _
  simp only [World.cell?, h1]
  simpa using h
theorem self_cell {w : World} {g : Nat} {cs : Array Value} {t : TypeId} (h : w.heap[g]? = some (.cells cs t (0, 0))) (j : Nat) : w.cell? ⟨g, j, none⟩ = cs[j]? := by simp [World.cell?, h]
theorem self_frozen {w : World} {g : Nat} {cs : Array Value} {t : TypeId} (h : w.heap[g]? = some (.cells cs t (0, 0))) (j : Nat) : w.frozen? ⟨g, j, none⟩ = false := by simp [World.frozen?, h]
theorem box_cell2D (w : World) (a b : Addr) (u x : Value) (cs : Array Value) (t : TypeId) (j : Nat) {v : Value} (h : cs[j]? = some v) : (((w.setCell a u).setCell b x).alloc (.cells cs t)).drew.cell? ⟨w.heap.size, j, none⟩ = some v := by
  have h1 := heap_alloc_new ((w.setCell a u).setCell b x) (.cells cs t)
  have h2 : ((w.setCell a u).setCell b x).heap.size = w.heap.size := by simp [World.setCell]
  rw [h2] at h1
  have h3 : (((w.setCell a u).setCell b x).alloc (.cells cs t)).drew.heap[w.heap.size]? = some (.cells cs t (0, 0)) := h1
  simp only [World.cell?, h3]
  simpa using h
theorem box_cell2 (w : World) (a b : Addr) (u x : Value) (cs : Array Value) (t : TypeId) (j : Nat) {v : Value} (h : cs[j]? = some v) : (((w.setCell a u).setCell b x).alloc (.cells cs t)).cell? ⟨w.heap.size, j, none⟩ = some v := by
  have h1 := heap_alloc_new ((w.setCell a u).setCell b x) (.cells cs t)
  have h2 : ((w.setCell a u).setCell b x).heap.size = w.heap.size := by simp [World.setCell]
  rw [h2] at h1
  simp only [World.cell?, h1]
  simpa using h
end

end Go.Proofs.YtdnpoeegefkoiaaGreat

namespace Go.Proofs.YtdnpoeegefkoiaaGreat
open Go Go.RowKit

section
variable {w : World} {S : Nat → Prop} {g : Nat} {m : Mc} {p : Mp}
set_option maxRecDepth 100000 in
set_option maxHeartbeats 400000 in
theorem done_num (h : MIn w S g m p) (o s t n mm next : Int) (r : Nat) (hr : r < 16) :
    Calls Tryz.prog 39 #[.pointer (some ⟨g, 0, none⟩), iv ⟨2, o, r, s, t, n, mm⟩, .int .i64 next] w (DoneT m S g ⟨2, o, r, s, t, n, mm⟩ next w) := by
  have H := Lib.hid h
  have hlt := h.lt g h.mem
  have r0 : (0 : Int) ≤ (r : Int) := by omega
  have r1 : (r : Int) < 16 := by omega
  have cr := h.reg hr
  have fr := h.frozen (2 + r)
  clear h
  unfold iv ic
  go_enter Tryz.func39, Tryz.ntmps39
  go_wp2_with fail
  go_region_held3 (fun W => W.cell? ⟨w.heap.size, 2, none⟩ = some (.int .i64 r) ∧ W.cell? ⟨w.heap.size, 5, none⟩ = some (.int .i64 n)) (first | (go_keep; done) | ((try dsimp only); (repeat' apply And.intro) <;> exact box_cell _ _ _ _ _ _ rfl)) (fail)
  go_wp2_with fail
  go_ret
  exact doneT rfl rfl ((H.out.setReg hr n).box _) ((Keeps.set g _ _ H.out.mem _).box _) H.out.lt
set_option maxRecDepth 100000 in
set_option maxHeartbeats 400000 in
theorem done_move (h : MIn w S g m p) (o t n mm next : Int) (r s : Nat) (hr : r < 16) (hs : s < 16) :
    Calls Tryz.prog 39 #[.pointer (some ⟨g, 0, none⟩), iv ⟨3, o, r, s, t, n, mm⟩, .int .i64 next] w (DoneT m S g ⟨3, o, r, s, t, n, mm⟩ next w) := by
  have H := Lib.hid h
  have hlt := h.lt g h.mem
  have r0 : (0 : Int) ≤ (r : Int) := by omega
  have r1 : (r : Int) < 16 := by omega
  have s0 : (0 : Int) ≤ (s : Int) := by omega
  have s1 : (s : Int) < 16 := by omega
  have cr := h.reg hr
  have cs := h.reg hs
  have fr := h.frozen (2 + r)
  clear h
  unfold iv ic
  go_enter Tryz.func39, Tryz.ntmps39
  go_wp2_with fail
  go_region_law (fail)
  all_goals
    go_wp2_with fail
    go_ret
    exact doneT rfl rfl ((H.out.setReg hr (rg m s)).box _) ((Keeps.set g _ _ H.out.mem _).box _) H.out.lt
end

end Go.Proofs.YtdnpoeegefkoiaaGreat

namespace Go.Proofs.YtdnpoeegefkoiaaGreat
open Go Go.RowKit

section
variable {w : World} {S : Nat → Prop} {g : Nat} {m : Mc} {p : Mp}
set_option maxRecDepth 100000 in
set_option maxHeartbeats 400000 in
theorem done_bin (h : MIn w S g m p) (o n mm next : Int) (r s t : Nat) (hr : r < 16) (hs : s < 16) (ht : t < 16) (o1 : 1 ≤ o) (o2 : o ≤ 13) (hd : (o = 4 ∨ o = 5) → ¬ rg m t = 0) :
    Calls Tryz.prog 39 #[.pointer (some ⟨g, 0, none⟩), iv ⟨4, o, r, s, t, n, mm⟩, .int .i64 next] w (DoneT m S g ⟨4, o, r, s, t, n, mm⟩ next w) := by
  have H := Lib.hid h
  have HC := Lib.hid (fun w => still_of (binary_any o (rg m s) (rg m t) o1 o2 hd w))
  have hlt := h.lt g h.mem
  have r0 : (0 : Int) ≤ (r : Int) := by omega
  have r1 : (r : Int) < 16 := by omega
  have s0 : (0 : Int) ≤ (s : Int) := by omega
  have s1 : (s : Int) < 16 := by omega
  have t0 : (0 : Int) ≤ (t : Int) := by omega
  have t1 : (t : Int) < 16 := by omega
  have cr := h.reg hr
  have cs := h.reg hs
  have ct := h.reg ht
  have fr := h.frozen (2 + r)
  clear h o1 o2 hd
  unfold iv ic
  go_enter Tryz.func39, Tryz.ntmps39
  go_wp2_with fail
  refine wp_region_still_tail 23 (by kernel_rfl) (by kernel_rfl) ?_
  change wpStill _ _ (World.drew _) _ _ _
  simp only [List.take_succ_cons, List.take_zero, List.drop_succ_cons, List.drop_zero]
  repeat still_step
  still_call (HC.out _)
  repeat still_step
  refine wpStill_nil ?_
  change wpList _ _ _ _ _ (World.drew _)
  go_wp2_with fail
  go_ret
  exact doneT rfl rfl ((H.out.setReg hr (binV o (rg m s) (rg m t))).box _) ((Keeps.set g _ _ H.out.mem _).box _) H.out.lt
end

end Go.Proofs.YtdnpoeegefkoiaaGreat
