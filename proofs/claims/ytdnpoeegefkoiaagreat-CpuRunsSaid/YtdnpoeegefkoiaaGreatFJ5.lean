/-
  Merged for a claim: C5A, C5B, C5C, C5D, C5E.
-/
import Derived.Test.YtdnpoeegefkoiaaGreatFJ4
import Derived.RegionTactic
import Derived.Deep.RegionHeld3
import Derived.Deep.QuietTactic
import Derived.BigQuiet
import Derived.StillTailTactics
namespace Go.Proofs.YtdnpoeegefkoiaaGreat
open Go Go.RowKit

/-- where the parts of the document's machine stand -/
structure Rp where
  Ac : Option Addr
  cc : Nat
  gr : Nat
  gw : Nat
  vi : Value
  vo : Value
def dC (m : Mc) (p : Rp) : Array Value :=
  #[.slice p.Ac m.code.length p.cc, .int .i64 m.pc, .slice (some ⟨p.gr, 0, none⟩) 16 16, .slice (some ⟨p.gw, 0, none⟩) m.words.length m.words.length, p.vi, p.vo, .int .u8 m.how, .int .i64 m.num]
/-- none of the blocks that are written -/
def still3 (g : Nat) (p : Rp) (k : Nat) : Prop := k ≠ g ∧ k ≠ p.gr ∧ k ≠ p.gw

structure DIn (w : World) (S : Nat → Prop) (g : Nat) (m : Mc) (p : Rp) : Prop where
  lt : ∀ k, S k → k < w.heap.size
  mem : S g
  self : w.heap[g]? = some (.cells (dC m p) 42 (0, 0))
  regs : m.regs.length = 16
  code : LSt w S (still3 g p) p.Ac m.code
  ccap : m.code.length ≤ p.cc
  grS : S p.gr
  gwS : S p.gw
  grg : p.gr ≠ g
  gwg : p.gw ≠ g
  rw_ : p.gr ≠ p.gw
  rblk : IBlk w p.gr m.regs
  wblk : IBlk w p.gw m.words
  inp : IRow w p.vi m.input
  out : IRow w p.vo m.out
  viS : ∀ k, p.vi.ownBlock = some k → S k ∧ still3 g p k
  voS : ∀ k, p.vo.ownBlock = some k → S k ∧ still3 g p k

section
variable {w w' : World} {S S' : Nat → Prop} {g : Nat} {m : Mc} {p : Rp}
theorem DIn.same (h : DIn w S g m p) (hk : ∀ k, S k → w'.heap[k]? = w.heap[k]?) (hs : w.heap.size ≤ w'.heap.size) : DIn w' S g m p :=
  ⟨fun k hS => Nat.lt_of_lt_of_le (h.lt k hS) hs, h.mem, (hk g h.mem).trans h.self, h.regs, h.code.same fun k hS _ => hk k hS, h.ccap, h.grS, h.gwS, h.grg, h.gwg, h.rw_, (hk _ h.grS).trans h.rblk, (hk _ h.gwS).trans h.wblk,
    h.inp.same fun k e => hk k (h.viS k e).1, h.out.same fun k e => hk k (h.voS k e).1, h.viS, h.voS⟩
theorem DIn.keep {T : Nat → Prop} (h : DIn w S g m p) (hk : Keeps T w w') (hT : ∀ k, S k → ¬ T k) : DIn w' S g m p :=
  h.same (fun k hS => hk.block k (h.lt k hS) (hT k hS)) hk.size
theorem DIn.below (h : DIn w S g m p) (hb : Below w.heap.size w w') : DIn w' S g m p := h.same (fun k hS => hb.block k (h.lt k hS)) hb.size
theorem DIn.more (h : DIn w S g m p) (hS : ∀ k, S k → S' k) (hl : ∀ k, S' k → k < w.heap.size) : DIn w S' g m p :=
  ⟨hl, hS g h.mem, h.self, h.regs, h.code.mono hS fun _ _ hn => hn, h.ccap, hS _ h.grS, hS _ h.gwS, h.grg, h.gwg, h.rw_, h.rblk, h.wblk, h.inp, h.out, fun k e => ⟨hS k (h.viS k e).1, (h.viS k e).2⟩, fun k e => ⟨hS k (h.voS k e).1, (h.voS k e).2⟩⟩
theorem DIn.cell (h : DIn w S g m p) (j : Nat) : w.cell? ⟨g, j, none⟩ = (dC m p)[j]? := by
  have := h.self
  simp [World.cell?, this]
theorem DIn.frozen (h : DIn w S g m p) (j : Nat) : w.frozen? ⟨g, j, none⟩ = false := by
  have := h.self
  simp [World.frozen?, this]
theorem DIn.cells (h : DIn w S g m p) : w.cell? ⟨g, 0, none⟩ = some (.slice p.Ac m.code.length p.cc) ∧ w.cell? ⟨g, 1, none⟩ = some (.int .i64 m.pc) ∧ w.cell? ⟨g, 2, none⟩ = some (.slice (some ⟨p.gr, 0, none⟩) 16 16) ∧
    w.cell? ⟨g, 3, none⟩ = some (.slice (some ⟨p.gw, 0, none⟩) m.words.length m.words.length) ∧ w.cell? ⟨g, 4, none⟩ = some p.vi ∧ w.cell? ⟨g, 5, none⟩ = some p.vo ∧ w.cell? ⟨g, 6, none⟩ = some (.int .u8 m.how) ∧ w.cell? ⟨g, 7, none⟩ = some (.int .i64 m.num) :=
  ⟨h.cell 0, h.cell 1, h.cell 2, h.cell 3, h.cell 4, h.cell 5, h.cell 6, h.cell 7⟩
theorem DIn.reg (h : DIn w S g m p) {r : Nat} (hr : r < 16) : w.cell? ⟨p.gr, r, none⟩ = some (.int .i64 (rg m r)) := by
  have := h.rblk.cell (j := r) (by rw [h.regs]; exact hr)
  simpa [rg] using this
theorem DIn.word (h : DIn w S g m p) {a : Nat} (ha : a < m.words.length) : w.cell? ⟨p.gw, a, none⟩ = some (.int .i64 (wd m a)) := by
  have := h.wblk.cell ha
  simpa [wd] using this

/-- a store into its own block that leaves its slices -/
theorem DIn.put (h : DIn w S g m p) {m' : Mc} {p' : Rp} (j : Nat) (v : Value) (hc : (dC m p).setIfInBounds j v = dC m' p') (h1 : m'.code = m.code) (h2 : m'.words = m.words) (h3 : m'.regs = m.regs)
    (e1 : p'.Ac = p.Ac) (e2 : p'.cc = p.cc) (e3 : p'.gw = p.gw) (e4 : p'.gr = p.gr) (hi : IRow w p'.vi m'.input) (ho : IRow w p'.vo m'.out) (hiS : ∀ k, p'.vi.ownBlock = some k → S k ∧ still3 g p k) (hoS : ∀ k, p'.vo.ownBlock = some k → S k ∧ still3 g p k) :
    DIn (w.setCell ⟨g, j, none⟩ v) S g m' p' := by
  have hk : ∀ k, k ≠ g → (w.setCell ⟨g, j, none⟩ v).heap[k]? = w.heap[k]? := fun k hk => Below.heap_setCell w ⟨g, j, none⟩ v k hk
  have hst : still3 g p' = still3 g p := by unfold still3; rw [e3, e4]
  refine ⟨fun k hS => by have := h.lt k hS; simpa [World.setCell] using this, h.mem, ?_, by rw [h3]; exact h.regs, ?_, by rw [h1, e2]; exact h.ccap, by rw [e4]; exact h.grS, by rw [e3]; exact h.gwS, by rw [e4]; exact h.grg, by rw [e3]; exact h.gwg, by rw [e3, e4]; exact h.rw_, ?_, ?_, ?_, ?_, by rw [hst]; exact hiS, by rw [hst]; exact hoS⟩
  · rw [← hc]
    have := h.self
    simp only [World.setCell, Array.getElem?_modify, this]
    simp
  · rw [hst, e1, h1]; exact h.code.same fun k _ hn => hk k hn.1
  · rw [e4, h3]; exact (hk _ h.grg).trans h.rblk
  · rw [e3, h2]; exact (hk _ h.gwg).trans h.wblk
  · exact hi.same fun k e => hk k (hiS k e).2.1
  · exact ho.same fun k e => hk k (hoS k e).2.1
theorem DIn.setPc (h : DIn w S g m p) (x : Int) : DIn (w.setCell ⟨g, 1, none⟩ (.int .i64 x)) S g { m with pc := x } p :=
  h.put 1 _ rfl rfl rfl rfl rfl rfl rfl rfl h.inp h.out h.viS h.voS
theorem DIn.setHow (h : DIn w S g m p) (x : Int) : DIn (w.setCell ⟨g, 6, none⟩ (.int .u8 x)) S g { m with how := x } p :=
  h.put 6 _ rfl rfl rfl rfl rfl rfl rfl rfl h.inp h.out h.viS h.voS
theorem DIn.setNum (h : DIn w S g m p) (x : Int) : DIn (w.setCell ⟨g, 7, none⟩ (.int .i64 x)) S g { m with num := x } p :=
  h.put 7 _ rfl rfl rfl rfl rfl rfl rfl rfl h.inp h.out h.viS h.voS
theorem DIn.setIn (h : DIn w S g m p) (v : Value) (l : List Int) (hi : IRow w v l) (hiS : ∀ k, v.ownBlock = some k → S k ∧ still3 g p k) : DIn (w.setCell ⟨g, 4, none⟩ v) S g { m with input := l } { p with vi := v } :=
  h.put 4 _ rfl rfl rfl rfl rfl rfl rfl rfl hi h.out hiS h.voS
theorem DIn.setOut (h : DIn w S g m p) (v : Value) (l : List Int) (hi : IRow w v l) (hiS : ∀ k, v.ownBlock = some k → S k ∧ still3 g p k) : DIn (w.setCell ⟨g, 5, none⟩ v) S g { m with out := l } { p with vo := v } :=
  h.put 5 _ rfl rfl rfl rfl rfl rfl rfl rfl h.inp hi h.viS hiS
theorem DIn.setReg (h : DIn w S g m p) {r : Nat} (_hr : r < 16) (x : Int) : DIn (w.setCell ⟨p.gr, r, none⟩ (.int .i64 x)) S g (setR m r x) p := by
  have hk : ∀ k, k ≠ p.gr → (w.setCell ⟨p.gr, r, none⟩ (.int .i64 x)).heap[k]? = w.heap[k]? := fun k hk => Below.heap_setCell w ⟨p.gr, r, none⟩ (.int .i64 x) k hk
  refine ⟨fun k hS => by have := h.lt k hS; simpa [World.setCell] using this, h.mem, (hk g h.grg.symm).trans h.self, by simp [setR, h.regs], h.code.same fun k _ hn => hk k hn.2.1, h.ccap, h.grS, h.gwS, h.grg, h.gwg, h.rw_, ?_, (hk _ h.rw_.symm).trans h.wblk,
    h.inp.same fun k e => hk k (h.viS k e).2.2.1, h.out.same fun k e => hk k (h.voS k e).2.2.1, h.viS, h.voS⟩
  have := h.rblk.store r x
  simpa [setR] using this
theorem DIn.setWord (h : DIn w S g m p) (a : Nat) (x : Int) : DIn (w.setCell ⟨p.gw, a, none⟩ (.int .i64 x)) S g (setW m a x) p := by
  have hk : ∀ k, k ≠ p.gw → (w.setCell ⟨p.gw, a, none⟩ (.int .i64 x)).heap[k]? = w.heap[k]? := fun k hk => Below.heap_setCell w ⟨p.gw, a, none⟩ (.int .i64 x) k hk
  refine ⟨fun k hS => by have := h.lt k hS; simpa [World.setCell] using this, h.mem, ?_, h.regs, h.code.same fun k _ hn => hk k hn.2.2, h.ccap, h.grS, h.gwS, h.grg, h.gwg, h.rw_, (hk _ h.rw_).trans h.rblk, ?_,
    h.inp.same fun k e => hk k (h.viS k e).2.2.2, h.out.same fun k e => hk k (h.voS k e).2.2.2, h.viS, h.voS⟩
  · rw [hk g h.gwg.symm, h.self]
    simp [dC, setW]
  · have := h.wblk.store a x
    simpa [setW] using this
theorem DIn.frozenR (h : DIn w S g m p) (j : Nat) : w.frozen? ⟨p.gr, j, none⟩ = false := h.rblk.frozen j
theorem DIn.frozenW (h : DIn w S g m p) (j : Nat) : w.frozen? ⟨p.gw, j, none⟩ = false := h.wblk.frozen j
end

/-- what does answers: how it stands, and the machine as it is then -/
def DoesR (m' : Mc) (h : Int) (S : Nat → Prop) (g : Nat) (w : World) (e : Ending) (w' : World) : Prop :=
  e = .returned (.int .u8 h) ∧ ∃ p', DIn w' (grow S w w') g m' p' ∧ Keeps S w w'
theorem does_of {m m' : Mc} {h v : Int} {S S' : Nat → Prop} {g : Nat} {w w' : World} {p' : Rp} (hv : v = h) (hm : m = m') (hd : DIn w' S' g m p') (hk : Keeps S w w') (hS : ∀ k, S k → k < w.heap.size) (hS' : ∀ k, S' k → S k ∨ (w.heap.size ≤ k ∧ k < w'.heap.size)) : DoesR m' h S g w (.returned (.int .u8 v)) w' := by
  subst hv hm
  exact ⟨rfl, p', hd.more hS' (grow_lt hS hk.size), hk⟩
theorem does_same {m m' : Mc} {h v : Int} {S : Nat → Prop} {g : Nat} {w w' : World} {p' : Rp} (hv : v = h) (hm : m = m') (hd : DIn w' S g m p') (hk : Keeps S w w') (hS : ∀ k, S k → k < w.heap.size) : DoesR m' h S g w (.returned (.int .u8 v)) w' :=
  does_of hv hm hd hk hS fun _ hs => .inl hs
end Go.Proofs.YtdnpoeegefkoiaaGreat

namespace Go.Proofs.YtdnpoeegefkoiaaGreat
open Go Go.RowKit

theorem un_any (o a : Int) (w : World) : Calls Tryz.prog 45 #[.int .u8 o, .int .i64 a] w fun e w' => e = .returned (.int .i64 (unV o a)) ∧ w = w' := by
  by_cases ho : o = 14
  · subst ho
    go_enter Tryz.func45, Tryz.ntmps45
    go_wp2
    go_ret
    exact ⟨rfl, rfl⟩
  · have HO := Lib.hid (show unV o a = wrap64 (-a) by unfold unV; rw [if_neg ho])
    have b0 : (o == 14) = false := by simpa using ho
    clear ho
    go_enter Tryz.func45, Tryz.ntmps45
    go_wp2
    go_ret
    exact ⟨by rw [HO.out]; rfl, rfl⟩

def binE (o b : Int) : Bool := !decide ((o = 4 ∨ o = 5) ∧ b = 0)
def binX (o a b : Int) : Int := if binE o b = true then binV o a b else 0
theorem binX_yes {o a b : Int} (h : ¬ ((o = 4 ∨ o = 5) ∧ b = 0)) : binX o a b = binV o a b ∧ binE o b = true := by
  have : binE o b = true := by unfold binE; rw [decide_eq_false h]; rfl
  exact ⟨by unfold binX; rw [if_pos this], this⟩
theorem binX_no {o a b : Int} (h : (o = 4 ∨ o = 5) ∧ b = 0) : binX o a b = 0 ∧ binE o b = false := by
  have : binE o b = false := by unfold binE; rw [decide_eq_true h]; rfl
  exact ⟨by unfold binX; rw [if_neg (by rw [this]; simp)], this⟩
def BinR (o a b : Int) (w : World) (e : Ending) (w' : World) : Prop := e = .returned (.tuple #[.int .i64 (binX o a b), .bool (binE o b)]) ∧ w = w'

set_option maxRecDepth 100000 in
set_option maxHeartbeats 2000000 in
theorem bin_any (o a b : Int) (h1 : 1 ≤ o) (h2 : o ≤ 13) (w : World) : Calls Tryz.prog 44 #[.int .u8 o, .int .i64 a, .int .i64 b] w (BinR o a b w) := by
  have ho : o = 1 ∨ o = 2 ∨ o = 3 ∨ o = 4 ∨ o = 5 ∨ o = 6 ∨ o = 7 ∨ o = 8 ∨ o = 9 ∨ o = 10 ∨ o = 11 ∨ o = 12 ∨ o = 13 := by omega
  unfold BinR
  clear h1 h2
  rcases ho with rfl | rfl | rfl | rfl | rfl | rfl | rfl | rfl | rfl | rfl | rfl | rfl | rfl
  case inr.inr.inr.inl =>
    by_cases hb : b = 0
    · subst hb
      have HV := Lib.hid (binX_no (a := a) (show (((4 : Int) = 4 ∨ (4 : Int) = 5) ∧ (0 : Int) = 0) from ⟨.inl rfl, rfl⟩))
      go_enter Tryz.func44, Tryz.ntmps44
      go_wp2_with fail
      go_ret2
      exact ⟨by rw [HV.out.1, HV.out.2]; rfl, rfl⟩
    · have HV := Lib.hid (binX_yes (o := 4) (a := a) (b := b) (fun h => hb h.2))
      have b0 : (b == 0) = false := by simpa using hb
      by_cases hn : b = -1
      · subst hn
        have HW := Lib.hid (show binV 4 a (-1) = wrap64 (-a) from congrArg wrap64 (by rw [Int.tdiv_neg, Int.tdiv_one]))
        clear hb
        go_enter Tryz.func44, Tryz.ntmps44
        go_wp2_with fail
        go_ret2
        exact ⟨by rw [HV.out.1, HV.out.2, HW.out]; rfl, rfl⟩
      · have b1 : (b == -1) = false := by simpa using hn
        go_enter Tryz.func44, Tryz.ntmps44
        go_wp2_with fail
        go_ret2
        exact ⟨by rw [HV.out.1, HV.out.2]; rfl, rfl⟩
  case inr.inr.inr.inr.inl =>
    by_cases hb : b = 0
    · subst hb
      have HV := Lib.hid (binX_no (a := a) (show (((5 : Int) = 4 ∨ (5 : Int) = 5) ∧ (0 : Int) = 0) from ⟨.inr rfl, rfl⟩))
      go_enter Tryz.func44, Tryz.ntmps44
      go_wp2_with fail
      go_ret2
      exact ⟨by rw [HV.out.1, HV.out.2]; rfl, rfl⟩
    · have HV := Lib.hid (binX_yes (o := 5) (a := a) (b := b) (fun h => hb h.2))
      have b0 : (b == 0) = false := by simpa using hb
      by_cases hn : b = -1
      · subst hn
        have HW := Lib.hid (show binV 5 a (-1) = 0 from by show a.tmod (-1) = 0; rw [Int.tmod_neg, Int.tmod_one])
        clear hb
        go_enter Tryz.func44, Tryz.ntmps44
        go_wp2_with fail
        go_ret2
        exact ⟨by rw [HV.out.1, HV.out.2, HW.out]; rfl, rfl⟩
      · have b1 : (b == -1) = false := by simpa using hn
        go_enter Tryz.func44, Tryz.ntmps44
        go_wp2_with fail
        go_ret2
        exact ⟨by rw [HV.out.1, HV.out.2]; rfl, rfl⟩
  case inl | inr.inl | inr.inr.inl | inr.inr.inr.inr.inr.inr.inr.inr.inr.inr.inr.inl | inr.inr.inr.inr.inr.inr.inr.inr.inr.inr.inr.inr =>
    have HV := Lib.hid (fun o h => binX_yes (o := o) (a := a) (b := b) h)
    go_enter Tryz.func44, Tryz.ntmps44
    go_wp2_with fail
    go_ret2
    exact ⟨by rw [(HV.out _ (by omega)).1, (HV.out _ (by omega)).2]; rfl, rfl⟩
  case inr.inr.inr.inr.inr.inl =>
    have HV := Lib.hid (binX_yes (o := 6) (a := a) (b := b) (by omega))
    have HW := Lib.hid (show binV 6 a b = truthV (a == b) from rfl)
    cases hq : (a == b)
    all_goals
      rw [hq] at HW
      go_enter Tryz.func44, Tryz.ntmps44
      go_wp2_with fail
      go_ret2
      exact ⟨by rw [HV.out.1, HV.out.2, HW.out]; rfl, rfl⟩
  case inr.inr.inr.inr.inr.inr.inl =>
    have HV := Lib.hid (binX_yes (o := 7) (a := a) (b := b) (by omega))
    have HW := Lib.hid (show binV 7 a b = truthV (a != b) from rfl)
    cases hq : (a != b)
    all_goals
      rw [hq] at HW
      go_enter Tryz.func44, Tryz.ntmps44
      go_wp2_with fail
      go_ret2
      exact ⟨by rw [HV.out.1, HV.out.2, HW.out]; rfl, rfl⟩
  case inr.inr.inr.inr.inr.inr.inr.inl =>
    have HV := Lib.hid (binX_yes (o := 8) (a := a) (b := b) (by omega))
    have HW := Lib.hid (show binV 8 a b = truthV (decide (a < b)) from rfl)
    by_cases hq : a < b
    · rw [decide_eq_true hq] at HW
      go_enter Tryz.func44, Tryz.ntmps44
      go_wp2_with fail
      go_ret2
      exact ⟨by rw [HV.out.1, HV.out.2, HW.out]; rfl, rfl⟩
    · rw [decide_eq_false hq] at HW
      go_enter Tryz.func44, Tryz.ntmps44
      go_wp2_with fail
      go_ret2
      exact ⟨by rw [HV.out.1, HV.out.2, HW.out]; rfl, rfl⟩
  case inr.inr.inr.inr.inr.inr.inr.inr.inl =>
    have HV := Lib.hid (binX_yes (o := 9) (a := a) (b := b) (by omega))
    have HW := Lib.hid (show binV 9 a b = truthV (decide (a ≤ b)) from rfl)
    by_cases hq : a ≤ b
    · rw [decide_eq_true hq] at HW
      go_enter Tryz.func44, Tryz.ntmps44
      go_wp2_with fail
      go_ret2
      exact ⟨by rw [HV.out.1, HV.out.2, HW.out]; rfl, rfl⟩
    · rw [decide_eq_false hq] at HW
      go_enter Tryz.func44, Tryz.ntmps44
      go_wp2_with fail
      go_ret2
      exact ⟨by rw [HV.out.1, HV.out.2, HW.out]; rfl, rfl⟩
  case inr.inr.inr.inr.inr.inr.inr.inr.inr.inl =>
    have HV := Lib.hid (binX_yes (o := 10) (a := a) (b := b) (by omega))
    have HW := Lib.hid (show binV 10 a b = truthV (decide (b < a)) from rfl)
    by_cases hq : b < a
    · rw [decide_eq_true hq] at HW
      go_enter Tryz.func44, Tryz.ntmps44
      go_wp2_with fail
      go_ret2
      exact ⟨by rw [HV.out.1, HV.out.2, HW.out]; rfl, rfl⟩
    · rw [decide_eq_false hq] at HW
      go_enter Tryz.func44, Tryz.ntmps44
      go_wp2_with fail
      go_ret2
      exact ⟨by rw [HV.out.1, HV.out.2, HW.out]; rfl, rfl⟩
  case inr.inr.inr.inr.inr.inr.inr.inr.inr.inr.inl =>
    have HV := Lib.hid (binX_yes (o := 11) (a := a) (b := b) (by omega))
    have HW := Lib.hid (show binV 11 a b = truthV (decide (b ≤ a)) from rfl)
    by_cases hq : b ≤ a
    · rw [decide_eq_true hq] at HW
      go_enter Tryz.func44, Tryz.ntmps44
      go_wp2_with fail
      go_ret2
      exact ⟨by rw [HV.out.1, HV.out.2, HW.out]; rfl, rfl⟩
    · rw [decide_eq_false hq] at HW
      go_enter Tryz.func44, Tryz.ntmps44
      go_wp2_with fail
      go_ret2
      exact ⟨by rw [HV.out.1, HV.out.2, HW.out]; rfl, rfl⟩

section
variable {w : World} {S : Nat → Prop} {g : Nat} {m : Mc} {p : Rp}
theorem there_any (h : DIn w S g m p) (a : Int) : Calls Tryz.prog 46 #[.pointer (some ⟨g, 0, none⟩), .int .i64 a] w fun e w' => e = .returned (.bool (hasW m a)) ∧ w = w' := by
  have c := h.cells.2.2.2.1
  clear h
  by_cases h0 : 0 ≤ a
  · by_cases h1 : a < (m.words.length : Int)
    · have HV := Lib.hid (show hasW m a = true from decide_eq_true ⟨h0, h1⟩)
      go_enter Tryz.func46, Tryz.ntmps46
      go_wp2
      go_ret
      exact ⟨by rw [HV.out]; rfl, rfl⟩
    · have HV := Lib.hid (show hasW m a = false from decide_eq_false (fun q => h1 q.2))
      go_enter Tryz.func46, Tryz.ntmps46
      go_wp2
      go_ret
      exact ⟨by rw [HV.out]; rfl, rfl⟩
  · have HV := Lib.hid (show hasW m a = false from decide_eq_false (fun q => h0 q.1))
    go_enter Tryz.func46, Tryz.ntmps46
    go_wp2
    go_ret
    exact ⟨by rw [HV.out]; rfl, rfl⟩
end
end Go.Proofs.YtdnpoeegefkoiaaGreat

namespace Go.Proofs.YtdnpoeegefkoiaaGreat
open Go Go.RowKit

/-- the facts that every walk of does wants -/
theorem DIn.facts {w : World} {S : Nat → Prop} {g : Nat} {m : Mc} {p : Rp} (h : DIn w S g m p) : (g < w.heap.size ∧ p.gr < w.heap.size ∧ p.gw < w.heap.size) ∧ (∀ j, w.frozen? ⟨g, j, none⟩ = false) ∧ (∀ j, w.frozen? ⟨p.gr, j, none⟩ = false) ∧ (∀ j, w.frozen? ⟨p.gw, j, none⟩ = false) :=
  ⟨⟨h.lt _ h.mem, h.lt _ h.grS, h.lt _ h.gwS⟩, h.frozen, h.frozenR, h.frozenW⟩
section
variable {w w1 : World} {S : Nat → Prop} {g : Nat} {m : Mc} {p : Rp}
theorem DIn.al (h : DIn w S g m p) (o : Obj) : DIn (w.alloc o) S g m p := h.below (below_box w o)
theorem DIn.dr (h : DIn w S g m p) : DIn w.drew S g m p := h.same (fun _ _ => rfl) (Nat.le_refl _)
theorem DIn.drN (h : DIn w S g m p) (n : Nat) : DIn (w.drewN n) S g m p := h.same (fun _ _ => rfl) (Nat.le_refl _)
theorem Keeps.al (h : Keeps S w w1) (o : Obj) : Keeps S w (w1.alloc o) := h.trans (Keeps.of_below (below_box w1 o)) fun _ hs => .inl hs
theorem Keeps.dr (h : Keeps S w w1) : Keeps S w w1.drew := ⟨h.os, h.tape, h.output, h.size, h.block⟩
theorem Keeps.drN (h : Keeps S w w1) (n : Nat) : Keeps S w (w1.drewN n) := ⟨h.os, h.tape, h.output, h.size, h.block⟩
theorem Keeps.st (h : Keeps S w w1) {a : Nat} (hS : S a) (j : Nat) (v : Value) : Keeps S w (w1.setCell ⟨a, j, Option.none⟩ v) := h.trans (Keeps.set a j v hS w1) fun _ hs => .inl hs
end

section
variable {w : World} {S : Nat → Prop} {g : Nat} {m : Mc} {p : Rp}
set_option maxRecDepth 100000 in
set_option maxHeartbeats 400000 in
theorem does_nop (h : DIn w S g m p) (o r t n mm next : Int) :
    Calls Tryz.prog 29 #[.pointer (some ⟨g, 0, none⟩), iv ⟨1, o, r, 0, t, n, mm⟩, .int .i64 next] w (DoesR ({ m with pc := next }) 0 S g w) := by
  have H := Lib.hid h
  obtain ⟨⟨l0, l1, l2⟩, f0, f1, f2⟩ := h.facts
  obtain ⟨c0, c1, c2, c3, c4, c5, c6, c7⟩ := h.cells
  have n1 : p.gr ≠ g := h.grg
  have n2 : p.gw ≠ g := h.gwg
  have n3 : p.gr ≠ p.gw := h.rw_
  have cs := h.reg (r := 0) (by omega)
  have fp := f0 1
  clear h f0 f1 f2 c0 c3 c4 c5 c6 c7
  unfold iv ic
  go_enter Tryz.func29, Tryz.ntmps29
  go_wp2_with fail
  go_region
  go_wp2_with fail
  go_ret
  exact does_same rfl rfl (((H.out.setPc next).al _).dr) ((((Keeps.refl S w).st H.out.mem _ _).al _).dr) H.out.lt
set_option maxRecDepth 100000 in
set_option maxHeartbeats 400000 in
theorem does_num (h : DIn w S g m p) (o t n mm next : Int) (r : Nat) (hr : r < 16) :
    Calls Tryz.prog 29 #[.pointer (some ⟨g, 0, none⟩), iv ⟨2, o, r, 0, t, n, mm⟩, .int .i64 next] w (DoesR ({ setR m r n with pc := next }) 0 S g w) := by
  have H := Lib.hid h
  obtain ⟨⟨l0, l1, l2⟩, f0, f1, f2⟩ := h.facts
  obtain ⟨c0, c1, c2, c3, c4, c5, c6, c7⟩ := h.cells
  have n1 : p.gr ≠ g := h.grg
  have n2 : p.gw ≠ g := h.gwg
  have n3 : p.gr ≠ p.gw := h.rw_
  have r0 : (0 : Int) ≤ (r : Int) := by omega
  have r1 : (r : Int) < 16 := by omega
  have cr := h.reg hr
  have cs := h.reg (r := 0) (by omega)
  have fp := f0 1
  have fr := f1 r
  clear h f0 f1 f2 c0 c3 c4 c5 c6 c7
  unfold iv ic
  go_enter Tryz.func29, Tryz.ntmps29
  go_wp2_with fail
  go_region
  go_wp2_with fail
  go_region
  go_wp2_with fail
  go_ret
  exact does_same rfl rfl ((((H.out.setReg hr n).setPc next).al _).dr.dr) (((((Keeps.refl S w).st H.out.grS _ _).st H.out.mem _ _).al _).dr.dr) H.out.lt
set_option maxRecDepth 100000 in
set_option maxHeartbeats 400000 in
theorem does_move (h : DIn w S g m p) (o t n mm next : Int) (r s : Nat) (hr : r < 16) (hs : s < 16) :
    Calls Tryz.prog 29 #[.pointer (some ⟨g, 0, none⟩), iv ⟨3, o, r, s, t, n, mm⟩, .int .i64 next] w (DoesR ({ setR m r (rg m s) with pc := next }) 0 S g w) := by
  have H := Lib.hid h
  obtain ⟨⟨l0, l1, l2⟩, f0, f1, f2⟩ := h.facts
  obtain ⟨c0, c1, c2, c3, c4, c5, c6, c7⟩ := h.cells
  have n1 : p.gr ≠ g := h.grg
  have n2 : p.gw ≠ g := h.gwg
  have n3 : p.gr ≠ p.gw := h.rw_
  have r0 : (0 : Int) ≤ (r : Int) := by omega
  have r1 : (r : Int) < 16 := by omega
  have cr := h.reg hr
  have s0 : (0 : Int) ≤ (s : Int) := by omega
  have s1 : (s : Int) < 16 := by omega
  have cs := h.reg hs
  have fp := f0 1
  have fr := f1 r
  clear h f0 f1 f2 c0 c3 c4 c5 c6 c7
  unfold iv ic
  go_enter Tryz.func29, Tryz.ntmps29
  go_wp2_with fail
  go_region
  go_wp2_with fail
  go_region
  go_wp2_with fail
  go_ret
  exact does_same rfl rfl ((((H.out.setReg hr (rg m s)).setPc next).al _).dr.dr) (((((Keeps.refl S w).st H.out.grS _ _).st H.out.mem _ _).al _).dr.dr) H.out.lt
set_option maxRecDepth 100000 in
set_option maxHeartbeats 400000 in
theorem does_jump (h : DIn w S g m p) (o r t n mm next : Int) :
    Calls Tryz.prog 29 #[.pointer (some ⟨g, 0, none⟩), iv ⟨10, o, r, 0, t, n, mm⟩, .int .i64 next] w (DoesR ({ m with pc := n }) 0 S g w) := by
  have H := Lib.hid h
  obtain ⟨⟨l0, l1, l2⟩, f0, f1, f2⟩ := h.facts
  obtain ⟨c0, c1, c2, c3, c4, c5, c6, c7⟩ := h.cells
  have n1 : p.gr ≠ g := h.grg
  have n2 : p.gw ≠ g := h.gwg
  have n3 : p.gr ≠ p.gw := h.rw_
  have cs := h.reg (r := 0) (by omega)
  have fp := f0 1
  clear h f0 f1 f2 c0 c3 c4 c5 c6 c7
  unfold iv ic
  go_enter Tryz.func29, Tryz.ntmps29
  go_wp2_with fail
  go_region
  go_wp2_with fail
  go_ret
  exact does_same rfl rfl (((H.out.setPc n).al _).dr) ((((Keeps.refl S w).st H.out.mem _ _).al _).dr) H.out.lt
set_option maxRecDepth 100000 in
set_option maxHeartbeats 400000 in
theorem does_zero (h : DIn w S g m p) (o t n mm next : Int) (r : Nat) (hr : r < 16) (hz : rg m r = 0) :
    Calls Tryz.prog 29 #[.pointer (some ⟨g, 0, none⟩), iv ⟨11, o, r, 0, t, n, mm⟩, .int .i64 next] w (DoesR ({ m with pc := n }) 0 S g w) := by
  have H := Lib.hid h
  obtain ⟨⟨l0, l1, l2⟩, f0, f1, f2⟩ := h.facts
  obtain ⟨c0, c1, c2, c3, c4, c5, c6, c7⟩ := h.cells
  have n1 : p.gr ≠ g := h.grg
  have n2 : p.gw ≠ g := h.gwg
  have n3 : p.gr ≠ p.gw := h.rw_
  have r0 : (0 : Int) ≤ (r : Int) := by omega
  have r1 : (r : Int) < 16 := by omega
  have cr := h.reg hr
  have cs := h.reg (r := 0) (by omega)
  have fp := f0 1
  rw [hz] at cr
  clear h f0 f1 f2 c0 c3 c4 c5 c6 c7
  unfold iv ic
  go_enter Tryz.func29, Tryz.ntmps29
  go_wp2_with fail
  go_region
  go_wp2_with fail
  go_region
  go_wp2_with fail
  go_ret
  exact does_same rfl rfl (((H.out.setPc n).al _).dr.dr) ((((Keeps.refl S w).st H.out.mem _ _).al _).dr.dr) H.out.lt
set_option maxRecDepth 100000 in
set_option maxHeartbeats 400000 in
theorem does_more (h : DIn w S g m p) (o t n mm next : Int) (r : Nat) (hr : r < 16) (hz : rg m r ≠ 0) :
    Calls Tryz.prog 29 #[.pointer (some ⟨g, 0, none⟩), iv ⟨11, o, r, 0, t, n, mm⟩, .int .i64 next] w (DoesR ({ m with pc := next }) 0 S g w) := by
  have H := Lib.hid h
  obtain ⟨⟨l0, l1, l2⟩, f0, f1, f2⟩ := h.facts
  obtain ⟨c0, c1, c2, c3, c4, c5, c6, c7⟩ := h.cells
  have n1 : p.gr ≠ g := h.grg
  have n2 : p.gw ≠ g := h.gwg
  have n3 : p.gr ≠ p.gw := h.rw_
  have r0 : (0 : Int) ≤ (r : Int) := by omega
  have r1 : (r : Int) < 16 := by omega
  have cr := h.reg hr
  have cs := h.reg (r := 0) (by omega)
  have fp := f0 1
  have hz2 : (rg m r == 0) = false := by simpa using hz
  clear hz
  clear h f0 f1 f2 c0 c3 c4 c5 c6 c7
  unfold iv ic
  go_enter Tryz.func29, Tryz.ntmps29
  go_wp2_with fail
  go_region
  go_wp2_with fail
  go_region
  go_wp2_with fail
  go_ret
  exact does_same rfl rfl (((H.out.setPc next).al _).dr.dr) ((((Keeps.refl S w).st H.out.mem _ _).al _).dr.dr) H.out.lt
set_option maxRecDepth 100000 in
set_option maxHeartbeats 400000 in
theorem does_halt (h : DIn w S g m p) (o t n mm next : Int) (r : Nat) (hr : r < 16) :
    Calls Tryz.prog 29 #[.pointer (some ⟨g, 0, none⟩), iv ⟨17, o, r, 0, t, n, mm⟩, .int .i64 next] w (DoesR ({ m with num := rg m r }) 1 S g w) := by
  have H := Lib.hid h
  obtain ⟨⟨l0, l1, l2⟩, f0, f1, f2⟩ := h.facts
  obtain ⟨c0, c1, c2, c3, c4, c5, c6, c7⟩ := h.cells
  have n1 : p.gr ≠ g := h.grg
  have n2 : p.gw ≠ g := h.gwg
  have n3 : p.gr ≠ p.gw := h.rw_
  have r0 : (0 : Int) ≤ (r : Int) := by omega
  have r1 : (r : Int) < 16 := by omega
  have cr := h.reg hr
  have cs := h.reg (r := 0) (by omega)
  have fn := f0 7
  clear h f0 f1 f2 c0 c3 c4 c5 c6
  unfold iv ic
  go_enter Tryz.func29, Tryz.ntmps29
  go_wp2_with fail
  go_region
  go_wp2_with fail
  go_region
  go_wp2_with fail
  go_ret
  exact does_same rfl rfl (((H.out.setNum (rg m r)).al _).dr.dr) ((((Keeps.refl S w).st H.out.mem _ _).al _).dr.dr) H.out.lt
set_option maxRecDepth 100000 in
set_option maxHeartbeats 400000 in
theorem does_trap (h : DIn w S g m p) (o r t n mm next : Int) (hn : n = 2 ∨ n = 3 ∨ n = 4) :
    Calls Tryz.prog 29 #[.pointer (some ⟨g, 0, none⟩), iv ⟨18, o, r, 0, t, n, mm⟩, .int .i64 next] w (DoesR m n S g w) := by
  have H := Lib.hid h
  obtain ⟨⟨l0, l1, l2⟩, f0, f1, f2⟩ := h.facts
  obtain ⟨c0, c1, c2, c3, c4, c5, c6, c7⟩ := h.cells
  have cs := h.reg (r := 0) (by omega)
  clear h f0 f1 f2 c0 c1 c3 c4 c5 c6 c7
  unfold iv ic
  rcases hn with rfl | rfl | rfl
  all_goals
    go_enter Tryz.func29, Tryz.ntmps29
    go_wp2_with fail
    go_region
    go_wp2_with fail
    go_ret
    exact does_same rfl rfl (H.out.al _).dr ((Keeps.refl S w).al _).dr H.out.lt
end
end Go.Proofs.YtdnpoeegefkoiaaGreat

namespace Go.Proofs.YtdnpoeegefkoiaaGreat
open Go Go.RowKit

section
variable {w : World} {S : Nat → Prop} {g : Nat} {m : Mc} {p : Rp}
set_option maxRecDepth 100000 in
set_option maxHeartbeats 400000 in
theorem does_bin (h : DIn w S g m p) (o n mm next : Int) (r s t : Nat) (hr : r < 16) (hs : s < 16) (ht : t < 16) (o1 : 1 ≤ o) (o2 : o ≤ 13) (hz : ¬ ((o = 4 ∨ o = 5) ∧ rg m t = 0)) :
    Calls Tryz.prog 29 #[.pointer (some ⟨g, 0, none⟩), iv ⟨4, o, r, s, t, n, mm⟩, .int .i64 next] w (DoesR ({ setR m r (binV o (rg m s) (rg m t)) with pc := next }) 0 S g w) := by
  have H := Lib.hid h
  obtain ⟨⟨l0, l1, l2⟩, f0, f1, f2⟩ := h.facts
  obtain ⟨c0, c1, c2, c3, c4, c5, c6, c7⟩ := h.cells
  have n1 : p.gr ≠ g := h.grg
  have n2 : p.gw ≠ g := h.gwg
  have n3 : p.gr ≠ p.gw := h.rw_
  have r0 : (0 : Int) ≤ (r : Int) := by omega
  have r1 : (r : Int) < 16 := by omega
  have cr := h.reg hr
  have s0 : (0 : Int) ≤ (s : Int) := by omega
  have s1 : (s : Int) < 16 := by omega
  have cs := h.reg hs
  have t0 : (0 : Int) ≤ (t : Int) := by omega
  have t1 : (t : Int) < 16 := by omega
  have ct := h.reg ht
  have fp := f0 1
  have fr := f1 r
  have HB := Lib.hid (fun w => bin_any o (rg m s) (rg m t) o1 o2 w)
  unfold BinR at HB
  obtain ⟨x1, x2⟩ := binX_yes (a := rg m s) hz
  rw [x1, x2] at HB
  clear x1 x2 hz o1 o2
  clear h f0 f1 f2 c0 c3 c4 c5 c6 c7
  unfold iv ic
  go_enter Tryz.func29, Tryz.ntmps29
  go_wp2_with fail
  go_region
  go_wp2_with fail
  refine wp_region_still_tail 16 (by kernel_rfl) (by kernel_rfl) ?_
  change wpStill _ _ (World.drew _) _ _ _
  simp only [List.take_succ_cons, List.take_zero, List.drop_succ_cons, List.drop_zero]
  repeat still_step
  still_call (still_of (HB.out _))
  repeat still_step
  refine wpStill_nil ?_
  change wpList _ _ _ _ _ (World.drew _)
  go_wp2_with fail
  go_wp2_with fail
  go_region
  go_wp2_with fail
  go_ret
  exact does_same rfl rfl ((((H.out.setReg hr (binV o (rg m s) (rg m t))).setPc next).al _).dr.dr.dr) (((((Keeps.refl S w).st H.out.grS _ _).st H.out.mem _ _).al _).dr.dr.dr) H.out.lt
set_option maxRecDepth 100000 in
set_option maxHeartbeats 400000 in
theorem does_bin_no (h : DIn w S g m p) (o n mm next : Int) (r s t : Nat) (hr : r < 16) (hs : s < 16) (ht : t < 16) (o1 : 1 ≤ o) (o2 : o ≤ 13) (hz : (o = 4 ∨ o = 5) ∧ rg m t = 0) :
    Calls Tryz.prog 29 #[.pointer (some ⟨g, 0, none⟩), iv ⟨4, o, r, s, t, n, mm⟩, .int .i64 next] w (DoesR (m) 2 S g w) := by
  have H := Lib.hid h
  obtain ⟨⟨l0, l1, l2⟩, f0, f1, f2⟩ := h.facts
  obtain ⟨c0, c1, c2, c3, c4, c5, c6, c7⟩ := h.cells
  have n1 : p.gr ≠ g := h.grg
  have n2 : p.gw ≠ g := h.gwg
  have n3 : p.gr ≠ p.gw := h.rw_
  have r0 : (0 : Int) ≤ (r : Int) := by omega
  have r1 : (r : Int) < 16 := by omega
  have cr := h.reg hr
  have s0 : (0 : Int) ≤ (s : Int) := by omega
  have s1 : (s : Int) < 16 := by omega
  have cs := h.reg hs
  have t0 : (0 : Int) ≤ (t : Int) := by omega
  have t1 : (t : Int) < 16 := by omega
  have ct := h.reg ht
  have HB := Lib.hid (fun w => bin_any o (rg m s) (rg m t) o1 o2 w)
  unfold BinR at HB
  obtain ⟨x1, x2⟩ := binX_no (a := rg m s) hz
  rw [x1, x2] at HB
  clear x1 x2 hz o1 o2
  clear h f0 f1 f2 c0 c3 c4 c5 c6 c7
  unfold iv ic
  go_enter Tryz.func29, Tryz.ntmps29
  go_wp2_with fail
  go_region
  go_wp2_with fail
  refine wp_region_still_tail 16 (by kernel_rfl) (by kernel_rfl) ?_
  change wpStill _ _ (World.drew _) _ _ _
  simp only [List.take_succ_cons, List.take_zero, List.drop_succ_cons, List.drop_zero]
  repeat still_step
  still_call (still_of (HB.out _))
  repeat still_step
  refine wpStill_nil ?_
  change wpList _ _ _ _ _ (World.drew _)
  go_wp2_with fail
  go_wp2_with fail
  go_ret
  exact does_same rfl rfl (((H.out).al _).dr.dr) (((Keeps.refl S w).al _).dr.dr) H.out.lt
set_option maxRecDepth 100000 in
set_option maxHeartbeats 400000 in
theorem does_un (h : DIn w S g m p) (o t n mm next : Int) (r s : Nat) (hr : r < 16) (hs : s < 16) :
    Calls Tryz.prog 29 #[.pointer (some ⟨g, 0, none⟩), iv ⟨5, o, r, s, t, n, mm⟩, .int .i64 next] w (DoesR ({ setR m r (unV o (rg m s)) with pc := next }) 0 S g w) := by
  have H := Lib.hid h
  obtain ⟨⟨l0, l1, l2⟩, f0, f1, f2⟩ := h.facts
  obtain ⟨c0, c1, c2, c3, c4, c5, c6, c7⟩ := h.cells
  have n1 : p.gr ≠ g := h.grg
  have n2 : p.gw ≠ g := h.gwg
  have n3 : p.gr ≠ p.gw := h.rw_
  have r0 : (0 : Int) ≤ (r : Int) := by omega
  have r1 : (r : Int) < 16 := by omega
  have cr := h.reg hr
  have s0 : (0 : Int) ≤ (s : Int) := by omega
  have s1 : (s : Int) < 16 := by omega
  have cs := h.reg hs
  have fp := f0 1
  have fr := f1 r
  have HB := Lib.hid (fun w => un_any o (rg m s) w)
  clear h f0 f1 f2 c0 c3 c4 c5 c6 c7
  unfold iv ic
  go_enter Tryz.func29, Tryz.ntmps29
  go_wp2_with fail
  go_region
  go_wp2_with fail
  refine wp_region_still_tail 11 (by kernel_rfl) (by kernel_rfl) ?_
  change wpStill _ _ (World.drew _) _ _ _
  simp only [List.take_succ_cons, List.take_zero, List.drop_succ_cons, List.drop_zero]
  repeat still_step
  still_call (still_of (HB.out _))
  repeat still_step
  refine wpStill_nil ?_
  change wpList _ _ _ _ _ (World.drew _)
  go_wp2_with fail
  go_ret
  exact does_same rfl rfl ((((H.out.setReg hr (unV o (rg m s))).setPc next).al _).dr.dr) (((((Keeps.refl S w).st H.out.grS _ _).st H.out.mem _ _).al _).dr.dr) H.out.lt
end
end Go.Proofs.YtdnpoeegefkoiaaGreat

namespace Go.Proofs.YtdnpoeegefkoiaaGreat
open Go Go.RowKit

section
variable {w : World} {S : Nat → Prop} {g : Nat} {m : Mc} {p : Rp}
set_option maxRecDepth 100000 in
set_option maxHeartbeats 400000 in
theorem does_load_no (h : DIn w S g m p) (o t n mm next : Int) (r s : Nat) (hr : r < 16) (hs : s < 16) (hh : hasW m (wrap64 (rg m s + n)) = false) :
    Calls Tryz.prog 29 #[.pointer (some ⟨g, 0, none⟩), iv ⟨6, o, r, s, t, n, mm⟩, .int .i64 next] w (DoesR (m) 6 S g w) := by
  have H := Lib.hid h
  obtain ⟨⟨l0, l1, l2⟩, f0, f1, f2⟩ := h.facts
  obtain ⟨c0, c1, c2, c3, c4, c5, c6, c7⟩ := h.cells
  have n1 : p.gr ≠ g := h.grg
  have n2 : p.gw ≠ g := h.gwg
  have n3 : p.gr ≠ p.gw := h.rw_
  have r0 : (0 : Int) ≤ (r : Int) := by omega
  have r1 : (r : Int) < 16 := by omega
  have cr := h.reg hr
  have s0 : (0 : Int) ≤ (s : Int) := by omega
  have s1 : (s : Int) < 16 := by omega
  have cs := h.reg hs
  clear h f0 f1 f2 c0 c4 c5 c6 c7
  unfold iv ic
  go_enter Tryz.func29, Tryz.ntmps29
  go_wp2_with fail
  go_region
  go_wp2_with fail
  refine (there_any (H.out.al _).dr (wrap64 (rg m s + n))).mono ?_
  rintro e w' ⟨rfl, rfl⟩
  rw [hh]
  go_wp2_with fail
  go_ret
  exact does_same rfl rfl (((H.out).al _).dr) (((Keeps.refl S w).al _).dr) H.out.lt
set_option maxRecDepth 100000 in
set_option maxHeartbeats 400000 in
theorem does_store_no (h : DIn w S g m p) (o t n mm next : Int) (r s : Nat) (hr : r < 16) (hs : s < 16) (hh : hasW m (wrap64 (rg m s + n)) = false) :
    Calls Tryz.prog 29 #[.pointer (some ⟨g, 0, none⟩), iv ⟨7, o, r, s, t, n, mm⟩, .int .i64 next] w (DoesR (m) 6 S g w) := by
  have H := Lib.hid h
  obtain ⟨⟨l0, l1, l2⟩, f0, f1, f2⟩ := h.facts
  obtain ⟨c0, c1, c2, c3, c4, c5, c6, c7⟩ := h.cells
  have n1 : p.gr ≠ g := h.grg
  have n2 : p.gw ≠ g := h.gwg
  have n3 : p.gr ≠ p.gw := h.rw_
  have r0 : (0 : Int) ≤ (r : Int) := by omega
  have r1 : (r : Int) < 16 := by omega
  have cr := h.reg hr
  have s0 : (0 : Int) ≤ (s : Int) := by omega
  have s1 : (s : Int) < 16 := by omega
  have cs := h.reg hs
  clear h f0 f1 f2 c0 c4 c5 c6 c7
  unfold iv ic
  go_enter Tryz.func29, Tryz.ntmps29
  go_wp2_with fail
  go_region
  go_wp2_with fail
  refine (there_any (H.out.al _).dr (wrap64 (rg m s + n))).mono ?_
  rintro e w' ⟨rfl, rfl⟩
  rw [hh]
  go_wp2_with fail
  go_ret
  exact does_same rfl rfl (((H.out).al _).dr) (((Keeps.refl S w).al _).dr) H.out.lt
set_option maxRecDepth 100000 in
set_option maxHeartbeats 400000 in
theorem does_load (h : DIn w S g m p) (o t n mm next : Int) (r s k : Nat) (hr : r < 16) (hs : s < 16) (hk : wrap64 (rg m s + n) = (k : Int)) (hkl : k < m.words.length) :
    Calls Tryz.prog 29 #[.pointer (some ⟨g, 0, none⟩), iv ⟨6, o, r, s, t, n, mm⟩, .int .i64 next] w (DoesR ({ setR m r (wd m k) with pc := next }) 0 S g w) := by
  have H := Lib.hid h
  obtain ⟨⟨l0, l1, l2⟩, f0, f1, f2⟩ := h.facts
  obtain ⟨c0, c1, c2, c3, c4, c5, c6, c7⟩ := h.cells
  have n1 : p.gr ≠ g := h.grg
  have n2 : p.gw ≠ g := h.gwg
  have n3 : p.gr ≠ p.gw := h.rw_
  have r0 : (0 : Int) ≤ (r : Int) := by omega
  have r1 : (r : Int) < 16 := by omega
  have cr := h.reg hr
  have s0 : (0 : Int) ≤ (s : Int) := by omega
  have s1 : (s : Int) < 16 := by omega
  have cs := h.reg hs
  have fp := f0 1
  have fr := f1 r
  have hkl2 := h.word hkl
  have hhk : hasW m (k : Int) = true := decide_eq_true ⟨by omega, by omega⟩
  have k0 : (0 : Int) ≤ (k : Int) := by omega
  have k1 : (k : Int) < (m.words.length : Int) := by omega
  clear h f0 f1 f2 c0 c4 c5 c6 c7
  unfold iv ic
  go_enter Tryz.func29, Tryz.ntmps29
  go_wp2_with fail
  go_region
  go_wp2_with fail
  refine (there_any (H.out.al _).dr ((k : Int))).mono ?_
  rintro e w' ⟨rfl, rfl⟩
  rw [hhk]
  go_wp2_with fail
  go_region
  go_wp2_with fail
  go_ret
  exact does_same rfl rfl ((((H.out.setReg hr (wd m k)).setPc next).al _).dr.dr) (((((Keeps.refl S w).st H.out.grS _ _).st H.out.mem _ _).al _).dr.dr) H.out.lt
set_option maxRecDepth 100000 in
set_option maxHeartbeats 400000 in
theorem does_store (h : DIn w S g m p) (o t n mm next : Int) (r s k : Nat) (hr : r < 16) (hs : s < 16) (hk : wrap64 (rg m s + n) = (k : Int)) (hkl : k < m.words.length) :
    Calls Tryz.prog 29 #[.pointer (some ⟨g, 0, none⟩), iv ⟨7, o, r, s, t, n, mm⟩, .int .i64 next] w (DoesR ({ setW m k (rg m r) with pc := next }) 0 S g w) := by
  have H := Lib.hid h
  obtain ⟨⟨l0, l1, l2⟩, f0, f1, f2⟩ := h.facts
  obtain ⟨c0, c1, c2, c3, c4, c5, c6, c7⟩ := h.cells
  have n1 : p.gr ≠ g := h.grg
  have n2 : p.gw ≠ g := h.gwg
  have n3 : p.gr ≠ p.gw := h.rw_
  have r0 : (0 : Int) ≤ (r : Int) := by omega
  have r1 : (r : Int) < 16 := by omega
  have cr := h.reg hr
  have s0 : (0 : Int) ≤ (s : Int) := by omega
  have s1 : (s : Int) < 16 := by omega
  have cs := h.reg hs
  have fp := f0 1
  have fw := f2 k
  have hkl2 := h.word hkl
  have hhk : hasW m (k : Int) = true := decide_eq_true ⟨by omega, by omega⟩
  have k0 : (0 : Int) ≤ (k : Int) := by omega
  have k1 : (k : Int) < (m.words.length : Int) := by omega
  clear h f0 f1 f2 c0 c4 c5 c6 c7
  unfold iv ic
  go_enter Tryz.func29, Tryz.ntmps29
  go_wp2_with fail
  go_region
  go_wp2_with fail
  refine (there_any (H.out.al _).dr ((k : Int))).mono ?_
  rintro e w' ⟨rfl, rfl⟩
  rw [hhk]
  go_wp2_with fail
  go_region
  go_wp2_with fail
  go_ret
  exact does_same rfl rfl ((((H.out.setWord k (rg m r)).setPc next).al _).dr.dr) (((((Keeps.refl S w).st H.out.gwS _ _).st H.out.mem _ _).al _).dr.dr) H.out.lt
end
end Go.Proofs.YtdnpoeegefkoiaaGreat
