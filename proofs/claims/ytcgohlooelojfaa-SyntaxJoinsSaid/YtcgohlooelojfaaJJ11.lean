/-
  Merged for a claim: TKB, S1J, VKD, VKE, VKF, VKG, VKH, VKI, R0A.
-/
import Derived.Test.YtcgohlooelojfaaJJ2
import Derived.Test.YtcgohlooelojfaaJJ10
import Derived.KernelRfl
import Derived.Test.YtcgohlooelojfaaJJ3
import Derived.Test.YtcgohlooelojfaaProg
import Derived.Maps.OwnSet
import Derived.WalkKit
import Derived.Test.YtcgohlooelojfaaJJ6
import Derived.WalkMore
import Derived.Test.YtcgohlooelojfaaJJ1
import Derived.Deep.QuietTactic
import Derived.BigQuiet
namespace Go.Proofs.Ytcgohlooelojfaa
open Go

theorem scan_rest {s : List UInt8} {l : List UInt8} (hs : s ≠ []) (hl : l = s ++ l.drop s.length) : (sk false (l.drop s.length)).length < l.length := by
  have h1 := sk_len false (l.drop s.length)
  have h2 := List.length_pos_iff.2 hs
  have h3 := congrArg List.length hl
  rw [List.length_append, List.length_drop] at h3
  rw [List.length_drop] at h1
  omega
def lay : List (List UInt8 × Tk) → List UInt8
  | [] => []
  | p :: ps => p.1 ++ (p.2.tx ++ lay ps)
theorem tok_nl {kd : Int} {s : List UInt8} {nu : Int} (h : TokOk kd s nu) : ∀ x ∈ s, tBl x = false := by
  intro x hx
  cases hb : tBl x with
  | false => rfl
  | true =>
    obtain ⟨q1, q2, q3⟩ := bl_cases hb
    rcases h.kind with ⟨_, ha, _⟩ | ⟨_, ha, _⟩ | ⟨_, _, _, _, ha, _⟩
    · exact (by rw [ha x hx] at q3; cases q3)
    · exact (by rw [ha x hx] at q2; cases q2)
    · exact (by rw [ha x hx] at hb; cases hb)
theorem nl_zero {s : List UInt8} (h : ∀ x ∈ s, tBl x = false) : nl s = 0 := by
  unfold nl
  rw [List.count_eq_zero]
  intro hm
  have := h 10 hm
  cases this
/-- what is true of all tokens of a source -/
theorem scan_all (N : Nat) : ∀ (n : Nat) (l : List UInt8) (ts : List Tk), l.length ≤ n → scanS N l = .ok ts → (∀ t ∈ ts, TokOk t.kd t.tx t.nu) ∧ (ts.map fun t => t.tx.length).sum ≤ l.length ∧ ts.length ≤ l.length
  | n, [], ts, _, h => by
    rw [scanS_nil] at h
    injection h with h
    subst h
    simp
  | 0, c :: r, _, h, _ => by simp at h
  | n + 1, c :: r, ts, h, hs => by
    rcases ht : tok1 (c :: r) with _ | ⟨kd, s, nu⟩
    · rw [scanS_none _ (by simp) ht] at hs
      cases hs
    · obtain ⟨h1, h2⟩ := tok1_ok ht
      rw [scanS_some _ ht] at hs
      rcases hq : scanS N (sk false ((c :: r).drop s.length)) with e | us
      · rw [hq] at hs
        cases hs
      · rw [hq] at hs
        injection hs with hs
        subst hs
        have h3 := scan_rest h1.ne h2
        obtain ⟨r1, r2, r3⟩ := scan_all N n _ us (by omega) hq
        have h4 := sk_len false ((c :: r).drop s.length)
        have h5 := congrArg List.length h2
        rw [List.length_append] at h5
        rw [List.length_drop] at h4 h5
        have h6 := List.length_pos_iff.2 h1.ne
        refine ⟨?_, ?_, ?_⟩
        · intro t hm
          rcases List.mem_cons.1 hm with rfl | hm
          · exact h1
          · exact r1 t hm
        · simp only [List.map_cons, List.sum_cons]
          omega
        · simp only [List.length_cons] at *
          omega
end Go.Proofs.Ytcgohlooelojfaa

namespace Go.Proofs.Ytcgohlooelojfaa
open Go

def src1 : List UInt8 := [102, 117, 110, 99, 32, 109, 97, 105, 110, 40, 41, 32, 123, 32, 120, 32, 61, 32, 49, 32, 45, 32, 50, 32, 45, 32, 51, 32, 42, 32, 45, 121, 59, 32, 125]
def src2 : List UInt8 := [102, 117, 110, 99, 32, 109, 97, 105, 110, 40, 41, 32, 123, 32, 120, 32, 61, 32, 102, 40, 49, 41, 32, 43, 32, 50, 59, 32, 125]
def toTo (t : Tk) : To := ⟨t.kd, t.tx, t.nu, t.ln⟩
/-- the tokens of a source, or none -/
def toksP (l : List UInt8) : List To := if 16384 < l.length then [] else match scanP l with
  | .error _ => []
  | .ok ts => ts.map toTo
def ex1 : Ex := .mk 7 0 [] [] [45] [.mk 7 0 [] [] [45] [.mk 1 1 [] [] [] [], .mk 1 2 [] [] [] []], .mk 7 0 [] [] [42] [.mk 1 3 [] [] [] [], .mk 6 0 [] [] [45] [.mk 3 0 [121] [] [] []]]]
def dc1 : Dc := ⟨[109, 97, 105, 110], 1, [], ty0, [stm 2 1 [120] [] [] ty0 [ex1]]⟩
theorem par_src1 : parP (toksP src1) = (⟨[], [dc1]⟩, 0, 0) := by kernel_rfl
theorem par_src2 : parP (toksP src2) = (⟨[], []⟩, 11, 7) := by kernel_rfl
end Go.Proofs.Ytcgohlooelojfaa

namespace Go.Proofs.Ytcgohlooelojfaa
open Go Go.RowKit

theorem drop_len (p : UInt8 → Bool) (l : List UInt8) : l.drop (l.takeWhile p).length = l.dropWhile p := by
  induction l with
  | nil => rfl
  | cons c r ih =>
    rw [List.takeWhile_cons, List.dropWhile_cons]
    split
    · exact ih
    · rfl
theorem take_le (p : UInt8 → Bool) (l : List UInt8) : (l.takeWhile p).length ≤ l.length := by
  have := congrArg List.length (List.takeWhile_append_dropWhile (p := p) (l := l))
  rw [List.length_append] at this
  omega
end Go.Proofs.Ytcgohlooelojfaa

namespace Go.Proofs.Ytcgohlooelojfaa
open Go Go.RowKit Go.Maps Go.WideMaps

/-- a map that holds just these names -/
def KwN (w : World) (b : Nat) (acc : List (List UInt8)) : Prop := ∃ n, n ≤ acc.length ∧ w.ownsMap Try.prog 9 (unitElem (H := Unit)) b n (setOf (.agg []) (acc.map fun s => Lit.string s))
def Kw (w : World) (b : Nat) : Prop := KwN w b wordsL
theorem Kw.at_ {w w' : World} {b : Nat} (h : Kw w b) (hb : w'.heap[b]? = w.heap[b]?) : Kw w' b := by
  obtain ⟨n, hn, es, clock, h1, h2⟩ := h
  exact ⟨n, hn, es, clock, hb.trans h1, h2⟩
theorem Kw.lt {w : World} {b : Nat} (h : Kw w b) : b < w.heap.size := by
  obtain ⟨n, hn, h⟩ := h
  exact h.lt
theorem Kw.below {w w' : World} {b : Nat} (h : Kw w b) (hb : Below w.heap.size w w') : Kw w' b := h.at_ (hb.block b h.lt)
end Go.Proofs.Ytcgohlooelojfaa

namespace Go.Proofs.Ytcgohlooelojfaa
open Go Go.RowKit

/-- a token as a value -/
def tokV (kd : Int) (s : List UInt8) (nu ln : Int) : Value := .agg #[.int .u8 kd, .string (str s), .int .i64 nu, .int .i64 ln]
/-- what is told of the token with which bytes begin -/
def OneR (l : List UInt8) (w : World) (e : Ending) (w' : World) : Prop :=
  Below w.heap.size w w' ∧ ∃ kd s nu b, e = .returned (.tuple #[tokV kd s nu 0, .bool b]) ∧ (tok1 l = none ∧ b = false ∨ tok1 l = some (kd, s, nu) ∧ b = true)
theorem tokv_size : (Try.prog.info? 79).map (·.size) = some 4 := by kernel_rfl
theorem tokv_back {fn : Func} {p u : Tmp} (h : fn.results = #[.cell p 79, .tmp u]) {tmps : Array Value} {w : World} {g : Nat} {kd nu ln : Int} {s : List UInt8} {t : TypeId} {fr : Nat × Nat} (hp : tmps.getD p undef = .pointer (some ⟨g, 0, none⟩))
    (hg : w.heap[g]? = some (.cells #[.int .u8 kd, .string (str s), .int .i64 nu, .int .i64 ln] t fr)) : (results fn tmps).run Try.prog w = .ok (.tuple #[tokV kd s nu ln, tmps.getD u undef]) w :=
  res_row_tmp h tmps w g _ _ _ _ hp hg Try.underlying79 rfl tokv_size
theorem grown_set1 (w : World) (g j : Nat) (v : Value) : w.grownBy (w.setCell ⟨g, j, none⟩ v) (some g) :=
  ⟨rfl, rfl, rfl, by simp [World.setCell], fun k _ hk => Below.heap_setCell w ⟨g, j, none⟩ v k (fun e => hk (by rw [e]))⟩
theorem grown4 (w : World) (g : Nat) (a b c d : Value) : w.grownBy ((((w.setCell ⟨g, 0, none⟩ a).setCell ⟨g, 1, none⟩ b).setCell ⟨g, 2, none⟩ c).setCell ⟨g, 3, none⟩ d) (some g) :=
  (((grown_set1 w g 0 a).trans (grown_set1 _ g 1 b)).trans (grown_set1 _ g 2 c)).trans (grown_set1 _ g 3 d)
theorem take_len (p : UInt8 → Bool) (l : List UInt8) : l.take (l.takeWhile p).length = l.takeWhile p := by
  induction l with
  | nil => rfl
  | cons c r ih =>
    rw [List.takeWhile_cons]
    split
    · rw [List.length_cons, List.take_succ_cons, ih]
    · rfl
theorem valF_ge : ∀ (l : List UInt8) (a : Nat), a ≤ l.foldl (fun a c => 10 * a + (c.toNat - 48)) a
  | [], a => Nat.le_refl _
  | c :: l, a => by
    have := valF_ge l (10 * a + (c.toNat - 48))
    rw [List.foldl_cons]
    omega
theorem digit_range {c : UInt8} (h : tDi c = true) : 48 ≤ c.toNat ∧ c.toNat ≤ 57 := by
  have := of_decide_eq_true h
  omega
end Go.Proofs.Ytcgohlooelojfaa

namespace Go.Proofs.Ytcgohlooelojfaa
open Go Go.RowKit

theorem not_or3 {a b c : Prop} (ha : ¬ a) (hb : ¬ b) (hc : ¬ c) : ¬ (a ∨ b ∨ c) := fun h => h.elim ha fun h => h.elim hb hc
end Go.Proofs.Ytcgohlooelojfaa

namespace Go.Proofs.Ytcgohlooelojfaa
open Go Go.RowKit

/-- the signs in the order in which the program has them -/
def signsL : List (List UInt8) := [[40], [41], [123], [125], [91], [93], [44], [59], [46], [61], [43], [45], [42], [47], [37], [33], [38, 38], [124, 124], [60], [60, 61], [62], [62, 61], [61, 61], [33, 61]]
/-- the variables that are read are as they were laid -/
structure Laid (w : World) : Prop where
  sg : ∀ i (h : i < 24), w.cell? ⟨0, i, none⟩ = some (.string (str (signsL[i]'h)))
  er : ∃ tp p, w.cell? ⟨3, 0, none⟩ = some (.iface tp p)
theorem Laid.below {w w' : World} (h : Laid w) (hb : Below w.heap.size w w') : Laid w' := by
  obtain ⟨tp, p, he⟩ := h.er
  exact ⟨fun i hi => (hb.cell (World.block_lt_of_cell? w _ (h.sg i hi))).trans (h.sg i hi), tp, p, (hb.cell (World.block_lt_of_cell? w _ he)).trans he⟩
theorem pre_take {s l : List UInt8} (h : s.isPrefixOf l = true) : l.take s.length = s := by
  obtain ⟨t, rfl⟩ := List.isPrefixOf_iff_prefix.1 h
  rw [List.take_left]
theorem take_pre (l : List UInt8) (n : Nat) : (l.take n).isPrefixOf l = true := List.isPrefixOf_iff_prefix.2 (List.take_prefix n l)
/-- no sign of so many bytes, among the first ones, stands ahead -/
def NoSg (l : List UInt8) (z j : Nat) : Prop := ∀ i (h : i < 24), i < j → (signsL[i]'h).length = z → (signsL[i]'h).isPrefixOf l = false
theorem NoSg.zero (l : List UInt8) (z : Nat) : NoSg l z 0 := fun _ _ h => absurd h (by omega)
theorem NoSg.next {l : List UInt8} {z j : Nat} (h : NoSg l z j) (hj : j < 24) (hn : (signsL[j]'hj).length = z → (signsL[j]'hj).isPrefixOf l = false) : NoSg l z (j + 1) := fun i hi hlt hl => by
  by_cases e : i = j
  · subst e
    exact hn hl
  · exact h i hi (by omega) hl
end Go.Proofs.Ytcgohlooelojfaa

namespace Go.Proofs.Ytcgohlooelojfaa
open Go Go.RowKit

/-- tokens in memory -/
def eT : El Tk where
  e := 79
  sz := 4
  f := fun t => [.int .u8 t.kd, .string (str t.tx), .int .i64 t.nu, .int .i64 (t.ln : Int)]
  len := fun _ => rfl
  one := by
    intro x u hu
    simp at hu
    rcases hu with rfl | rfl | rfl | rfl <;> rfl
  pos := by decide
theorem tokv_info : (Try.prog.info? 79).map (fun i => (i.zero, i.size, i.bytes)) = some (some (.agg #[.int .u8 0, .string ⟨#[]⟩, .int .i64 0, .int .i64 0]), 4, 40) := by kernel_rfl
/-- what scanning tells -/
def ScanR (l : List UInt8) (w : World) (e : Ending) (w' : World) : Prop :=
  Below w.heap.size w w' ∧ ((16384 < l.length ∧ e = .returned (.tuple #[.slice none 0 0, .int .i64 0, .int .i64 11])) ∨ (l.length ≤ 16384 ∧ ((∃ k : Nat, scanP l = .error k ∧ e = .returned (.tuple #[.slice none 0 0, .int .i64 k, .int .i64 6])) ∨ (∃ ts v, scanP l = .ok ts ∧ e = .returned (.tuple #[v, .int .i64 0, .int .i64 0]) ∧ eT.Own w' w.heap.size v ts))))
theorem nl_le (l : List UInt8) : nl l ≤ l.length := List.count_le_length
/-- one more token -/
theorem scan_step {N : Nat} {acc : List Tk} {r : List UInt8} {T : Except Nat (List Tk)} {kd : Int} {s : List UInt8} {nu : Int} (h : appT acc (scanS N r) = T) (ht : tok1 r = some (kd, s, nu)) (hN : nl r ≤ N) :
    s ≠ [] ∧ s.length ≤ r.length ∧ appT (acc ++ [⟨kd, s, nu, N - nl r⟩]) (scanS N (sk false (r.drop s.length))) = T ∧ (sk false (r.drop s.length)).length < r.length ∧ nl (sk false (r.drop s.length)) ≤ N ∧ nl (r.drop s.length) ≤ 1099511627776 + N ∧
      N - nl r + (nl (r.drop s.length) - nl (sk false (r.drop s.length))) = N - nl (sk false (r.drop s.length)) := by
  obtain ⟨h1, h2⟩ := tok1_ok ht
  have h3 := scan_rest h1.ne h2
  have h4 := sk_nl false (r.drop s.length)
  have h5 : nl r = nl (r.drop s.length) := by
    have := congrArg nl h2
    rw [nl_append, nl_zero (tok_nl h1), Nat.zero_add] at this
    exact this
  have h6 : s.length ≤ r.length := by
    have := congrArg List.length h2
    rw [List.length_append] at this
    omega
  refine ⟨h1.ne, h6, ?_, h3, by omega, by omega, by omega⟩
  rw [← h, scanS_some N ht, appT_cons]
end Go.Proofs.Ytcgohlooelojfaa

namespace Go.Proofs.Ytcgohlooelojfaa
open Go.RowKit

end Go.Proofs.Ytcgohlooelojfaa
