/-
  Merged for a claim: R3A.
-/
import Derived.Test.YtdnpoeegefkoiaaGreatFJ3
import Derived.Deep.QuietTactic
import Derived.BigQuiet
namespace Go.Proofs.YtdnpoeegefkoiaaGreat
open Go.RowKit

/-- a part's letter -/
def ltr : Pt → UInt8
  | .op => 111
  | .reg => 114
  | .both => 97
  | .third => 116
  | .num => 110
  | .many => 109
  | .to => 106
  | .how => 107
def sOf (k : Int) : List UInt8 := (ptsOf k).map ltr
def strL (l : List UInt8) : ByteArray := ⟨l.toArray⟩
def hasB (l : List UInt8) (c : Int) : Bool := l.any fun x => decide ((x.toNat : Int) = c)
def regB (n : Int) (b : Bool) : Bool := decide (n = 0) || (b && decide (0 < n ∧ n < 16))

theorem index_str (l : List UInt8) (q : Nat) (h : q < l.length) (w : World) : (Instr.index 9 (.string (strL l)) (.int .i64 q)).run Tryz.prog w = .ok (.int .u8 (l[q].toNat : Int)) w := by
  have hx : (strL l)[q]? = some l[q] := by
    have hs : q < (strL l).size := by simpa [strL, ByteArray.size] using h
    rw [getElem?_pos (strL l) q hs]
    rfl
  simp [Instr.index, run_underlying Tryz.underlying9, asIntOf, go_sem, hx]
theorem str_len (l : List UInt8) : (strL l).size = l.length := by simp [strL, ByteArray.size]

theorem hasB_yes {l : List UInt8} {c : Int} {q : Nat} (h : q < l.length) (e : (l[q].toNat : Int) = c) : hasB l c = true := by
  unfold hasB
  rw [List.any_eq_true]
  exact ⟨l[q], List.getElem_mem h, by simp [e]⟩
theorem hasB_no {l : List UInt8} {c : Int} (h : ∀ j (hj : j < l.length), ¬ (l[j].toNat : Int) = c) : hasB l c = false := by
  unfold hasB
  rw [List.any_eq_false]
  intro x hx
  obtain ⟨j, hj, rfl⟩ := List.getElem_of_mem hx
  simpa using h j hj

set_option maxHeartbeats 400000 in
theorem has_any (l : List UInt8) (c : Int) (w : World) (hn : l.length ≤ 100) : Calls Tryz.prog 48 #[.string (strL l), .int .u8 c] w fun e w' => e = .returned (.bool (hasB l c)) ∧ w = w' := by
  have hl := str_len l
  go_enter Tryz.func48, Tryz.ntmps48
  go_wp2_with fail
  go_loop [5] (fun i => ∃ q : Nat, q ≤ l.length ∧ i = .int .i64 q ∧ Hid (∀ j (hj : j < l.length), j < q → ¬ (l[j].toNat : Int) = c)) (fun i => l.length - (intOf i).toNat)
  case atStart => exact ⟨0, by omega, rfl, fun j hj h => by omega⟩
  case round =>
    obtain ⟨q, hq, rfl, hno⟩ := hrel
    by_cases hlt : q < l.length
    · have hix := index_str l q hlt
      by_cases he : (l[q].toNat : Int) = c
      · have HY := Lib.hid (hasB_yes hlt he)
        have be := beq_of he
        clear he
        go_wp2_with fail
        go_ret
        exact ⟨by rw [HY.out]; rfl, rfl⟩
      · have be := nbeq_of he
        have hno2 : Hid (∀ j (hj : j < l.length), j < q + 1 → ¬ (l[j].toNat : Int) = c) := fun j hj h => by
          by_cases e : j = q
          · subst e; exact he
          · exact hno.out j hj (by omega)
        clear he hno
        go_wp2_with fail
        go_round
        case rel => exact ⟨q + 1, by omega, by go_num, hno2⟩
        case measure => simp [intOf]; omega
    · have HN := Lib.hid (hasB_no (fun j hj => hno.out j hj (by omega)))
      clear hno
      go_wp2_with fail
      go_ret
      exact ⟨by rw [HN.out]; rfl, rfl⟩

set_option maxHeartbeats 400000 in
theorem refReg_any (n : Int) (b : Bool) (w : World) : Calls Tryz.prog 47 #[.int .i64 n, .bool b] w fun e w' => e = .returned (.bool (regB n b)) ∧ w = w' := by
  by_cases h0 : n = 0
  · subst h0
    go_enter Tryz.func47, Tryz.ntmps47
    go_wp2
    go_ret
    exact ⟨by simp [regB], rfl⟩
  · have b0 := nbeq_of h0
    cases b
    · have HF := Lib.hid (show regB n false = false by simp [regB, h0])
      clear h0
      go_enter Tryz.func47, Tryz.ntmps47
      go_wp2
      go_ret
      exact ⟨by rw [HF.out]; rfl, rfl⟩
    · by_cases h1 : 0 < n
      · by_cases h2 : n < 16
        · have HF := Lib.hid (show regB n true = true by simp [regB, h1, h2])
          clear h0
          go_enter Tryz.func47, Tryz.ntmps47
          go_wp2
          go_ret
          exact ⟨by rw [HF.out]; rfl, rfl⟩
        · have HF := Lib.hid (show regB n true = false by simp [regB, h0, h2])
          clear h0
          go_enter Tryz.func47, Tryz.ntmps47
          go_wp2
          go_ret
          exact ⟨by rw [HF.out]; rfl, rfl⟩
      · have HF := Lib.hid (show regB n true = false by simp [regB, h0, h1])
        clear h0
        go_enter Tryz.func47, Tryz.ntmps47
        go_wp2
        go_ret
        exact ⟨by rw [HF.out]; rfl, rfl⟩

def PartsR3 (k : Int) (w : World) (e : Ending) (w' : World) : Prop := e = .returned (.tuple #[.string (strL (sOf k)), .bool (isK k)]) ∧ Below w.heap.size w w'
set_option maxRecDepth 100000 in
set_option maxHeartbeats 4000000 in
theorem refParts_any (k : Int) (w : World) (h0 : 0 ≤ k) (h1 : k < 256) : Calls Tryz.prog 32 #[.int .u8 k] w (PartsR3 k w) := by
  by_cases h : 1 ≤ k ∧ k ≤ 18
  · have : k = 1 ∨ k = 2 ∨ k = 3 ∨ k = 4 ∨ k = 5 ∨ k = 6 ∨ k = 7 ∨ k = 8 ∨ k = 9 ∨ k = 10 ∨ k = 11 ∨ k = 12 ∨ k = 13 ∨ k = 14 ∨ k = 15 ∨ k = 16 ∨ k = 17 ∨ k = 18 := by omega
    clear h h0 h1
    rcases this with rfl | rfl | rfl | rfl | rfl | rfl | rfl | rfl | rfl | rfl | rfl | rfl | rfl | rfl | rfl | rfl | rfl | rfl
    all_goals
      go_enter Tryz.func32, Tryz.ntmps32
      go_wp2
      go_ret2
      exact ⟨rfl, below_box _ _⟩
  · have HP := Lib.hid (show sOf k = [] from by
      unfold sOf ptsOf
      repeat (first | rw [if_neg (by omega)] | rfl))
    have HK := Lib.hid (show isK k = false from decide_eq_false h)
    by_cases hz : k < 1
    · go_enter Tryz.func32, Tryz.ntmps32
      go_wp2
      go_ret2
      exact ⟨by rw [HP.out, HK.out]; rfl, below_box _ _⟩
    · have h18 : 18 < k := by omega
      go_enter Tryz.func32, Tryz.ntmps32
      go_wp2
      go_ret2
      exact ⟨by rw [HP.out, HK.out]; rfl, below_box _ _⟩

end Go.Proofs.YtdnpoeegefkoiaaGreat
