/-
  Merged for a claim: R3B.
-/
import Derived.Test.YtdnpoeegefkoiaaGreatFR3A
namespace Go.Proofs.YtdnpoeegefkoiaaGreat
open Go.RowKit

theorem parts_at {k : Int} {s : List UInt8} {b : Bool} (h0 : 0 ≤ k) (h1 : k < 256) (hs : sOf k = s) (hb : isK k = b) (w : World) : Calls Tryz.prog 32 #[.int .u8 k] w fun e w' => e = .returned (.tuple #[.string (strL s), .bool b]) ∧ Below w.heap.size w w' := by
  have := refParts_any k w h0 h1
  unfold PartsR3 at this
  rw [hs, hb] at this
  exact this
theorem has_q {s : List UInt8} {c : Int} (hn : s.length ≤ 100) (w : World) : Calls Tryz.prog 48 #[.string (strL s), .int .u8 c] w fun e w' => e = .returned (.bool (hasB s c)) ∧ w' = w :=
  (has_any s c w hn).mono fun _ _ ⟨h1, h2⟩ => ⟨h1, h2.symm⟩
theorem reg_q {n : Int} {b : Bool} (w : World) : Calls Tryz.prog 47 #[.int .i64 n, .bool b] w fun e w' => e = .returned (.bool (regB n b)) ∧ w' = w :=
  (refReg_any n b w).mono fun _ _ ⟨h1, h2⟩ => ⟨h1, h2.symm⟩
theorem regB_in {n : Int} (h0 : 0 ≤ n) (h1 : n < 16) : regB n true = true := by
  simp only [regB, Bool.or_eq_true, Bool.true_and, decide_eq_true_eq]; omega
theorem regB_out {n : Int} (h1 : ¬ n < 16) : regB n true = false := by
  simp only [regB, Bool.or_eq_false_iff, Bool.true_and, decide_eq_false_iff_not]; omega
def RR (i : Ins) (w : World) (e : Ending) (w' : World) : Prop := e = .returned (.bool (rightB i)) ∧ Below w.heap.size w w'

end Go.Proofs.YtdnpoeegefkoiaaGreat
