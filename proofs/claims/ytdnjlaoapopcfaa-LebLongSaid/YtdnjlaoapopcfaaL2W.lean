/-
  The laws' anchor of layer 2: works answers true, in memory of its own.
-/
import Derived.Test.YtdnjlaoapopcfaaL2D
import Derived.Test.YtdnjlaoapopcfaaL2F
namespace Go.Proofs.Ytdnjlaoapopcfaa
open Go.RowKit

def Yes (w : World) (e : Ending) (w' : World) : Prop := e = .returned (.bool true) ∧ Below w.heap.size w w'
def wL : List UInt8 := [172, 2, 191, 127]

theorem w_u (w : World) : Calls Try.prog 10 #[.slice none 0 0, .int .u64 300] w (Made w [172, 2]) := by
  have := putU_any none 0 [] 300 w (fun _ => rfl) (Lies.empty _ _ _) (by simp) (by omega) (by omega)
  rw [show [] ++ nB false 300 = [172, 2] from by decide] at this
  exact this.mono fun _ _ h => h.made
theorem w_s (w : World) (A : Option Addr) (c : Nat) (hc : A = none → c = 0) (h : Lies w w.heap.size A [172, 2]) :
    Calls Try.prog 11 #[.slice A 2 c, .int .i64 (-65)] w (Made w wL) := by
  have := putS_any A c [172, 2] (-65) w hc h (by simp) (by omega) (by omega)
  rw [show [172, 2] ++ nB true (-65) = wL from by decide] at this
  exact this.mono fun _ _ h => h.made
theorem w_U (w : World) (A : Option Addr) (c B : Nat) (h : Lies w B A wL) : Calls Try.prog 17 #[.slice A 4 c, .int .i64 0] w fun e w' => e = .returned (.tuple #[.int .u64 300, .int .i64 2, .int .i64 0]) ∧ w = w' := by
  have := U_any A c wL 0 w B (by decide) h
  rwa [show rdX false wL 0 = 300 from by decide, show rdN false wL 0 = 2 from by decide, show rdE false wL 0 = 0 from by decide] at this
theorem w_S (w : World) (A : Option Addr) (c B : Nat) (h : Lies w B A wL) : Calls Try.prog 19 #[.slice A 4 c, .int .i64 2] w fun e w' => e = .returned (.tuple #[.int .i64 (-65), .int .i64 4, .int .i64 0]) ∧ w = w' := by
  have := S_any A c wL 2 w B (by decide) h
  rwa [show rdX true wL 2 = -65 from by decide, show rdN true wL 2 = 4 from by decide, show rdE true wL 2 = 0 from by decide] at this

theorem w_form {w : World} {B : Nat} {v : Value} (h : Own w B v wL) : ∃ A c, v = .slice A 4 c ∧ (A = none → c = 0) ∧ Lies w w.heap.size A wL := by
  obtain ⟨A, c, e, _, h1, h2⟩ := h.form
  exact ⟨A, c, e, h1, h2⟩
theorem w_form2 {w : World} {B : Nat} {v : Value} (h : Own w B v [172, 2]) : ∃ A c, v = .slice A 2 c ∧ (A = none → c = 0) ∧ Lies w w.heap.size A [172, 2] := by
  obtain ⟨A, c, e, _, h1, h2⟩ := h.form
  exact ⟨A, c, e, h1, h2⟩

set_option maxRecDepth 100000 in
set_option maxHeartbeats 1000000 in
theorem works_any (w : World) : Calls Try.prog 8 #[] w (Yes w) := by
  go_enter Try.func8, Try.ntmps8
  go_wp2_with fail
  refine (w_u _).mono ?_
  rintro e w1 ⟨v1, rfl, ho1, hb1⟩
  obtain ⟨A1, c1, rfl, hc1, hL1⟩ := w_form2 ho1
  go_wp2_with fail
  refine (w_s _ A1 c1 hc1 hL1).mono ?_
  rintro e w2 ⟨v2, rfl, ho2, hb2⟩
  obtain ⟨A2, c2, rfl, hc2, hL2⟩ := w_form ho2
  have hb := hb1.trans (hb2.mono hb1.size)
  clear hb1 hb2 ho1 ho2 hL1 hc1
  go_wp2_with fail
  refine (w_U _ A2 c2 _ hL2).mono ?_
  rintro e w' ⟨rfl, rfl⟩
  go_wp2_with fail
  refine (w_S _ A2 c2 _ hL2).mono ?_
  rintro e w' ⟨rfl, rfl⟩
  go_wp2
  go_ret
  exact ⟨rfl, hb⟩

end Go.Proofs.Ytdnjlaoapopcfaa
