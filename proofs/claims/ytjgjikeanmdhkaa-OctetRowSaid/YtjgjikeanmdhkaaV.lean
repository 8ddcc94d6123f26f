/-
  The laws' anchor: works answers true, in memory of its own.
-/
import Derived.Test.YtjgjikeanmdhkaaR
import Derived.Test.YtjgjikeanmdhkaaF
namespace Go.Proofs.Ytjgjikeanmdhkaa
open Go.RowKit

def Yes (w : World) (e : Ending) (w' : World) : Prop := e = .returned (.bool true) ∧ Below w.heap.size w w'

theorem w_pair (w : World) : Calls Try.prog 8 #[.int .i64 1, .int .i64 2] w fun e w' => e = .returned (.tuple #[.int .u8 18, .bool true]) ∧ w = w' := by
  have := pair_any 1 2 w
  rwa [show pairV 1 2 = 18 from by decide, show pairB 1 2 = true from by decide] at this

theorem w_halves (w : World) : Calls Try.prog 10 #[.int .u8 18] w fun e w' => e = .returned (.tuple #[.int .i64 1, .int .i64 2]) ∧ w = w' := by
  have := halves_any 18 w (by omega) (by omega)
  rwa [show (18 : Int) / 16 = 1 from by decide, show (18 : Int) % 16 = 2 from by decide] at this

def wL : List UInt8 := [18, 0, 1, 2, 2, 97, 98]

theorem w_place (w : World) (A : Option Addr) (c : Nat) (hc : A = none → c = 0) (h : Lies w w.heap.size A [18]) :
    Calls Try.prog 20 #[.slice A 1 c, .int .i64 258] w (PutR w [18, 0, 1, 2] 0) := by
  have := putPlace_any A c [18] 258 w hc h (by simp)
  rwa [show ppE 258 = 0 from by decide, show ppL [18] 258 = [18, 0, 1, 2] from by decide] at this

theorem w_text (w : World) (A : Option Addr) (c : Nat) (hc : A = none → c = 0) (h : Lies w w.heap.size A [18, 0, 1, 2]) :
    Calls Try.prog 22 #[.slice A 4 c, .string ⟨#[97, 98]⟩] w (PutR w wL 0) := by
  have := putText_any A c [18, 0, 1, 2] [97, 98] w hc h (by simp) (by simp)
  rwa [show ptE [97, 98] = 0 from by decide, show ptL [18, 0, 1, 2] [97, 98] = wL from by decide] at this

theorem w_one (w : World) (A : Option Addr) (c B : Nat) (h : Lies w B A wL) : Calls Try.prog 13 #[.slice A 7 c, .int .i64 0] w fun e w' => e = .returned (.tuple #[.int .u8 18, .int .i64 1, .int .i64 0]) ∧ w = w' := by
  have := one_any A c wL 0 w B (by decide) h
  rwa [show oneX wL 0 = 18 from by decide, show oneN wL 0 = 1 from by decide, show stV wL.length 0 1 = 0 from by decide] at this

theorem w_getP (w : World) (A : Option Addr) (c B : Nat) (hc : 7 ≤ c) (h : Lies w B A wL) : Calls Try.prog 15 #[.slice A 7 c, .int .i64 1] w fun e w' => e = .returned (.tuple #[.int .i64 258, .int .i64 4, .int .i64 0]) ∧ Below w.heap.size w w' := by
  have := place_any A c wL 1 w B hc (by decide) h
  rwa [show plX wL 1 = 258 from by decide, show plN wL 1 = 4 from by decide, show stV wL.length 1 3 = 0 from by decide] at this

theorem w_getT (w : World) (A : Option Addr) (c B : Nat) (hc : 7 ≤ c) (h : Lies w B A wL) : Calls Try.prog 17 #[.slice A 7 c, .int .i64 4] w fun e w' => e = .returned (.tuple #[.string ⟨#[97, 98]⟩, .int .i64 7, .int .i64 0]) ∧ w = w' := by
  have := text_any A c wL 4 w B hc (by decide) h
  rwa [show str (txS wL 4) = ⟨#[97, 98]⟩ from by decide, show txN wL 4 = 7 from by decide, show txE wL 4 = 0 from by decide] at this

theorem w_form {w : World} {B : Nat} {v : Value} (h : Own w B v wL) : ∃ A c, v = .slice A 7 c ∧ 7 ≤ c ∧ (A = none → c = 0) ∧ Lies w w.heap.size A wL := h.form

set_option maxRecDepth 100000 in
set_option maxHeartbeats 1000000 in
theorem works_any (w : World) : Calls Try.prog 11 #[] w (Yes w) := by
  go_enter Try.func11, Try.ntmps11
  go_wp2_with (go_at_call 8; refine (w_pair _).mono ?_; rintro e w' ⟨rfl, rfl⟩)
  refine (w_place _ _ 1 (by simp) (lies_lit w 5 [18] _ rfl)).mono ?_
  rintro e w1 ⟨v1, rfl, ho1, hb1⟩
  obtain ⟨A1, c1, rfl, hl1, hc1, hL1⟩ := ho1.form
  go_wp2_with fail
  refine (w_text _ A1 c1 hc1 hL1).mono ?_
  rintro e w2 ⟨v2, rfl, ho2, hb2⟩
  obtain ⟨A2, c2, rfl, hl2, hc2, hL2⟩ := w_form ho2
  have hb : Below w.heap.size w w2 := (((Below.refl _ _).alloc (Nat.le_refl _) _).trans (hb1.mono (by simp))).trans (hb2.mono (by have := hb1.size; simp at this; omega))
  clear hb1 hb2 ho1 ho2 hL1 hl1 hc1
  go_wp2_with fail
  refine (w_one _ A2 c2 _ hL2).mono ?_
  rintro e w' ⟨rfl, rfl⟩
  go_wp2_with fail
  refine (w_getP _ A2 c2 _ hl2 hL2).mono ?_
  rintro e w3 ⟨rfl, hb3⟩
  have hL3 := hL2.below hb3
  have hbb := hb.trans (hb3.mono hb.size)
  clear hL2 hb hb3
  go_wp2_with fail
  refine (w_getT _ A2 c2 _ hl2 hL3).mono ?_
  rintro e w' ⟨rfl, rfl⟩
  go_wp2_with fail
  refine (w_halves _).mono ?_
  rintro e w' ⟨rfl, rfl⟩
  go_wp2
  go_ret
  exact ⟨rfl, hbb⟩

end Go.Proofs.Ytjgjikeanmdhkaa
