/-
  The laws' anchor of layer 6: works answers true, in memory of its own.
-/
import Derived.Test.YtdnpoeegefkoiaaE6L
namespace Go.Proofs.Ytdnpoeegefkoiaa
open Go Go.RowKit

def wL6 : List Lc := [⟨3, -3⟩, ⟨4, 0⟩]
def wB6 : List UInt8 := [2, 3, 125, 4]
def wV6 : Vw := ⟨[], [], 4, [10, 11]⟩
def wP6 (g : Nat) : Vp := ⟨none, 0, none, 0, some ⟨g, 0, none⟩, 2⟩
theorem w6_right : rightC wL6 = true := by decide +kernel
theorem w6_own : ownC wL6 = wB6 := by decide +kernel
theorem w6_got : gotO wB6 0 = some (wL6, 4) := by decide +kernel
theorem w6_ev : evX wV6 wL6 = 11 ∧ evE wV6 wL6 = 0 := by decide +kernel
theorem w6_word : rightC [⟨4, 0⟩] = false := by decide +kernel
theorem w6_rng : ∀ x ∈ wL6, x.Rng := by
  intro x hx
  simp only [wL6, List.mem_cons, List.not_mem_nil, or_false] at hx
  rcases hx with rfl | rfl <;> exact ⟨⟨by decide, by decide⟩, by decide, by decide⟩
theorem w6_cells (w : World) : LLies (w.alloc (.cells #[.int .u8 3, .int .i64 (-3), .int .u8 4, .int .i64 0] 48)) (w.heap.size + 1) (some ⟨w.heap.size, 0, none⟩) wL6 := by
  intro _
  refine ⟨w.heap.size, 0, rfl, Nat.lt_succ_self _, fun j hj f u hu => ?_⟩
  have hh := heap_alloc_new w (.cells #[.int .u8 3, .int .i64 (-3), .int .u8 4, .int .i64 0] 48)
  have hf : f < 2 := by have := (List.getElem?_eq_some_iff.1 hu).1; simpa [cC_len] using this
  simp only [World.cell?, hh]
  rw [← hu]
  have hj' : j = 0 ∨ j = 1 := by simp [wL6] at hj; omega
  have hf' : f = 0 ∨ f = 1 := by omega
  rcases hj' with rfl | rfl <;> rcases hf' with rfl | rfl <;> rfl
theorem w6_one (w : World) : LLies (w.alloc (.cells #[.int .u8 4, .int .i64 0] 48)) (w.alloc (.cells #[.int .u8 4, .int .i64 0] 48)).heap.size (some ⟨w.heap.size, 0, none⟩) [⟨4, 0⟩] := by
  intro _
  refine ⟨w.heap.size, 0, rfl, by simp, fun j hj f u hu => ?_⟩
  have hh := heap_alloc_new w (.cells #[.int .u8 4, .int .i64 0] 48)
  have hf : f < 2 := by have := (List.getElem?_eq_some_iff.1 hu).1; simpa [cC_len] using this
  simp only [World.cell?, hh]
  rw [← hu]
  obtain rfl : j = 0 := by simp at hj; omega
  have hf' : f = 0 ∨ f = 1 := by omega
  rcases hf' with rfl | rfl <;> rfl
theorem w6_words (w : World) : VLies (w.alloc (.cells #[.int .i64 10, .int .i64 11] 2)) (w.alloc (.cells #[.int .i64 10, .int .i64 11] 2)).heap.size wV6 (wP6 w.heap.size) := by
  refine ⟨CLies.nil _ _ _, CLies.nil _ _ _, fun _ => ⟨w.heap.size, 0, rfl, by simp, fun j hj => ?_⟩, by decide, by decide, by decide⟩
  have hh := heap_alloc_new w (.cells #[.int .i64 10, .int .i64 11] 2)
  simp only [World.cell?, hh]
  have hj' : j = 0 ∨ j = 1 := by simp [wV6] at hj; omega
  rcases hj' with rfl | rfl <;> rfl
theorem w6_put (w : World) (A : Option Addr) (c : Nat) (h : LLies w w.heap.size A wL6) : Calls Try.prog 10 #[.slice none 0 0, .slice A 2 c] w fun e w' => ∃ v, e = .returned (.tuple #[v, .int .i64 0]) ∧ Own w' w.heap.size v wB6 ∧ Below w.heap.size w w' := by
  have := put6_any A none c 0 [] wL6 w (fun _ => rfl) (by decide) (by decide) w6_rng (Lies.empty _ _ _) h
  unfold PutR6 at this
  obtain ⟨h1, h2⟩ := pt_yes (b := []) w6_right
  rwa [h1, h2, w6_own] at this
theorem w6_get (w : World) (A : Option Addr) (c : Nat) (h : Lies w w.heap.size A wB6) : Calls Try.prog 18 #[.slice A 4 c, .int .i64 0] w fun e w' => ∃ v, e = .returned (.tuple #[v, .int .i64 4, .int .i64 0]) ∧ LOwn w' w.heap.size v wL6 ∧ Below w.heap.size w w' := by
  have := get6_any A c wB6 0 w (by decide) h
  unfold GetR6 at this
  obtain ⟨h1, h2, h3⟩ := ge_some (b := wB6) (k := 0) (by decide) w6_got
  rw [show geN wB6 0 = 4 from h3, show geE wB6 0 = 0 from h1, show geL wB6 0 = wL6 from h2] at this
  exact this
theorem w6_eval (w : World) (A : Option Addr) (c g : Nat) (h : LLies w w.heap.size A wL6) (hV : VLies w w.heap.size wV6 (wP6 g)) :
    Calls Try.prog 22 #[.slice A 2 c, .agg #[.slice none 0 0, .slice none 0 0, .int .i64 4, .slice (some ⟨g, 0, none⟩) 2 2]] w fun e w' => e = .returned (.tuple #[.int .i64 11, .int .i64 0]) ∧ Below w.heap.size w w' := by
  have := eval6_any A c wL6 wV6 (wP6 g) w (by decide) h hV
  unfold EvalR at this
  rwa [w6_ev.1, w6_ev.2] at this
theorem w6_same (w : World) (A A2 : Option Addr) (c c2 : Nat) (h : LLies w w.heap.size A wL6) (h2 : LLies w w.heap.size A2 wL6) : Calls Try.prog 14 #[.slice A 2 c, .slice A2 2 c2] w (TrueR6 w) := same6_any A A2 c c2 wL6 w (by decide) h h2
theorem w6_yes (w : World) : Calls Try.prog 15 #[.slice none 0 0] w (TrueR6 w) := right6_any none 0 [] w (by decide) (LLies.nil _ _ _)
theorem w6_no (w : World) (A : Option Addr) (c : Nat) (h : LLies w w.heap.size A [⟨4, 0⟩]) : Calls Try.prog 15 #[.slice A 1 c] w fun e w' => e = .returned (.bool false) ∧ Below w.heap.size w w' := by
  have := right6_any A c [⟨4, 0⟩] w (by decide) h
  unfold RightR6 at this
  rwa [w6_word] at this

def Yes6 (w : World) (e : Ending) (w' : World) : Prop := e = .returned (.bool true) ∧ Below w.heap.size w w'

set_option maxRecDepth 100000 in
set_option maxHeartbeats 1000000 in
theorem works6_any (w : World) : Calls Try.prog 7 #[] w (Yes6 w) := by
  have hb0 := below_lnew w (.cells #[.int .u8 3, .int .i64 (-3), .int .u8 4, .int .i64 0] 48)
  have hR0 := w6_cells w
  go_enter Try.func7, Try.ntmps7
  go_wp2_with fail
  have hz0 : w.heap.size + 1 = (w.alloc (.cells #[.int .u8 3, .int .i64 (-3), .int .u8 4, .int .i64 0] 48)).heap.size := by simp
  rw [hz0] at hR0
  generalize w.alloc (.cells #[.int .u8 3, .int .i64 (-3), .int .u8 4, .int .i64 0] 48) = W at *
  refine (w6_put W _ 2 hR0).mono ?_
  rintro e w1 ⟨v1, rfl, ho1, hb1⟩
  obtain ⟨A1, c1, rfl, hc1, hn1, hL1⟩ := ho1.form
  have HB1 := Lib.hid hb1
  have HL1 := Lib.hid hL1
  clear ho1 hL1 hn1 hb1
  go_wp2_with fail
  refine (w6_get w1 _ c1 HL1.out).mono ?_
  rintro e w2 ⟨v2, rfl, ho2, hb2⟩
  obtain ⟨A2, c2, rfl, hc2, hn2, hL2⟩ := ho2.form
  have HB2 := Lib.hid (HB1.out.trans (hb2.mono HB1.out.size))
  have HL2 := Lib.hid hL2
  clear ho2 hL2 hn2 hb2
  have hb3 := below_lnew w2 (.cells #[.int .i64 10, .int .i64 11] 2)
  have HB3 := Lib.hid (HB2.out.trans (hb3.mono HB2.out.size))
  have HL3 := Lib.hid (HL2.out.next hb3)
  have HV3 := Lib.hid (w6_words w2)
  clear hb3
  go_wp2_with fail
  refine (w6_eval _ A2 c2 w2.heap.size HL3.out HV3.out).mono ?_
  rintro e w4 ⟨rfl, hb4⟩
  have HB4 := Lib.hid (HB3.out.trans (hb4.mono HB3.out.size))
  have HL4 := Lib.hid (HL3.out.next hb4)
  have HR4 := Lib.hid (hR0.next HB4.out)
  clear hb4
  go_wp2_with fail
  refine (w6_same w4 _ A2 2 c2 HR4.out HL4.out).mono ?_
  rintro e w5 ⟨rfl, hb5⟩
  have HB5 := Lib.hid (HB4.out.trans (hb5.mono HB4.out.size))
  clear hb5
  go_wp2_with fail
  refine (w6_yes w5).mono ?_
  rintro e w6 ⟨rfl, hb6⟩
  have HB6 := Lib.hid (HB5.out.trans (hb6.mono HB5.out.size))
  have hb7 := below_lnew w6 (.cells #[.int .u8 4, .int .i64 0] 48)
  have HB7 := Lib.hid (HB6.out.trans (hb7.mono HB6.out.size))
  have HO7 := Lib.hid (w6_one w6)
  clear hb6 hb7
  go_wp2_with fail
  refine (w6_no _ _ 1 HO7.out).mono ?_
  rintro e w8 ⟨rfl, hb8⟩
  have HB8 := Lib.hid (HB7.out.trans (hb8.mono HB7.out.size))
  clear hb8
  go_wp2_with fail
  go_ret
  exact ⟨rfl, hb0.trans (HB8.out.mono (by omega))⟩
end Go.Proofs.Ytdnpoeegefkoiaa
