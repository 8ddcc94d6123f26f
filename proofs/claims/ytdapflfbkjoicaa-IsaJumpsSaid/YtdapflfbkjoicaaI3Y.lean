/-
  The walk of IsaJumps.
-/
import Derived.Test.YtdapflfbkjoicaaI3F
import Derived.Test.YtdapflfbkjoicaaI3W
import Derived.Deep.RegionHeld3
namespace Go.Proofs.Ytdapflfbkjoicaa
open Go.RowKit

theorem kinds_cell {w : World} {g : Nat} (h : Blk w g [10, 11, 12]) : w.cell? ⟨g, 0, none⟩ = some (.int .u8 10) ∧ w.cell? ⟨g, 1, none⟩ = some (.int .u8 11) ∧ w.cell? ⟨g, 2, none⟩ = some (.int .u8 12) := by
  unfold Blk at h
  simp [World.cell?, h, b8]
theorem jr_call {k r n : Int} (hk : k = 10 ∨ k = 11 ∨ k = 12) (hr : ¬ k = 11 → r = 0) {b : Bool} (hb : jB k r n = b) (w : World) :
    Calls Try.prog 11 #[.agg #[.int .u8 k, .int .u8 0, .int .i64 r, .int .i64 0, .int .i64 0, .int .i64 n, .int .i64 0]] w fun e w' => e = .returned (.bool b) ∧ Below w.heap.size w w' := by
  have := right_any (jI k r n) w
  unfold RightR at this
  rw [j_right hk hr, hb] at this
  exact this
theorem jt_call {k r n : Int} (hk : k = 10 ∨ k = 11 ∨ k = 12) (w : World) :
    Calls Try.prog 11 #[.agg #[.int .u8 k, .int .u8 0, .int .i64 r, .int .i64 0, .int .i64 1, .int .i64 n, .int .i64 0]] w fun e w' => e = .returned (.bool false) ∧ Below w.heap.size w w' := by
  have := right_any ⟨k, 0, r, 0, 1, n, 0⟩ w
  unfold RightR at this
  rw [j_third hk] at this
  exact this
theorem js_call {k r n : Int} (hk : k = 10 ∨ k = 11 ∨ k = 12) (hr : ¬ k = 11 → r = 0) (r0 : -9223372036854775808 ≤ r) (r1 : r < 9223372036854775808) (hb : jB k r n = true) {m : Int} (hm : (if k = 11 then 5 else 4) = m) (w : World) :
    Calls Try.prog 13 #[.agg #[.int .u8 k, .int .u8 0, .int .i64 r, .int .i64 0, .int .i64 0, .int .i64 n, .int .i64 0]] w fun e w' => e = .returned (.int .i64 m) ∧ Below w.heap.size w w' := by
  have hn : 0 ≤ n ∧ n < 16777216 := by simp only [jB, decide_eq_true_eq] at hb; exact hb.1
  have := isaSize_any (jI k r n) w (j_rng hk r0 r1 (by omega) (by omega))
  rw [j_size hk (by rw [j_right hk hr, hb])] at this
  have e : (((if k = 11 then 5 else 4 : Nat) : Nat) : Int) = m := by rw [← hm]; split <;> rfl
  rw [e] at this
  exact this
/-- two jumps, cell by cell -/
def Two (w : World) (g : Nat) (k r n m : Int) : Prop :=
  (w.cell? ⟨g, 0, none⟩ = some (.int .u8 k) ∧ w.cell? ⟨g, 1, none⟩ = some (.int .u8 0) ∧ w.cell? ⟨g, 2, none⟩ = some (.int .i64 r) ∧ w.cell? ⟨g, 3, none⟩ = some (.int .i64 0) ∧ w.cell? ⟨g, 4, none⟩ = some (.int .i64 0) ∧ w.cell? ⟨g, 5, none⟩ = some (.int .i64 n) ∧ w.cell? ⟨g, 6, none⟩ = some (.int .i64 0)) ∧
  (w.cell? ⟨g + 1, 0, none⟩ = some (.int .u8 k) ∧ w.cell? ⟨g + 1, 1, none⟩ = some (.int .u8 0) ∧ w.cell? ⟨g + 1, 2, none⟩ = some (.int .i64 r) ∧ w.cell? ⟨g + 1, 3, none⟩ = some (.int .i64 0) ∧ w.cell? ⟨g + 1, 4, none⟩ = some (.int .i64 0) ∧ w.cell? ⟨g + 1, 5, none⟩ = some (.int .i64 m) ∧ w.cell? ⟨g + 1, 6, none⟩ = some (.int .i64 0))

theorem drawn {w w2 : World} (h : Below w.drew.heap.size w.drew w2) : Below w.heap.size w w2 := ⟨h.os, h.tape, h.output, h.size, h.block⟩
theorem two_at {w : World} {g : Nat} {k r n m : Int} (h1 : InsAt w g (jI k r n)) (h2 : InsAt w (g + 1) (jI k r m)) : Two w g k r n m := ⟨(ins_cells h1).1, (ins_cells h2).1⟩
theorem Two.below {w w' : World} {g B : Nat} {k r n m : Int} (h : Two w g k r n m) (hb : Below B w w') (hB : g + 1 < B) : Two w' g k r n m := by
  have h1 : ∀ j, w'.cell? ⟨g, j, none⟩ = w.cell? ⟨g, j, none⟩ := fun j => hb.cell (p := ⟨g, j, none⟩) (by simp; omega)
  have h2 : ∀ j, w'.cell? ⟨g + 1, j, none⟩ = w.cell? ⟨g + 1, j, none⟩ := fun j => hb.cell (p := ⟨g + 1, j, none⟩) hB
  unfold Two at *
  simp only [h1, h2]
  exact h

set_option maxRecDepth 100000 in
set_option maxHeartbeats 8000000 in
theorem isaJumps_any (r one two : Int) (w : World) (r0 : -9223372036854775808 ≤ r) (r1 : r < 9223372036854775808) :
    Calls Try.prog 7 #[.int .i64 r, .int .i64 one, .int .i64 two] w (Yes w) := by
  have hK0 := Lib.hid (show Blk (w.alloc (.cells #[.int .u8 10, .int .u8 11, .int .u8 12] 5)) w.heap.size [10, 11, 12] from blk_lit w [10, 11, 12] _ rfl)
  have hB0 := Lib.hid (below_box w (.cells #[.int .u8 10, .int .u8 11, .int .u8 12] 5))
  go_enter Try.func7, Try.ntmps7
  go_wp2_with fail
  go_loopw [8] (fun i wr => ∃ q : Nat, q ≤ 3 ∧ i = .int .i64 q ∧ Hid (Blk wr w.heap.size [10, 11, 12]) ∧ Hid (Below w.heap.size w wr)) (fun i _ => 3 - (intOf i).toNat)
  case atStart => exact ⟨0, by omega, rfl, hK0, hB0⟩
  case round =>
    clear hK0 hB0
    obtain ⟨q, hq, rfl, hk, hb⟩ := hrel
    have hq4 : q = 0 ∨ q = 1 ∨ q = 2 ∨ q = 3 := by omega
    rcases hq4 with rfl | rfl | rfl | rfl
    · by_cases h1 : 0 ≤ one
      · by_cases h2 : one < 16777216
        · by_cases h5 : 0 ≤ two ∧ two < 16777216
          · obtain ⟨h5, h6⟩ := h5
            have hlt := hk.out.lt
            have HRa := Lib.hid (fun w => jr_call (k := 10) (r := 0) (n := one) (b := true) (by decide) (fun _ => rfl) (by simp [jB] <;> omega) w)
            have HT := Lib.hid (fun w => jt_call (k := 10) (r := 0) (n := one) (by decide) w)
            have HRb := Lib.hid (fun w => jr_call (k := 10) (r := 0) (n := two) (b := true) (by decide) (fun _ => rfl) (by simp [jB] <;> omega) w)
            have HS := Lib.hid (fun n (h : n = one ∨ n = two) w => js_call (k := 10) (r := 0) (n := n) (m := 4) (by decide) (fun _ => rfl) (by omega) (by omega) (by rcases h with rfl | rfl <;> simp [jB] <;> omega) rfl w)
            have e0 := (kinds_cell hk.out).1
            have e1 := (kinds_cell (hk.out.alloc (.cells #[.int .u8 10, .int .u8 0, .int .i64 0, .int .i64 0, .int .i64 0, .int .i64 one, .int .i64 0] 24))).1
            have e2 := (kinds_cell ((hk.out.alloc (.cells #[.int .u8 10, .int .u8 0, .int .i64 0, .int .i64 0, .int .i64 0, .int .i64 one, .int .i64 0] 24)).alloc (.cells #[.int .u8 10, .int .u8 0, .int .i64 0, .int .i64 0, .int .i64 0, .int .i64 two, .int .i64 0] 24))).1
            go_wp2_with fail
            refine (HRa.out _).mono ?_
            rintro e w2 ⟨rfl, hb2⟩
            have hz := hb.out.size
            have hz2 := hb2.size
            have h2 : Two w2 wr.heap.size 10 0 one two := Two.below (two_at (heap_alloc2_old wr _ _) (heap_alloc2_new wr _ _)) hb2 (by simp)
            have HK2 := Lib.hid (((hk.out.alloc (.cells #[.int .u8 10, .int .u8 0, .int .i64 0, .int .i64 0, .int .i64 0, .int .i64 one, .int .i64 0] 24)).alloc (.cells #[.int .u8 10, .int .u8 0, .int .i64 0, .int .i64 0, .int .i64 0, .int .i64 two, .int .i64 0] 24)).below hb2 (by simp; omega))
            have HB2 := Lib.hid (hb.out.trans (((below_box2 wr (.cells #[.int .u8 10, .int .u8 0, .int .i64 0, .int .i64 0, .int .i64 0, .int .i64 one, .int .i64 0] 24) (.cells #[.int .u8 10, .int .u8 0, .int .i64 0, .int .i64 0, .int .i64 0, .int .i64 two, .int .i64 0] 24)).trans (hb2.mono (by simp; omega))).mono hz))
            have hg2 : wr.heap.size + 2 ≤ w2.heap.size := by simpa using hz2
            have HA2 := Lib.hid (InsAt.below (show InsAt _ wr.heap.size (jI 10 0 one) from heap_alloc2_old wr _ (.cells #[.int .u8 10, .int .u8 0, .int .i64 0, .int .i64 0, .int .i64 0, .int .i64 two, .int .i64 0] 24)) hb2 (by simp; omega))
            have hf2 : ∀ j, w2.frozen? ⟨wr.heap.size, j, none⟩ = false := (ins_cells (InsAt.below (show InsAt _ wr.heap.size (jI 10 0 one) from heap_alloc2_old wr _ (.cells #[.int .u8 10, .int .u8 0, .int .i64 0, .int .i64 0, .int .i64 0, .int .i64 two, .int .i64 0] 24)) hb2 (by simp; omega))).2
            clear e0 e1 e2 hk hb hb2 hz2 HRa
            have ht2 := Lib.hid h2
            unfold Two at h2
            obtain ⟨⟨c0, c1, c2, c3, c4, c5, c6⟩, d0, d1, d2, d3, d4, d5, d6⟩ := h2
            go_wp2_with fail
            go_region_held3 (fun W => (W.cell? ⟨wr.heap.size, 0, none⟩ = some (.int .u8 10) ∧ W.cell? ⟨wr.heap.size, 1, none⟩ = some (.int .u8 0) ∧ W.cell? ⟨wr.heap.size, 2, none⟩ = some (.int .i64 0) ∧ W.cell? ⟨wr.heap.size, 3, none⟩ = some (.int .i64 0) ∧ W.cell? ⟨wr.heap.size, 4, none⟩ = some (.int .i64 0) ∧ W.cell? ⟨wr.heap.size, 5, none⟩ = some (.int .i64 one) ∧ W.cell? ⟨wr.heap.size, 6, none⟩ = some (.int .i64 0)) ∧ (W.cell? ⟨wr.heap.size + 1, 0, none⟩ = some (.int .u8 10) ∧ W.cell? ⟨wr.heap.size + 1, 1, none⟩ = some (.int .u8 0) ∧ W.cell? ⟨wr.heap.size + 1, 2, none⟩ = some (.int .i64 0) ∧ W.cell? ⟨wr.heap.size + 1, 3, none⟩ = some (.int .i64 0) ∧ W.cell? ⟨wr.heap.size + 1, 4, none⟩ = some (.int .i64 0) ∧ W.cell? ⟨wr.heap.size + 1, 5, none⟩ = some (.int .i64 two) ∧ W.cell? ⟨wr.heap.size + 1, 6, none⟩ = some (.int .i64 0))) (first | go_keep | (exact Two.below (show Two _ wr.heap.size 10 0 one two from by assumption) hb5 (by first | omega | (simp; omega))) | (exact Two.below (show Two _ wr.heap.size 10 0 one two from by assumption) hb4 (by first | omega | (simp; omega))) | (exact Two.below (show Two _ wr.heap.size 10 0 one two from by assumption) hb3 (by first | omega | (simp; omega)))) (first
              | (go_at_call 11; refine (HRb.out _).mono ?_; rintro e w3 ⟨rfl, hb3⟩; have hs3 := Nat.le_trans hg2 hb3.size)
              | (go_at_call_of 13 one; refine (HS.out one (.inl rfl) _).mono ?_; rintro e w4 ⟨rfl, hb4⟩; have hs4 := Nat.le_trans hs3 hb4.size)
              | (go_at_call_of 13 two; refine (HS.out two (.inr rfl) _).mono ?_; rintro e w5 ⟨rfl, hb5⟩; have hs5 := Nat.le_trans hs4 hb5.size))
            have hd3 := drawn hb3
            have hbn : Below w2.heap.size w2 w5 := hd3.trans ((hb4.mono hd3.size).trans (hb5.mono (Nat.le_trans hd3.size hb4.size)))
            have han := HA2.out.below hbn (by omega)
            obtain ⟨⟨k0, k1, k2, k3, k4, k5, k6⟩, kf⟩ := ins_cells han
            have HBW := Lib.hid ((HB2.out.trans (hbn.mono HB2.out.size)).setCell (p := ⟨wr.heap.size, 4, none⟩) (by simpa using hz) (.int .i64 1))
            have HKW := Lib.hid (Blk.other (HK2.out.below hbn HK2.out.lt) (p := ⟨wr.heap.size, 4, none⟩) (by simp; omega) (.int .i64 1))
            clear hbn han hb3 hb4 hb5 hd3 c0 c1 c2 c3 c4 c5 c6 d0 d1 d2 d3 d4 d5 d6
            go_wp2_with fail
            refine (HT.out _).mono ?_
            rintro e w9 ⟨rfl, hb9⟩
            have HK9 := Lib.hid (HKW.out.below hb9 (by simp [World.setCell]; omega))
            have HB9 := Lib.hid (HBW.out.trans (hb9.mono (by simp [World.setCell]; omega)))
            clear HKW HBW hb9
            go_wp2_with fail
            go_roundw
            case rel => exact ⟨1, by omega, by go_num, HK9, HB9⟩
            case measure => simp [intOf]
          · have hlt := hk.out.lt
            have HRa := Lib.hid (fun w => jr_call (k := 10) (r := 0) (n := one) (b := true) (by decide) (fun _ => rfl) (by simp [jB] <;> omega) w)
            have HT := Lib.hid (fun w => jt_call (k := 10) (r := 0) (n := one) (by decide) w)
            have HRb := Lib.hid (fun w => jr_call (k := 10) (r := 0) (n := two) (b := false) (by decide) (fun _ => rfl) (by simp [jB] <;> omega) w)
            have e0 := (kinds_cell hk.out).1
            have e1 := (kinds_cell (hk.out.alloc (.cells #[.int .u8 10, .int .u8 0, .int .i64 0, .int .i64 0, .int .i64 0, .int .i64 one, .int .i64 0] 24))).1
            have e2 := (kinds_cell ((hk.out.alloc (.cells #[.int .u8 10, .int .u8 0, .int .i64 0, .int .i64 0, .int .i64 0, .int .i64 one, .int .i64 0] 24)).alloc (.cells #[.int .u8 10, .int .u8 0, .int .i64 0, .int .i64 0, .int .i64 0, .int .i64 two, .int .i64 0] 24))).1
            go_wp2_with fail
            refine (HRa.out _).mono ?_
            rintro e w2 ⟨rfl, hb2⟩
            have hz := hb.out.size
            have hz2 := hb2.size
            have h2 : Two w2 wr.heap.size 10 0 one two := Two.below (two_at (heap_alloc2_old wr _ _) (heap_alloc2_new wr _ _)) hb2 (by simp)
            have HK2 := Lib.hid (((hk.out.alloc (.cells #[.int .u8 10, .int .u8 0, .int .i64 0, .int .i64 0, .int .i64 0, .int .i64 one, .int .i64 0] 24)).alloc (.cells #[.int .u8 10, .int .u8 0, .int .i64 0, .int .i64 0, .int .i64 0, .int .i64 two, .int .i64 0] 24)).below hb2 (by simp; omega))
            have HB2 := Lib.hid (hb.out.trans (((below_box2 wr (.cells #[.int .u8 10, .int .u8 0, .int .i64 0, .int .i64 0, .int .i64 0, .int .i64 one, .int .i64 0] 24) (.cells #[.int .u8 10, .int .u8 0, .int .i64 0, .int .i64 0, .int .i64 0, .int .i64 two, .int .i64 0] 24)).trans (hb2.mono (by simp; omega))).mono hz))
            have hg2 : wr.heap.size + 2 ≤ w2.heap.size := by simpa using hz2
            have HA2 := Lib.hid (InsAt.below (show InsAt _ wr.heap.size (jI 10 0 one) from heap_alloc2_old wr _ (.cells #[.int .u8 10, .int .u8 0, .int .i64 0, .int .i64 0, .int .i64 0, .int .i64 two, .int .i64 0] 24)) hb2 (by simp; omega))
            have hf2 : ∀ j, w2.frozen? ⟨wr.heap.size, j, none⟩ = false := (ins_cells (InsAt.below (show InsAt _ wr.heap.size (jI 10 0 one) from heap_alloc2_old wr _ (.cells #[.int .u8 10, .int .u8 0, .int .i64 0, .int .i64 0, .int .i64 0, .int .i64 two, .int .i64 0] 24)) hb2 (by simp; omega))).2
            clear e0 e1 e2 hk hb hb2 hz2 HRa
            have ht2 := Lib.hid h2
            unfold Two at h2
            obtain ⟨⟨c0, c1, c2, c3, c4, c5, c6⟩, d0, d1, d2, d3, d4, d5, d6⟩ := h2
            go_wp2_with fail
            go_region_with (first
              | (go_at_call 11; refine (HRb.out _).mono ?_; rintro e w3 ⟨rfl, hb3⟩; have hs3 := Nat.le_trans hg2 hb3.size))
            all_goals have hbn : Below w2.heap.size w2 w3 := drawn hb3
            all_goals
              have han := HA2.out.below hbn (by omega)
              obtain ⟨⟨k0, k1, k2, k3, k4, k5, k6⟩, kf⟩ := ins_cells han
              have HBW := Lib.hid ((HB2.out.trans (hbn.mono HB2.out.size)).setCell (p := ⟨wr.heap.size, 4, none⟩) (by simpa using hz) (.int .i64 1))
              have HKW := Lib.hid (Blk.other (HK2.out.below hbn HK2.out.lt) (p := ⟨wr.heap.size, 4, none⟩) (by simp; omega) (.int .i64 1))
              clear hbn han hb3 c0 c1 c2 c3 c4 c5 c6 d0 d1 d2 d3 d4 d5 d6
              go_wp2_with fail
              refine (HT.out _).mono ?_
              rintro e w9 ⟨rfl, hb9⟩
              have HK9 := Lib.hid (HKW.out.below hb9 (by simp [World.setCell]; omega))
              have HB9 := Lib.hid (HBW.out.trans (hb9.mono (by simp [World.setCell]; omega)))
              clear HKW HBW hb9
              go_wp2_with fail
              go_roundw
              case rel => exact ⟨1, by omega, by go_num, HK9, HB9⟩
              case measure => simp [intOf]
        · have hlt := hk.out.lt
          have HRa := Lib.hid (fun w => jr_call (k := 10) (r := 0) (n := one) (b := false) (by decide) (fun _ => rfl) (by simp [jB] <;> omega) w)
          have HT := Lib.hid (fun w => jt_call (k := 10) (r := 0) (n := one) (by decide) w)
          have e0 := (kinds_cell hk.out).1
          have e1 := (kinds_cell (hk.out.alloc (.cells #[.int .u8 10, .int .u8 0, .int .i64 0, .int .i64 0, .int .i64 0, .int .i64 one, .int .i64 0] 24))).1
          have e2 := (kinds_cell ((hk.out.alloc (.cells #[.int .u8 10, .int .u8 0, .int .i64 0, .int .i64 0, .int .i64 0, .int .i64 one, .int .i64 0] 24)).alloc (.cells #[.int .u8 10, .int .u8 0, .int .i64 0, .int .i64 0, .int .i64 0, .int .i64 two, .int .i64 0] 24))).1
          go_wp2_with fail
          refine (HRa.out _).mono ?_
          rintro e w2 ⟨rfl, hb2⟩
          have hz := hb.out.size
          have hz2 := hb2.size
          have h2 : Two w2 wr.heap.size 10 0 one two := Two.below (two_at (heap_alloc2_old wr _ _) (heap_alloc2_new wr _ _)) hb2 (by simp)
          have HK2 := Lib.hid (((hk.out.alloc (.cells #[.int .u8 10, .int .u8 0, .int .i64 0, .int .i64 0, .int .i64 0, .int .i64 one, .int .i64 0] 24)).alloc (.cells #[.int .u8 10, .int .u8 0, .int .i64 0, .int .i64 0, .int .i64 0, .int .i64 two, .int .i64 0] 24)).below hb2 (by simp; omega))
          have HB2 := Lib.hid (hb.out.trans (((below_box2 wr (.cells #[.int .u8 10, .int .u8 0, .int .i64 0, .int .i64 0, .int .i64 0, .int .i64 one, .int .i64 0] 24) (.cells #[.int .u8 10, .int .u8 0, .int .i64 0, .int .i64 0, .int .i64 0, .int .i64 two, .int .i64 0] 24)).trans (hb2.mono (by simp; omega))).mono hz))
          have hg2 : wr.heap.size + 2 ≤ w2.heap.size := by simpa using hz2
          have HA2 := Lib.hid (InsAt.below (show InsAt _ wr.heap.size (jI 10 0 one) from heap_alloc2_old wr _ (.cells #[.int .u8 10, .int .u8 0, .int .i64 0, .int .i64 0, .int .i64 0, .int .i64 two, .int .i64 0] 24)) hb2 (by simp; omega))
          have hf2 : ∀ j, w2.frozen? ⟨wr.heap.size, j, none⟩ = false := (ins_cells (InsAt.below (show InsAt _ wr.heap.size (jI 10 0 one) from heap_alloc2_old wr _ (.cells #[.int .u8 10, .int .u8 0, .int .i64 0, .int .i64 0, .int .i64 0, .int .i64 two, .int .i64 0] 24)) hb2 (by simp; omega))).2
          clear e0 e1 e2 hk hb hb2 hz2 HRa
          obtain ⟨⟨c0, c1, c2, c3, c4, c5, c6⟩, -⟩ := h2
          go_wp2_with fail
          go_quiet (fail)
          have HBW := Lib.hid ((HB2.out.trans (below_draws nq)).setCell (p := ⟨wr.heap.size, 4, none⟩) (by simpa using hz) (.int .i64 1))
          have HKW := Lib.hid (Blk.other (w := w2.drewN nq) HK2.out (p := ⟨wr.heap.size, 4, none⟩) (by simp; omega) (.int .i64 1))
          go_wp2_with fail
          refine (HT.out _).mono ?_
          rintro e w9 ⟨rfl, hb9⟩
          have HK9 := Lib.hid (HKW.out.below hb9 (by simp [World.setCell]; omega))
          have HB9 := Lib.hid (HBW.out.trans (hb9.mono (by simp [World.setCell]; omega)))
          clear HKW HBW hb9
          go_wp2_with fail
          go_roundw
          case rel => exact ⟨1, by omega, by go_num, HK9, HB9⟩
          case measure => simp [intOf]
      · have hlt := hk.out.lt
        have HRa := Lib.hid (fun w => jr_call (k := 10) (r := 0) (n := one) (b := false) (by decide) (fun _ => rfl) (by simp [jB] <;> omega) w)
        have HT := Lib.hid (fun w => jt_call (k := 10) (r := 0) (n := one) (by decide) w)
        have e0 := (kinds_cell hk.out).1
        have e1 := (kinds_cell (hk.out.alloc (.cells #[.int .u8 10, .int .u8 0, .int .i64 0, .int .i64 0, .int .i64 0, .int .i64 one, .int .i64 0] 24))).1
        have e2 := (kinds_cell ((hk.out.alloc (.cells #[.int .u8 10, .int .u8 0, .int .i64 0, .int .i64 0, .int .i64 0, .int .i64 one, .int .i64 0] 24)).alloc (.cells #[.int .u8 10, .int .u8 0, .int .i64 0, .int .i64 0, .int .i64 0, .int .i64 two, .int .i64 0] 24))).1
        go_wp2_with fail
        refine (HRa.out _).mono ?_
        rintro e w2 ⟨rfl, hb2⟩
        have hz := hb.out.size
        have hz2 := hb2.size
        have h2 : Two w2 wr.heap.size 10 0 one two := Two.below (two_at (heap_alloc2_old wr _ _) (heap_alloc2_new wr _ _)) hb2 (by simp)
        have HK2 := Lib.hid (((hk.out.alloc (.cells #[.int .u8 10, .int .u8 0, .int .i64 0, .int .i64 0, .int .i64 0, .int .i64 one, .int .i64 0] 24)).alloc (.cells #[.int .u8 10, .int .u8 0, .int .i64 0, .int .i64 0, .int .i64 0, .int .i64 two, .int .i64 0] 24)).below hb2 (by simp; omega))
        have HB2 := Lib.hid (hb.out.trans (((below_box2 wr (.cells #[.int .u8 10, .int .u8 0, .int .i64 0, .int .i64 0, .int .i64 0, .int .i64 one, .int .i64 0] 24) (.cells #[.int .u8 10, .int .u8 0, .int .i64 0, .int .i64 0, .int .i64 0, .int .i64 two, .int .i64 0] 24)).trans (hb2.mono (by simp; omega))).mono hz))
        have hg2 : wr.heap.size + 2 ≤ w2.heap.size := by simpa using hz2
        have HA2 := Lib.hid (InsAt.below (show InsAt _ wr.heap.size (jI 10 0 one) from heap_alloc2_old wr _ (.cells #[.int .u8 10, .int .u8 0, .int .i64 0, .int .i64 0, .int .i64 0, .int .i64 two, .int .i64 0] 24)) hb2 (by simp; omega))
        have hf2 : ∀ j, w2.frozen? ⟨wr.heap.size, j, none⟩ = false := (ins_cells (InsAt.below (show InsAt _ wr.heap.size (jI 10 0 one) from heap_alloc2_old wr _ (.cells #[.int .u8 10, .int .u8 0, .int .i64 0, .int .i64 0, .int .i64 0, .int .i64 two, .int .i64 0] 24)) hb2 (by simp; omega))).2
        clear e0 e1 e2 hk hb hb2 hz2 HRa
        obtain ⟨⟨c0, c1, c2, c3, c4, c5, c6⟩, -⟩ := h2
        go_wp2_with fail
        go_quiet (fail)
        have HBW := Lib.hid ((HB2.out.trans (below_draws nq)).setCell (p := ⟨wr.heap.size, 4, none⟩) (by simpa using hz) (.int .i64 1))
        have HKW := Lib.hid (Blk.other (w := w2.drewN nq) HK2.out (p := ⟨wr.heap.size, 4, none⟩) (by simp; omega) (.int .i64 1))
        go_wp2_with fail
        refine (HT.out _).mono ?_
        rintro e w9 ⟨rfl, hb9⟩
        have HK9 := Lib.hid (HKW.out.below hb9 (by simp [World.setCell]; omega))
        have HB9 := Lib.hid (HBW.out.trans (hb9.mono (by simp [World.setCell]; omega)))
        clear HKW HBW hb9
        go_wp2_with fail
        go_roundw
        case rel => exact ⟨1, by omega, by go_num, HK9, HB9⟩
        case measure => simp [intOf]
    · by_cases h1 : 0 ≤ one
      · by_cases h2 : one < 16777216
        · by_cases h3 : 0 ≤ r
          · by_cases h4 : r < 16
            · by_cases h5 : 0 ≤ two ∧ two < 16777216
              · obtain ⟨h5, h6⟩ := h5
                have hlt := hk.out.lt
                have HRa := Lib.hid (fun w => jr_call (k := 11) (r := r) (n := one) (b := true) (by decide) (fun h => absurd rfl h) (by simp [jB] <;> omega) w)
                have HT := Lib.hid (fun w => jt_call (k := 11) (r := r) (n := one) (by decide) w)
                have HRb := Lib.hid (fun w => jr_call (k := 11) (r := r) (n := two) (b := true) (by decide) (fun h => absurd rfl h) (by simp [jB] <;> omega) w)
                have HS := Lib.hid (fun n (h : n = one ∨ n = two) w => js_call (k := 11) (r := r) (n := n) (m := 5) (by decide) (fun h => absurd rfl h) (by omega) (by omega) (by rcases h with rfl | rfl <;> simp [jB] <;> omega) rfl w)
                have e0 := (kinds_cell hk.out).2.1
                have e1 := (kinds_cell (hk.out.alloc (.cells #[.int .u8 11, .int .u8 0, .int .i64 0, .int .i64 0, .int .i64 0, .int .i64 one, .int .i64 0] 24))).2.1
                have e2 := (kinds_cell ((hk.out.alloc (.cells #[.int .u8 11, .int .u8 0, .int .i64 0, .int .i64 0, .int .i64 0, .int .i64 one, .int .i64 0] 24)).alloc (.cells #[.int .u8 11, .int .u8 0, .int .i64 0, .int .i64 0, .int .i64 0, .int .i64 two, .int .i64 0] 24))).2.1
                have e3 := (kinds_cell ((hk.out.alloc (.cells #[.int .u8 11, .int .u8 0, .int .i64 r, .int .i64 0, .int .i64 0, .int .i64 one, .int .i64 0] 24)).alloc (.cells #[.int .u8 11, .int .u8 0, .int .i64 r, .int .i64 0, .int .i64 0, .int .i64 two, .int .i64 0] 24))).2.1
                go_wp2_with fail
                refine (HRa.out _).mono ?_
                rintro e w2 ⟨rfl, hb2⟩
                have hz := hb.out.size
                have hz2 := hb2.size
                have h2 : Two w2 wr.heap.size 11 r one two := Two.below (two_at (heap_alloc2_old wr _ _) (heap_alloc2_new wr _ _)) hb2 (by simp)
                have HK2 := Lib.hid (((hk.out.alloc (.cells #[.int .u8 11, .int .u8 0, .int .i64 r, .int .i64 0, .int .i64 0, .int .i64 one, .int .i64 0] 24)).alloc (.cells #[.int .u8 11, .int .u8 0, .int .i64 r, .int .i64 0, .int .i64 0, .int .i64 two, .int .i64 0] 24)).below hb2 (by simp; omega))
                have HB2 := Lib.hid (hb.out.trans (((below_box2 wr (.cells #[.int .u8 11, .int .u8 0, .int .i64 r, .int .i64 0, .int .i64 0, .int .i64 one, .int .i64 0] 24) (.cells #[.int .u8 11, .int .u8 0, .int .i64 r, .int .i64 0, .int .i64 0, .int .i64 two, .int .i64 0] 24)).trans (hb2.mono (by simp; omega))).mono hz))
                have hg2 : wr.heap.size + 2 ≤ w2.heap.size := by simpa using hz2
                have HA2 := Lib.hid (InsAt.below (show InsAt _ wr.heap.size (jI 11 r one) from heap_alloc2_old wr _ (.cells #[.int .u8 11, .int .u8 0, .int .i64 r, .int .i64 0, .int .i64 0, .int .i64 two, .int .i64 0] 24)) hb2 (by simp; omega))
                have hf2 : ∀ j, w2.frozen? ⟨wr.heap.size, j, none⟩ = false := (ins_cells (InsAt.below (show InsAt _ wr.heap.size (jI 11 r one) from heap_alloc2_old wr _ (.cells #[.int .u8 11, .int .u8 0, .int .i64 r, .int .i64 0, .int .i64 0, .int .i64 two, .int .i64 0] 24)) hb2 (by simp; omega))).2
                clear e0 e1 e2 e3 hk hb hb2 hz2 HRa
                have ht2 := Lib.hid h2
                unfold Two at h2
                obtain ⟨⟨c0, c1, c2, c3, c4, c5, c6⟩, d0, d1, d2, d3, d4, d5, d6⟩ := h2
                go_wp2_with fail
                go_region_held3 (fun W => (W.cell? ⟨wr.heap.size, 0, none⟩ = some (.int .u8 11) ∧ W.cell? ⟨wr.heap.size, 1, none⟩ = some (.int .u8 0) ∧ W.cell? ⟨wr.heap.size, 2, none⟩ = some (.int .i64 r) ∧ W.cell? ⟨wr.heap.size, 3, none⟩ = some (.int .i64 0) ∧ W.cell? ⟨wr.heap.size, 4, none⟩ = some (.int .i64 0) ∧ W.cell? ⟨wr.heap.size, 5, none⟩ = some (.int .i64 one) ∧ W.cell? ⟨wr.heap.size, 6, none⟩ = some (.int .i64 0)) ∧ (W.cell? ⟨wr.heap.size + 1, 0, none⟩ = some (.int .u8 11) ∧ W.cell? ⟨wr.heap.size + 1, 1, none⟩ = some (.int .u8 0) ∧ W.cell? ⟨wr.heap.size + 1, 2, none⟩ = some (.int .i64 r) ∧ W.cell? ⟨wr.heap.size + 1, 3, none⟩ = some (.int .i64 0) ∧ W.cell? ⟨wr.heap.size + 1, 4, none⟩ = some (.int .i64 0) ∧ W.cell? ⟨wr.heap.size + 1, 5, none⟩ = some (.int .i64 two) ∧ W.cell? ⟨wr.heap.size + 1, 6, none⟩ = some (.int .i64 0))) (first | go_keep | (exact Two.below (show Two _ wr.heap.size 11 r one two from by assumption) hb5 (by first | omega | (simp; omega))) | (exact Two.below (show Two _ wr.heap.size 11 r one two from by assumption) hb4 (by first | omega | (simp; omega))) | (exact Two.below (show Two _ wr.heap.size 11 r one two from by assumption) hb3 (by first | omega | (simp; omega)))) (first
                  | (go_at_call 11; refine (HRb.out _).mono ?_; rintro e w3 ⟨rfl, hb3⟩; have hs3 := Nat.le_trans hg2 hb3.size)
                  | (go_at_call_of 13 one; refine (HS.out one (.inl rfl) _).mono ?_; rintro e w4 ⟨rfl, hb4⟩; have hs4 := Nat.le_trans hs3 hb4.size)
                  | (go_at_call_of 13 two; refine (HS.out two (.inr rfl) _).mono ?_; rintro e w5 ⟨rfl, hb5⟩; have hs5 := Nat.le_trans hs4 hb5.size))
                have hd3 := drawn hb3
                have hbn : Below w2.heap.size w2 w5 := hd3.trans ((hb4.mono hd3.size).trans (hb5.mono (Nat.le_trans hd3.size hb4.size)))
                have han := HA2.out.below hbn (by omega)
                obtain ⟨⟨k0, k1, k2, k3, k4, k5, k6⟩, kf⟩ := ins_cells han
                have HBW := Lib.hid ((HB2.out.trans (hbn.mono HB2.out.size)).setCell (p := ⟨wr.heap.size, 4, none⟩) (by simpa using hz) (.int .i64 1))
                have HKW := Lib.hid (Blk.other (HK2.out.below hbn HK2.out.lt) (p := ⟨wr.heap.size, 4, none⟩) (by simp; omega) (.int .i64 1))
                clear hbn han hb3 hb4 hb5 hd3 c0 c1 c2 c3 c4 c5 c6 d0 d1 d2 d3 d4 d5 d6
                go_wp2_with fail
                refine (HT.out _).mono ?_
                rintro e w9 ⟨rfl, hb9⟩
                have HK9 := Lib.hid (HKW.out.below hb9 (by simp [World.setCell]; omega))
                have HB9 := Lib.hid (HBW.out.trans (hb9.mono (by simp [World.setCell]; omega)))
                clear HKW HBW hb9
                go_wp2_with fail
                go_roundw
                case rel => exact ⟨2, by omega, by go_num, HK9, HB9⟩
                case measure => simp [intOf]
              · have hlt := hk.out.lt
                have HRa := Lib.hid (fun w => jr_call (k := 11) (r := r) (n := one) (b := true) (by decide) (fun h => absurd rfl h) (by simp [jB] <;> omega) w)
                have HT := Lib.hid (fun w => jt_call (k := 11) (r := r) (n := one) (by decide) w)
                have HRb := Lib.hid (fun w => jr_call (k := 11) (r := r) (n := two) (b := false) (by decide) (fun h => absurd rfl h) (by simp [jB] <;> omega) w)
                have e0 := (kinds_cell hk.out).2.1
                have e1 := (kinds_cell (hk.out.alloc (.cells #[.int .u8 11, .int .u8 0, .int .i64 0, .int .i64 0, .int .i64 0, .int .i64 one, .int .i64 0] 24))).2.1
                have e2 := (kinds_cell ((hk.out.alloc (.cells #[.int .u8 11, .int .u8 0, .int .i64 0, .int .i64 0, .int .i64 0, .int .i64 one, .int .i64 0] 24)).alloc (.cells #[.int .u8 11, .int .u8 0, .int .i64 0, .int .i64 0, .int .i64 0, .int .i64 two, .int .i64 0] 24))).2.1
                have e3 := (kinds_cell ((hk.out.alloc (.cells #[.int .u8 11, .int .u8 0, .int .i64 r, .int .i64 0, .int .i64 0, .int .i64 one, .int .i64 0] 24)).alloc (.cells #[.int .u8 11, .int .u8 0, .int .i64 r, .int .i64 0, .int .i64 0, .int .i64 two, .int .i64 0] 24))).2.1
                go_wp2_with fail
                refine (HRa.out _).mono ?_
                rintro e w2 ⟨rfl, hb2⟩
                have hz := hb.out.size
                have hz2 := hb2.size
                have h2 : Two w2 wr.heap.size 11 r one two := Two.below (two_at (heap_alloc2_old wr _ _) (heap_alloc2_new wr _ _)) hb2 (by simp)
                have HK2 := Lib.hid (((hk.out.alloc (.cells #[.int .u8 11, .int .u8 0, .int .i64 r, .int .i64 0, .int .i64 0, .int .i64 one, .int .i64 0] 24)).alloc (.cells #[.int .u8 11, .int .u8 0, .int .i64 r, .int .i64 0, .int .i64 0, .int .i64 two, .int .i64 0] 24)).below hb2 (by simp; omega))
                have HB2 := Lib.hid (hb.out.trans (((below_box2 wr (.cells #[.int .u8 11, .int .u8 0, .int .i64 r, .int .i64 0, .int .i64 0, .int .i64 one, .int .i64 0] 24) (.cells #[.int .u8 11, .int .u8 0, .int .i64 r, .int .i64 0, .int .i64 0, .int .i64 two, .int .i64 0] 24)).trans (hb2.mono (by simp; omega))).mono hz))
                have hg2 : wr.heap.size + 2 ≤ w2.heap.size := by simpa using hz2
                have HA2 := Lib.hid (InsAt.below (show InsAt _ wr.heap.size (jI 11 r one) from heap_alloc2_old wr _ (.cells #[.int .u8 11, .int .u8 0, .int .i64 r, .int .i64 0, .int .i64 0, .int .i64 two, .int .i64 0] 24)) hb2 (by simp; omega))
                have hf2 : ∀ j, w2.frozen? ⟨wr.heap.size, j, none⟩ = false := (ins_cells (InsAt.below (show InsAt _ wr.heap.size (jI 11 r one) from heap_alloc2_old wr _ (.cells #[.int .u8 11, .int .u8 0, .int .i64 r, .int .i64 0, .int .i64 0, .int .i64 two, .int .i64 0] 24)) hb2 (by simp; omega))).2
                clear e0 e1 e2 e3 hk hb hb2 hz2 HRa
                have ht2 := Lib.hid h2
                unfold Two at h2
                obtain ⟨⟨c0, c1, c2, c3, c4, c5, c6⟩, d0, d1, d2, d3, d4, d5, d6⟩ := h2
                go_wp2_with fail
                go_region_with (first
                  | (go_at_call 11; refine (HRb.out _).mono ?_; rintro e w3 ⟨rfl, hb3⟩; have hs3 := Nat.le_trans hg2 hb3.size))
                all_goals have hbn : Below w2.heap.size w2 w3 := drawn hb3
                all_goals
                  have han := HA2.out.below hbn (by omega)
                  obtain ⟨⟨k0, k1, k2, k3, k4, k5, k6⟩, kf⟩ := ins_cells han
                  have HBW := Lib.hid ((HB2.out.trans (hbn.mono HB2.out.size)).setCell (p := ⟨wr.heap.size, 4, none⟩) (by simpa using hz) (.int .i64 1))
                  have HKW := Lib.hid (Blk.other (HK2.out.below hbn HK2.out.lt) (p := ⟨wr.heap.size, 4, none⟩) (by simp; omega) (.int .i64 1))
                  clear hbn han hb3 c0 c1 c2 c3 c4 c5 c6 d0 d1 d2 d3 d4 d5 d6
                  go_wp2_with fail
                  refine (HT.out _).mono ?_
                  rintro e w9 ⟨rfl, hb9⟩
                  have HK9 := Lib.hid (HKW.out.below hb9 (by simp [World.setCell]; omega))
                  have HB9 := Lib.hid (HBW.out.trans (hb9.mono (by simp [World.setCell]; omega)))
                  clear HKW HBW hb9
                  go_wp2_with fail
                  go_roundw
                  case rel => exact ⟨2, by omega, by go_num, HK9, HB9⟩
                  case measure => simp [intOf]
            · have hlt := hk.out.lt
              have HRa := Lib.hid (fun w => jr_call (k := 11) (r := r) (n := one) (b := false) (by decide) (fun h => absurd rfl h) (by simp [jB] <;> omega) w)
              have HT := Lib.hid (fun w => jt_call (k := 11) (r := r) (n := one) (by decide) w)
              have e0 := (kinds_cell hk.out).2.1
              have e1 := (kinds_cell (hk.out.alloc (.cells #[.int .u8 11, .int .u8 0, .int .i64 0, .int .i64 0, .int .i64 0, .int .i64 one, .int .i64 0] 24))).2.1
              have e2 := (kinds_cell ((hk.out.alloc (.cells #[.int .u8 11, .int .u8 0, .int .i64 0, .int .i64 0, .int .i64 0, .int .i64 one, .int .i64 0] 24)).alloc (.cells #[.int .u8 11, .int .u8 0, .int .i64 0, .int .i64 0, .int .i64 0, .int .i64 two, .int .i64 0] 24))).2.1
              have e3 := (kinds_cell ((hk.out.alloc (.cells #[.int .u8 11, .int .u8 0, .int .i64 r, .int .i64 0, .int .i64 0, .int .i64 one, .int .i64 0] 24)).alloc (.cells #[.int .u8 11, .int .u8 0, .int .i64 r, .int .i64 0, .int .i64 0, .int .i64 two, .int .i64 0] 24))).2.1
              go_wp2_with fail
              refine (HRa.out _).mono ?_
              rintro e w2 ⟨rfl, hb2⟩
              have hz := hb.out.size
              have hz2 := hb2.size
              have h2 : Two w2 wr.heap.size 11 r one two := Two.below (two_at (heap_alloc2_old wr _ _) (heap_alloc2_new wr _ _)) hb2 (by simp)
              have HK2 := Lib.hid (((hk.out.alloc (.cells #[.int .u8 11, .int .u8 0, .int .i64 r, .int .i64 0, .int .i64 0, .int .i64 one, .int .i64 0] 24)).alloc (.cells #[.int .u8 11, .int .u8 0, .int .i64 r, .int .i64 0, .int .i64 0, .int .i64 two, .int .i64 0] 24)).below hb2 (by simp; omega))
              have HB2 := Lib.hid (hb.out.trans (((below_box2 wr (.cells #[.int .u8 11, .int .u8 0, .int .i64 r, .int .i64 0, .int .i64 0, .int .i64 one, .int .i64 0] 24) (.cells #[.int .u8 11, .int .u8 0, .int .i64 r, .int .i64 0, .int .i64 0, .int .i64 two, .int .i64 0] 24)).trans (hb2.mono (by simp; omega))).mono hz))
              have hg2 : wr.heap.size + 2 ≤ w2.heap.size := by simpa using hz2
              have HA2 := Lib.hid (InsAt.below (show InsAt _ wr.heap.size (jI 11 r one) from heap_alloc2_old wr _ (.cells #[.int .u8 11, .int .u8 0, .int .i64 r, .int .i64 0, .int .i64 0, .int .i64 two, .int .i64 0] 24)) hb2 (by simp; omega))
              have hf2 : ∀ j, w2.frozen? ⟨wr.heap.size, j, none⟩ = false := (ins_cells (InsAt.below (show InsAt _ wr.heap.size (jI 11 r one) from heap_alloc2_old wr _ (.cells #[.int .u8 11, .int .u8 0, .int .i64 r, .int .i64 0, .int .i64 0, .int .i64 two, .int .i64 0] 24)) hb2 (by simp; omega))).2
              clear e0 e1 e2 e3 hk hb hb2 hz2 HRa
              obtain ⟨⟨c0, c1, c2, c3, c4, c5, c6⟩, -⟩ := h2
              go_wp2_with fail
              go_quiet (fail)
              have HBW := Lib.hid ((HB2.out.trans (below_draws nq)).setCell (p := ⟨wr.heap.size, 4, none⟩) (by simpa using hz) (.int .i64 1))
              have HKW := Lib.hid (Blk.other (w := w2.drewN nq) HK2.out (p := ⟨wr.heap.size, 4, none⟩) (by simp; omega) (.int .i64 1))
              go_wp2_with fail
              refine (HT.out _).mono ?_
              rintro e w9 ⟨rfl, hb9⟩
              have HK9 := Lib.hid (HKW.out.below hb9 (by simp [World.setCell]; omega))
              have HB9 := Lib.hid (HBW.out.trans (hb9.mono (by simp [World.setCell]; omega)))
              clear HKW HBW hb9
              go_wp2_with fail
              go_roundw
              case rel => exact ⟨2, by omega, by go_num, HK9, HB9⟩
              case measure => simp [intOf]
          · have hlt := hk.out.lt
            have HRa := Lib.hid (fun w => jr_call (k := 11) (r := r) (n := one) (b := false) (by decide) (fun h => absurd rfl h) (by simp [jB] <;> omega) w)
            have HT := Lib.hid (fun w => jt_call (k := 11) (r := r) (n := one) (by decide) w)
            have e0 := (kinds_cell hk.out).2.1
            have e1 := (kinds_cell (hk.out.alloc (.cells #[.int .u8 11, .int .u8 0, .int .i64 0, .int .i64 0, .int .i64 0, .int .i64 one, .int .i64 0] 24))).2.1
            have e2 := (kinds_cell ((hk.out.alloc (.cells #[.int .u8 11, .int .u8 0, .int .i64 0, .int .i64 0, .int .i64 0, .int .i64 one, .int .i64 0] 24)).alloc (.cells #[.int .u8 11, .int .u8 0, .int .i64 0, .int .i64 0, .int .i64 0, .int .i64 two, .int .i64 0] 24))).2.1
            have e3 := (kinds_cell ((hk.out.alloc (.cells #[.int .u8 11, .int .u8 0, .int .i64 r, .int .i64 0, .int .i64 0, .int .i64 one, .int .i64 0] 24)).alloc (.cells #[.int .u8 11, .int .u8 0, .int .i64 r, .int .i64 0, .int .i64 0, .int .i64 two, .int .i64 0] 24))).2.1
            go_wp2_with fail
            refine (HRa.out _).mono ?_
            rintro e w2 ⟨rfl, hb2⟩
            have hz := hb.out.size
            have hz2 := hb2.size
            have h2 : Two w2 wr.heap.size 11 r one two := Two.below (two_at (heap_alloc2_old wr _ _) (heap_alloc2_new wr _ _)) hb2 (by simp)
            have HK2 := Lib.hid (((hk.out.alloc (.cells #[.int .u8 11, .int .u8 0, .int .i64 r, .int .i64 0, .int .i64 0, .int .i64 one, .int .i64 0] 24)).alloc (.cells #[.int .u8 11, .int .u8 0, .int .i64 r, .int .i64 0, .int .i64 0, .int .i64 two, .int .i64 0] 24)).below hb2 (by simp; omega))
            have HB2 := Lib.hid (hb.out.trans (((below_box2 wr (.cells #[.int .u8 11, .int .u8 0, .int .i64 r, .int .i64 0, .int .i64 0, .int .i64 one, .int .i64 0] 24) (.cells #[.int .u8 11, .int .u8 0, .int .i64 r, .int .i64 0, .int .i64 0, .int .i64 two, .int .i64 0] 24)).trans (hb2.mono (by simp; omega))).mono hz))
            have hg2 : wr.heap.size + 2 ≤ w2.heap.size := by simpa using hz2
            have HA2 := Lib.hid (InsAt.below (show InsAt _ wr.heap.size (jI 11 r one) from heap_alloc2_old wr _ (.cells #[.int .u8 11, .int .u8 0, .int .i64 r, .int .i64 0, .int .i64 0, .int .i64 two, .int .i64 0] 24)) hb2 (by simp; omega))
            have hf2 : ∀ j, w2.frozen? ⟨wr.heap.size, j, none⟩ = false := (ins_cells (InsAt.below (show InsAt _ wr.heap.size (jI 11 r one) from heap_alloc2_old wr _ (.cells #[.int .u8 11, .int .u8 0, .int .i64 r, .int .i64 0, .int .i64 0, .int .i64 two, .int .i64 0] 24)) hb2 (by simp; omega))).2
            clear e0 e1 e2 e3 hk hb hb2 hz2 HRa
            obtain ⟨⟨c0, c1, c2, c3, c4, c5, c6⟩, -⟩ := h2
            go_wp2_with fail
            go_quiet (fail)
            have HBW := Lib.hid ((HB2.out.trans (below_draws nq)).setCell (p := ⟨wr.heap.size, 4, none⟩) (by simpa using hz) (.int .i64 1))
            have HKW := Lib.hid (Blk.other (w := w2.drewN nq) HK2.out (p := ⟨wr.heap.size, 4, none⟩) (by simp; omega) (.int .i64 1))
            go_wp2_with fail
            refine (HT.out _).mono ?_
            rintro e w9 ⟨rfl, hb9⟩
            have HK9 := Lib.hid (HKW.out.below hb9 (by simp [World.setCell]; omega))
            have HB9 := Lib.hid (HBW.out.trans (hb9.mono (by simp [World.setCell]; omega)))
            clear HKW HBW hb9
            go_wp2_with fail
            go_roundw
            case rel => exact ⟨2, by omega, by go_num, HK9, HB9⟩
            case measure => simp [intOf]
        · have hlt := hk.out.lt
          have HRa := Lib.hid (fun w => jr_call (k := 11) (r := r) (n := one) (b := false) (by decide) (fun h => absurd rfl h) (by simp [jB] <;> omega) w)
          have HT := Lib.hid (fun w => jt_call (k := 11) (r := r) (n := one) (by decide) w)
          have e0 := (kinds_cell hk.out).2.1
          have e1 := (kinds_cell (hk.out.alloc (.cells #[.int .u8 11, .int .u8 0, .int .i64 0, .int .i64 0, .int .i64 0, .int .i64 one, .int .i64 0] 24))).2.1
          have e2 := (kinds_cell ((hk.out.alloc (.cells #[.int .u8 11, .int .u8 0, .int .i64 0, .int .i64 0, .int .i64 0, .int .i64 one, .int .i64 0] 24)).alloc (.cells #[.int .u8 11, .int .u8 0, .int .i64 0, .int .i64 0, .int .i64 0, .int .i64 two, .int .i64 0] 24))).2.1
          have e3 := (kinds_cell ((hk.out.alloc (.cells #[.int .u8 11, .int .u8 0, .int .i64 r, .int .i64 0, .int .i64 0, .int .i64 one, .int .i64 0] 24)).alloc (.cells #[.int .u8 11, .int .u8 0, .int .i64 r, .int .i64 0, .int .i64 0, .int .i64 two, .int .i64 0] 24))).2.1
          go_wp2_with fail
          refine (HRa.out _).mono ?_
          rintro e w2 ⟨rfl, hb2⟩
          have hz := hb.out.size
          have hz2 := hb2.size
          have h2 : Two w2 wr.heap.size 11 r one two := Two.below (two_at (heap_alloc2_old wr _ _) (heap_alloc2_new wr _ _)) hb2 (by simp)
          have HK2 := Lib.hid (((hk.out.alloc (.cells #[.int .u8 11, .int .u8 0, .int .i64 r, .int .i64 0, .int .i64 0, .int .i64 one, .int .i64 0] 24)).alloc (.cells #[.int .u8 11, .int .u8 0, .int .i64 r, .int .i64 0, .int .i64 0, .int .i64 two, .int .i64 0] 24)).below hb2 (by simp; omega))
          have HB2 := Lib.hid (hb.out.trans (((below_box2 wr (.cells #[.int .u8 11, .int .u8 0, .int .i64 r, .int .i64 0, .int .i64 0, .int .i64 one, .int .i64 0] 24) (.cells #[.int .u8 11, .int .u8 0, .int .i64 r, .int .i64 0, .int .i64 0, .int .i64 two, .int .i64 0] 24)).trans (hb2.mono (by simp; omega))).mono hz))
          have hg2 : wr.heap.size + 2 ≤ w2.heap.size := by simpa using hz2
          have HA2 := Lib.hid (InsAt.below (show InsAt _ wr.heap.size (jI 11 r one) from heap_alloc2_old wr _ (.cells #[.int .u8 11, .int .u8 0, .int .i64 r, .int .i64 0, .int .i64 0, .int .i64 two, .int .i64 0] 24)) hb2 (by simp; omega))
          have hf2 : ∀ j, w2.frozen? ⟨wr.heap.size, j, none⟩ = false := (ins_cells (InsAt.below (show InsAt _ wr.heap.size (jI 11 r one) from heap_alloc2_old wr _ (.cells #[.int .u8 11, .int .u8 0, .int .i64 r, .int .i64 0, .int .i64 0, .int .i64 two, .int .i64 0] 24)) hb2 (by simp; omega))).2
          clear e0 e1 e2 e3 hk hb hb2 hz2 HRa
          obtain ⟨⟨c0, c1, c2, c3, c4, c5, c6⟩, -⟩ := h2
          go_wp2_with fail
          go_quiet (fail)
          have HBW := Lib.hid ((HB2.out.trans (below_draws nq)).setCell (p := ⟨wr.heap.size, 4, none⟩) (by simpa using hz) (.int .i64 1))
          have HKW := Lib.hid (Blk.other (w := w2.drewN nq) HK2.out (p := ⟨wr.heap.size, 4, none⟩) (by simp; omega) (.int .i64 1))
          go_wp2_with fail
          refine (HT.out _).mono ?_
          rintro e w9 ⟨rfl, hb9⟩
          have HK9 := Lib.hid (HKW.out.below hb9 (by simp [World.setCell]; omega))
          have HB9 := Lib.hid (HBW.out.trans (hb9.mono (by simp [World.setCell]; omega)))
          clear HKW HBW hb9
          go_wp2_with fail
          go_roundw
          case rel => exact ⟨2, by omega, by go_num, HK9, HB9⟩
          case measure => simp [intOf]
      · have hlt := hk.out.lt
        have HRa := Lib.hid (fun w => jr_call (k := 11) (r := r) (n := one) (b := false) (by decide) (fun h => absurd rfl h) (by simp [jB] <;> omega) w)
        have HT := Lib.hid (fun w => jt_call (k := 11) (r := r) (n := one) (by decide) w)
        have e0 := (kinds_cell hk.out).2.1
        have e1 := (kinds_cell (hk.out.alloc (.cells #[.int .u8 11, .int .u8 0, .int .i64 0, .int .i64 0, .int .i64 0, .int .i64 one, .int .i64 0] 24))).2.1
        have e2 := (kinds_cell ((hk.out.alloc (.cells #[.int .u8 11, .int .u8 0, .int .i64 0, .int .i64 0, .int .i64 0, .int .i64 one, .int .i64 0] 24)).alloc (.cells #[.int .u8 11, .int .u8 0, .int .i64 0, .int .i64 0, .int .i64 0, .int .i64 two, .int .i64 0] 24))).2.1
        have e3 := (kinds_cell ((hk.out.alloc (.cells #[.int .u8 11, .int .u8 0, .int .i64 r, .int .i64 0, .int .i64 0, .int .i64 one, .int .i64 0] 24)).alloc (.cells #[.int .u8 11, .int .u8 0, .int .i64 r, .int .i64 0, .int .i64 0, .int .i64 two, .int .i64 0] 24))).2.1
        go_wp2_with fail
        refine (HRa.out _).mono ?_
        rintro e w2 ⟨rfl, hb2⟩
        have hz := hb.out.size
        have hz2 := hb2.size
        have h2 : Two w2 wr.heap.size 11 r one two := Two.below (two_at (heap_alloc2_old wr _ _) (heap_alloc2_new wr _ _)) hb2 (by simp)
        have HK2 := Lib.hid (((hk.out.alloc (.cells #[.int .u8 11, .int .u8 0, .int .i64 r, .int .i64 0, .int .i64 0, .int .i64 one, .int .i64 0] 24)).alloc (.cells #[.int .u8 11, .int .u8 0, .int .i64 r, .int .i64 0, .int .i64 0, .int .i64 two, .int .i64 0] 24)).below hb2 (by simp; omega))
        have HB2 := Lib.hid (hb.out.trans (((below_box2 wr (.cells #[.int .u8 11, .int .u8 0, .int .i64 r, .int .i64 0, .int .i64 0, .int .i64 one, .int .i64 0] 24) (.cells #[.int .u8 11, .int .u8 0, .int .i64 r, .int .i64 0, .int .i64 0, .int .i64 two, .int .i64 0] 24)).trans (hb2.mono (by simp; omega))).mono hz))
        have hg2 : wr.heap.size + 2 ≤ w2.heap.size := by simpa using hz2
        have HA2 := Lib.hid (InsAt.below (show InsAt _ wr.heap.size (jI 11 r one) from heap_alloc2_old wr _ (.cells #[.int .u8 11, .int .u8 0, .int .i64 r, .int .i64 0, .int .i64 0, .int .i64 two, .int .i64 0] 24)) hb2 (by simp; omega))
        have hf2 : ∀ j, w2.frozen? ⟨wr.heap.size, j, none⟩ = false := (ins_cells (InsAt.below (show InsAt _ wr.heap.size (jI 11 r one) from heap_alloc2_old wr _ (.cells #[.int .u8 11, .int .u8 0, .int .i64 r, .int .i64 0, .int .i64 0, .int .i64 two, .int .i64 0] 24)) hb2 (by simp; omega))).2
        clear e0 e1 e2 e3 hk hb hb2 hz2 HRa
        obtain ⟨⟨c0, c1, c2, c3, c4, c5, c6⟩, -⟩ := h2
        go_wp2_with fail
        go_quiet (fail)
        have HBW := Lib.hid ((HB2.out.trans (below_draws nq)).setCell (p := ⟨wr.heap.size, 4, none⟩) (by simpa using hz) (.int .i64 1))
        have HKW := Lib.hid (Blk.other (w := w2.drewN nq) HK2.out (p := ⟨wr.heap.size, 4, none⟩) (by simp; omega) (.int .i64 1))
        go_wp2_with fail
        refine (HT.out _).mono ?_
        rintro e w9 ⟨rfl, hb9⟩
        have HK9 := Lib.hid (HKW.out.below hb9 (by simp [World.setCell]; omega))
        have HB9 := Lib.hid (HBW.out.trans (hb9.mono (by simp [World.setCell]; omega)))
        clear HKW HBW hb9
        go_wp2_with fail
        go_roundw
        case rel => exact ⟨2, by omega, by go_num, HK9, HB9⟩
        case measure => simp [intOf]
    · by_cases h1 : 0 ≤ one
      · by_cases h2 : one < 16777216
        · by_cases h5 : 0 ≤ two ∧ two < 16777216
          · obtain ⟨h5, h6⟩ := h5
            have hlt := hk.out.lt
            have HRa := Lib.hid (fun w => jr_call (k := 12) (r := 0) (n := one) (b := true) (by decide) (fun _ => rfl) (by simp [jB] <;> omega) w)
            have HT := Lib.hid (fun w => jt_call (k := 12) (r := 0) (n := one) (by decide) w)
            have HRb := Lib.hid (fun w => jr_call (k := 12) (r := 0) (n := two) (b := true) (by decide) (fun _ => rfl) (by simp [jB] <;> omega) w)
            have HS := Lib.hid (fun n (h : n = one ∨ n = two) w => js_call (k := 12) (r := 0) (n := n) (m := 4) (by decide) (fun _ => rfl) (by omega) (by omega) (by rcases h with rfl | rfl <;> simp [jB] <;> omega) rfl w)
            have e0 := (kinds_cell hk.out).2.2
            have e1 := (kinds_cell (hk.out.alloc (.cells #[.int .u8 12, .int .u8 0, .int .i64 0, .int .i64 0, .int .i64 0, .int .i64 one, .int .i64 0] 24))).2.2
            have e2 := (kinds_cell ((hk.out.alloc (.cells #[.int .u8 12, .int .u8 0, .int .i64 0, .int .i64 0, .int .i64 0, .int .i64 one, .int .i64 0] 24)).alloc (.cells #[.int .u8 12, .int .u8 0, .int .i64 0, .int .i64 0, .int .i64 0, .int .i64 two, .int .i64 0] 24))).2.2
            go_wp2_with fail
            refine (HRa.out _).mono ?_
            rintro e w2 ⟨rfl, hb2⟩
            have hz := hb.out.size
            have hz2 := hb2.size
            have h2 : Two w2 wr.heap.size 12 0 one two := Two.below (two_at (heap_alloc2_old wr _ _) (heap_alloc2_new wr _ _)) hb2 (by simp)
            have HK2 := Lib.hid (((hk.out.alloc (.cells #[.int .u8 12, .int .u8 0, .int .i64 0, .int .i64 0, .int .i64 0, .int .i64 one, .int .i64 0] 24)).alloc (.cells #[.int .u8 12, .int .u8 0, .int .i64 0, .int .i64 0, .int .i64 0, .int .i64 two, .int .i64 0] 24)).below hb2 (by simp; omega))
            have HB2 := Lib.hid (hb.out.trans (((below_box2 wr (.cells #[.int .u8 12, .int .u8 0, .int .i64 0, .int .i64 0, .int .i64 0, .int .i64 one, .int .i64 0] 24) (.cells #[.int .u8 12, .int .u8 0, .int .i64 0, .int .i64 0, .int .i64 0, .int .i64 two, .int .i64 0] 24)).trans (hb2.mono (by simp; omega))).mono hz))
            have hg2 : wr.heap.size + 2 ≤ w2.heap.size := by simpa using hz2
            have HA2 := Lib.hid (InsAt.below (show InsAt _ wr.heap.size (jI 12 0 one) from heap_alloc2_old wr _ (.cells #[.int .u8 12, .int .u8 0, .int .i64 0, .int .i64 0, .int .i64 0, .int .i64 two, .int .i64 0] 24)) hb2 (by simp; omega))
            have hf2 : ∀ j, w2.frozen? ⟨wr.heap.size, j, none⟩ = false := (ins_cells (InsAt.below (show InsAt _ wr.heap.size (jI 12 0 one) from heap_alloc2_old wr _ (.cells #[.int .u8 12, .int .u8 0, .int .i64 0, .int .i64 0, .int .i64 0, .int .i64 two, .int .i64 0] 24)) hb2 (by simp; omega))).2
            clear e0 e1 e2 hk hb hb2 hz2 HRa
            have ht2 := Lib.hid h2
            unfold Two at h2
            obtain ⟨⟨c0, c1, c2, c3, c4, c5, c6⟩, d0, d1, d2, d3, d4, d5, d6⟩ := h2
            go_wp2_with fail
            go_region_held3 (fun W => (W.cell? ⟨wr.heap.size, 0, none⟩ = some (.int .u8 12) ∧ W.cell? ⟨wr.heap.size, 1, none⟩ = some (.int .u8 0) ∧ W.cell? ⟨wr.heap.size, 2, none⟩ = some (.int .i64 0) ∧ W.cell? ⟨wr.heap.size, 3, none⟩ = some (.int .i64 0) ∧ W.cell? ⟨wr.heap.size, 4, none⟩ = some (.int .i64 0) ∧ W.cell? ⟨wr.heap.size, 5, none⟩ = some (.int .i64 one) ∧ W.cell? ⟨wr.heap.size, 6, none⟩ = some (.int .i64 0)) ∧ (W.cell? ⟨wr.heap.size + 1, 0, none⟩ = some (.int .u8 12) ∧ W.cell? ⟨wr.heap.size + 1, 1, none⟩ = some (.int .u8 0) ∧ W.cell? ⟨wr.heap.size + 1, 2, none⟩ = some (.int .i64 0) ∧ W.cell? ⟨wr.heap.size + 1, 3, none⟩ = some (.int .i64 0) ∧ W.cell? ⟨wr.heap.size + 1, 4, none⟩ = some (.int .i64 0) ∧ W.cell? ⟨wr.heap.size + 1, 5, none⟩ = some (.int .i64 two) ∧ W.cell? ⟨wr.heap.size + 1, 6, none⟩ = some (.int .i64 0))) (first | go_keep | (exact Two.below (show Two _ wr.heap.size 12 0 one two from by assumption) hb5 (by first | omega | (simp; omega))) | (exact Two.below (show Two _ wr.heap.size 12 0 one two from by assumption) hb4 (by first | omega | (simp; omega))) | (exact Two.below (show Two _ wr.heap.size 12 0 one two from by assumption) hb3 (by first | omega | (simp; omega)))) (first
              | (go_at_call 11; refine (HRb.out _).mono ?_; rintro e w3 ⟨rfl, hb3⟩; have hs3 := Nat.le_trans hg2 hb3.size)
              | (go_at_call_of 13 one; refine (HS.out one (.inl rfl) _).mono ?_; rintro e w4 ⟨rfl, hb4⟩; have hs4 := Nat.le_trans hs3 hb4.size)
              | (go_at_call_of 13 two; refine (HS.out two (.inr rfl) _).mono ?_; rintro e w5 ⟨rfl, hb5⟩; have hs5 := Nat.le_trans hs4 hb5.size))
            have hd3 := drawn hb3
            have hbn : Below w2.heap.size w2 w5 := hd3.trans ((hb4.mono hd3.size).trans (hb5.mono (Nat.le_trans hd3.size hb4.size)))
            have han := HA2.out.below hbn (by omega)
            obtain ⟨⟨k0, k1, k2, k3, k4, k5, k6⟩, kf⟩ := ins_cells han
            have HBW := Lib.hid ((HB2.out.trans (hbn.mono HB2.out.size)).setCell (p := ⟨wr.heap.size, 4, none⟩) (by simpa using hz) (.int .i64 1))
            have HKW := Lib.hid (Blk.other (HK2.out.below hbn HK2.out.lt) (p := ⟨wr.heap.size, 4, none⟩) (by simp; omega) (.int .i64 1))
            clear hbn han hb3 hb4 hb5 hd3 c0 c1 c2 c3 c4 c5 c6 d0 d1 d2 d3 d4 d5 d6
            go_wp2_with fail
            refine (HT.out _).mono ?_
            rintro e w9 ⟨rfl, hb9⟩
            have HK9 := Lib.hid (HKW.out.below hb9 (by simp [World.setCell]; omega))
            have HB9 := Lib.hid (HBW.out.trans (hb9.mono (by simp [World.setCell]; omega)))
            clear HKW HBW hb9
            go_wp2_with fail
            go_roundw
            case rel => exact ⟨3, by omega, by go_num, HK9, HB9⟩
            case measure => simp [intOf]
          · have hlt := hk.out.lt
            have HRa := Lib.hid (fun w => jr_call (k := 12) (r := 0) (n := one) (b := true) (by decide) (fun _ => rfl) (by simp [jB] <;> omega) w)
            have HT := Lib.hid (fun w => jt_call (k := 12) (r := 0) (n := one) (by decide) w)
            have HRb := Lib.hid (fun w => jr_call (k := 12) (r := 0) (n := two) (b := false) (by decide) (fun _ => rfl) (by simp [jB] <;> omega) w)
            have e0 := (kinds_cell hk.out).2.2
            have e1 := (kinds_cell (hk.out.alloc (.cells #[.int .u8 12, .int .u8 0, .int .i64 0, .int .i64 0, .int .i64 0, .int .i64 one, .int .i64 0] 24))).2.2
            have e2 := (kinds_cell ((hk.out.alloc (.cells #[.int .u8 12, .int .u8 0, .int .i64 0, .int .i64 0, .int .i64 0, .int .i64 one, .int .i64 0] 24)).alloc (.cells #[.int .u8 12, .int .u8 0, .int .i64 0, .int .i64 0, .int .i64 0, .int .i64 two, .int .i64 0] 24))).2.2
            go_wp2_with fail
            refine (HRa.out _).mono ?_
            rintro e w2 ⟨rfl, hb2⟩
            have hz := hb.out.size
            have hz2 := hb2.size
            have h2 : Two w2 wr.heap.size 12 0 one two := Two.below (two_at (heap_alloc2_old wr _ _) (heap_alloc2_new wr _ _)) hb2 (by simp)
            have HK2 := Lib.hid (((hk.out.alloc (.cells #[.int .u8 12, .int .u8 0, .int .i64 0, .int .i64 0, .int .i64 0, .int .i64 one, .int .i64 0] 24)).alloc (.cells #[.int .u8 12, .int .u8 0, .int .i64 0, .int .i64 0, .int .i64 0, .int .i64 two, .int .i64 0] 24)).below hb2 (by simp; omega))
            have HB2 := Lib.hid (hb.out.trans (((below_box2 wr (.cells #[.int .u8 12, .int .u8 0, .int .i64 0, .int .i64 0, .int .i64 0, .int .i64 one, .int .i64 0] 24) (.cells #[.int .u8 12, .int .u8 0, .int .i64 0, .int .i64 0, .int .i64 0, .int .i64 two, .int .i64 0] 24)).trans (hb2.mono (by simp; omega))).mono hz))
            have hg2 : wr.heap.size + 2 ≤ w2.heap.size := by simpa using hz2
            have HA2 := Lib.hid (InsAt.below (show InsAt _ wr.heap.size (jI 12 0 one) from heap_alloc2_old wr _ (.cells #[.int .u8 12, .int .u8 0, .int .i64 0, .int .i64 0, .int .i64 0, .int .i64 two, .int .i64 0] 24)) hb2 (by simp; omega))
            have hf2 : ∀ j, w2.frozen? ⟨wr.heap.size, j, none⟩ = false := (ins_cells (InsAt.below (show InsAt _ wr.heap.size (jI 12 0 one) from heap_alloc2_old wr _ (.cells #[.int .u8 12, .int .u8 0, .int .i64 0, .int .i64 0, .int .i64 0, .int .i64 two, .int .i64 0] 24)) hb2 (by simp; omega))).2
            clear e0 e1 e2 hk hb hb2 hz2 HRa
            have ht2 := Lib.hid h2
            unfold Two at h2
            obtain ⟨⟨c0, c1, c2, c3, c4, c5, c6⟩, d0, d1, d2, d3, d4, d5, d6⟩ := h2
            go_wp2_with fail
            go_region_with (first
              | (go_at_call 11; refine (HRb.out _).mono ?_; rintro e w3 ⟨rfl, hb3⟩; have hs3 := Nat.le_trans hg2 hb3.size))
            all_goals have hbn : Below w2.heap.size w2 w3 := drawn hb3
            all_goals
              have han := HA2.out.below hbn (by omega)
              obtain ⟨⟨k0, k1, k2, k3, k4, k5, k6⟩, kf⟩ := ins_cells han
              have HBW := Lib.hid ((HB2.out.trans (hbn.mono HB2.out.size)).setCell (p := ⟨wr.heap.size, 4, none⟩) (by simpa using hz) (.int .i64 1))
              have HKW := Lib.hid (Blk.other (HK2.out.below hbn HK2.out.lt) (p := ⟨wr.heap.size, 4, none⟩) (by simp; omega) (.int .i64 1))
              clear hbn han hb3 c0 c1 c2 c3 c4 c5 c6 d0 d1 d2 d3 d4 d5 d6
              go_wp2_with fail
              refine (HT.out _).mono ?_
              rintro e w9 ⟨rfl, hb9⟩
              have HK9 := Lib.hid (HKW.out.below hb9 (by simp [World.setCell]; omega))
              have HB9 := Lib.hid (HBW.out.trans (hb9.mono (by simp [World.setCell]; omega)))
              clear HKW HBW hb9
              go_wp2_with fail
              go_roundw
              case rel => exact ⟨3, by omega, by go_num, HK9, HB9⟩
              case measure => simp [intOf]
        · have hlt := hk.out.lt
          have HRa := Lib.hid (fun w => jr_call (k := 12) (r := 0) (n := one) (b := false) (by decide) (fun _ => rfl) (by simp [jB] <;> omega) w)
          have HT := Lib.hid (fun w => jt_call (k := 12) (r := 0) (n := one) (by decide) w)
          have e0 := (kinds_cell hk.out).2.2
          have e1 := (kinds_cell (hk.out.alloc (.cells #[.int .u8 12, .int .u8 0, .int .i64 0, .int .i64 0, .int .i64 0, .int .i64 one, .int .i64 0] 24))).2.2
          have e2 := (kinds_cell ((hk.out.alloc (.cells #[.int .u8 12, .int .u8 0, .int .i64 0, .int .i64 0, .int .i64 0, .int .i64 one, .int .i64 0] 24)).alloc (.cells #[.int .u8 12, .int .u8 0, .int .i64 0, .int .i64 0, .int .i64 0, .int .i64 two, .int .i64 0] 24))).2.2
          go_wp2_with fail
          refine (HRa.out _).mono ?_
          rintro e w2 ⟨rfl, hb2⟩
          have hz := hb.out.size
          have hz2 := hb2.size
          have h2 : Two w2 wr.heap.size 12 0 one two := Two.below (two_at (heap_alloc2_old wr _ _) (heap_alloc2_new wr _ _)) hb2 (by simp)
          have HK2 := Lib.hid (((hk.out.alloc (.cells #[.int .u8 12, .int .u8 0, .int .i64 0, .int .i64 0, .int .i64 0, .int .i64 one, .int .i64 0] 24)).alloc (.cells #[.int .u8 12, .int .u8 0, .int .i64 0, .int .i64 0, .int .i64 0, .int .i64 two, .int .i64 0] 24)).below hb2 (by simp; omega))
          have HB2 := Lib.hid (hb.out.trans (((below_box2 wr (.cells #[.int .u8 12, .int .u8 0, .int .i64 0, .int .i64 0, .int .i64 0, .int .i64 one, .int .i64 0] 24) (.cells #[.int .u8 12, .int .u8 0, .int .i64 0, .int .i64 0, .int .i64 0, .int .i64 two, .int .i64 0] 24)).trans (hb2.mono (by simp; omega))).mono hz))
          have hg2 : wr.heap.size + 2 ≤ w2.heap.size := by simpa using hz2
          have HA2 := Lib.hid (InsAt.below (show InsAt _ wr.heap.size (jI 12 0 one) from heap_alloc2_old wr _ (.cells #[.int .u8 12, .int .u8 0, .int .i64 0, .int .i64 0, .int .i64 0, .int .i64 two, .int .i64 0] 24)) hb2 (by simp; omega))
          have hf2 : ∀ j, w2.frozen? ⟨wr.heap.size, j, none⟩ = false := (ins_cells (InsAt.below (show InsAt _ wr.heap.size (jI 12 0 one) from heap_alloc2_old wr _ (.cells #[.int .u8 12, .int .u8 0, .int .i64 0, .int .i64 0, .int .i64 0, .int .i64 two, .int .i64 0] 24)) hb2 (by simp; omega))).2
          clear e0 e1 e2 hk hb hb2 hz2 HRa
          obtain ⟨⟨c0, c1, c2, c3, c4, c5, c6⟩, -⟩ := h2
          go_wp2_with fail
          go_quiet (fail)
          have HBW := Lib.hid ((HB2.out.trans (below_draws nq)).setCell (p := ⟨wr.heap.size, 4, none⟩) (by simpa using hz) (.int .i64 1))
          have HKW := Lib.hid (Blk.other (w := w2.drewN nq) HK2.out (p := ⟨wr.heap.size, 4, none⟩) (by simp; omega) (.int .i64 1))
          go_wp2_with fail
          refine (HT.out _).mono ?_
          rintro e w9 ⟨rfl, hb9⟩
          have HK9 := Lib.hid (HKW.out.below hb9 (by simp [World.setCell]; omega))
          have HB9 := Lib.hid (HBW.out.trans (hb9.mono (by simp [World.setCell]; omega)))
          clear HKW HBW hb9
          go_wp2_with fail
          go_roundw
          case rel => exact ⟨3, by omega, by go_num, HK9, HB9⟩
          case measure => simp [intOf]
      · have hlt := hk.out.lt
        have HRa := Lib.hid (fun w => jr_call (k := 12) (r := 0) (n := one) (b := false) (by decide) (fun _ => rfl) (by simp [jB] <;> omega) w)
        have HT := Lib.hid (fun w => jt_call (k := 12) (r := 0) (n := one) (by decide) w)
        have e0 := (kinds_cell hk.out).2.2
        have e1 := (kinds_cell (hk.out.alloc (.cells #[.int .u8 12, .int .u8 0, .int .i64 0, .int .i64 0, .int .i64 0, .int .i64 one, .int .i64 0] 24))).2.2
        have e2 := (kinds_cell ((hk.out.alloc (.cells #[.int .u8 12, .int .u8 0, .int .i64 0, .int .i64 0, .int .i64 0, .int .i64 one, .int .i64 0] 24)).alloc (.cells #[.int .u8 12, .int .u8 0, .int .i64 0, .int .i64 0, .int .i64 0, .int .i64 two, .int .i64 0] 24))).2.2
        go_wp2_with fail
        refine (HRa.out _).mono ?_
        rintro e w2 ⟨rfl, hb2⟩
        have hz := hb.out.size
        have hz2 := hb2.size
        have h2 : Two w2 wr.heap.size 12 0 one two := Two.below (two_at (heap_alloc2_old wr _ _) (heap_alloc2_new wr _ _)) hb2 (by simp)
        have HK2 := Lib.hid (((hk.out.alloc (.cells #[.int .u8 12, .int .u8 0, .int .i64 0, .int .i64 0, .int .i64 0, .int .i64 one, .int .i64 0] 24)).alloc (.cells #[.int .u8 12, .int .u8 0, .int .i64 0, .int .i64 0, .int .i64 0, .int .i64 two, .int .i64 0] 24)).below hb2 (by simp; omega))
        have HB2 := Lib.hid (hb.out.trans (((below_box2 wr (.cells #[.int .u8 12, .int .u8 0, .int .i64 0, .int .i64 0, .int .i64 0, .int .i64 one, .int .i64 0] 24) (.cells #[.int .u8 12, .int .u8 0, .int .i64 0, .int .i64 0, .int .i64 0, .int .i64 two, .int .i64 0] 24)).trans (hb2.mono (by simp; omega))).mono hz))
        have hg2 : wr.heap.size + 2 ≤ w2.heap.size := by simpa using hz2
        have HA2 := Lib.hid (InsAt.below (show InsAt _ wr.heap.size (jI 12 0 one) from heap_alloc2_old wr _ (.cells #[.int .u8 12, .int .u8 0, .int .i64 0, .int .i64 0, .int .i64 0, .int .i64 two, .int .i64 0] 24)) hb2 (by simp; omega))
        have hf2 : ∀ j, w2.frozen? ⟨wr.heap.size, j, none⟩ = false := (ins_cells (InsAt.below (show InsAt _ wr.heap.size (jI 12 0 one) from heap_alloc2_old wr _ (.cells #[.int .u8 12, .int .u8 0, .int .i64 0, .int .i64 0, .int .i64 0, .int .i64 two, .int .i64 0] 24)) hb2 (by simp; omega))).2
        clear e0 e1 e2 hk hb hb2 hz2 HRa
        obtain ⟨⟨c0, c1, c2, c3, c4, c5, c6⟩, -⟩ := h2
        go_wp2_with fail
        go_quiet (fail)
        have HBW := Lib.hid ((HB2.out.trans (below_draws nq)).setCell (p := ⟨wr.heap.size, 4, none⟩) (by simpa using hz) (.int .i64 1))
        have HKW := Lib.hid (Blk.other (w := w2.drewN nq) HK2.out (p := ⟨wr.heap.size, 4, none⟩) (by simp; omega) (.int .i64 1))
        go_wp2_with fail
        refine (HT.out _).mono ?_
        rintro e w9 ⟨rfl, hb9⟩
        have HK9 := Lib.hid (HKW.out.below hb9 (by simp [World.setCell]; omega))
        have HB9 := Lib.hid (HBW.out.trans (hb9.mono (by simp [World.setCell]; omega)))
        clear HKW HBW hb9
        go_wp2_with fail
        go_roundw
        case rel => exact ⟨3, by omega, by go_num, HK9, HB9⟩
        case measure => simp [intOf]
    · go_wp2_with fail
      refine (works_any _).mono ?_
      rintro e w9 ⟨rfl, hb9⟩
      go_wp2_with fail
      go_ret
      exact ⟨rfl, hb.out.trans (hb9.mono hb.out.size)⟩

end Go.Proofs.Ytdapflfbkjoicaa
