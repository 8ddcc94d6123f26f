/-
  The laws' anchor of layer 7 (works answers true), and the contract of Vast.
-/
import Derived.Test.YtggofdahnbchjaaL7Q
namespace Go.Proofs.Ytggofdahnbchjaa
open Go Go.RowKit

def wS7 : List Sp := [⟨3, 5, [⟨2, 2⟩]⟩, ⟨5, 9, [⟨1, 7⟩]⟩]
def wC7 : List Sp := [⟨3, 4, [⟨2, 2⟩]⟩, ⟨6, 9, [⟨1, 7⟩]⟩]
def wB7 : List UInt8 := [2, 3, 2, 1, 2, 2, 0, 4, 1, 1, 7]
def wP7 (g : Nat) : List Ps := [⟨3, 5, [⟨2, 2⟩], some ⟨g, 0, none⟩, 1⟩, ⟨5, 9, [⟨1, 7⟩], some ⟨g + 1, 0, none⟩, 1⟩]
theorem w7_right : rightL wS7 = true := by decide +kernel
theorem w7_own : ownS wS7 = wB7 := by decide +kernel
theorem w7_got : gotS wB7 0 = some (wS7, 11) := by decide +kernel
theorem w7_at : atS wS7 4 = [⟨2, 2⟩] := by decide +kernel
theorem w7_cut : cutL 4 6 wS7 = wC7 := by decide +kernel
theorem w7_join : joinL wS7 = wS7 := by decide +kernel
theorem w7_sp (g : Nat) : (wP7 g).map Ps.sp = wS7 := rfl
theorem w7_sm (g : Nat) : Sm (wP7 g) := ⟨by simp [wP7], fun p hp => by
  simp only [wP7, List.mem_cons, List.not_mem_nil, or_false] at hp
  rcases hp with rfl | rfl <;> simp⟩
theorem w7_rng (g : Nat) : ∀ p ∈ wP7 g, ∀ x ∈ p.a, x.Rng := by
  intro p hp
  simp only [wP7, List.mem_cons, List.not_mem_nil, or_false] at hp
  rcases hp with rfl | rfl <;> intro x hx <;> simp only [List.mem_cons, List.not_mem_nil, or_false] at hx <;> subst hx <;> exact ⟨⟨by decide, by decide⟩, by decide, by decide⟩
def wW7 (w : World) : World := ((w.alloc (.cells #[.int .u8 2, .int .i64 2] 44)).alloc (.cells #[.int .u8 1, .int .i64 7] 44)).alloc
  (.cells #[.int .i64 3, .int .i64 5, .slice (some ⟨w.heap.size, 0, none⟩) 1 1, .int .i64 5, .int .i64 9, .slice (some ⟨w.heap.size + 1, 0, none⟩) 1 1] 46)
theorem w7_one (w : World) (g : Nat) (x : Lc) (h : LocAt w g x) : LLies w w.heap.size (some ⟨g, 0, none⟩) [x] := by
  intro _
  refine ⟨g, 0, rfl, h.lt, fun j hj f u hu => ?_⟩
  obtain rfl : j = 0 := by simp at hj; omega
  have hf : f < 2 := by have := (List.getElem?_eq_some_iff.1 hu).1; simpa [cC_len] using this
  unfold LocAt at h
  simp only [World.cell?, h]
  rw [← hu]
  have hf' : f = 0 ∨ f = 1 := by omega
  rcases hf' with rfl | rfl <;> rfl
theorem w7_lies (w : World) : SLies (wW7 w) (wW7 w).heap.size (some ⟨w.heap.size + 2, 0, none⟩) (wP7 w.heap.size) := by
  have h1 : LocAt (wW7 w) w.heap.size ⟨2, 2⟩ := (((locAt_new w ⟨2, 2⟩).below (below_lnew _ _) (by simp)).below (below_lnew _ _) (by simp; omega))
  have h2 : LocAt (wW7 w) (w.heap.size + 1) ⟨1, 7⟩ := by
    have := (locAt_new (w.alloc (.cells #[.int .u8 2, .int .i64 2] 44)) ⟨1, 7⟩)
    simp only [World.size_alloc] at this
    exact this.below (below_lnew _ _) (by simp)
  refine ⟨fun _ => ⟨w.heap.size + 2, 0, rfl, by simp [wW7], fun j hj f u hu => ?_⟩, fun p hp => ?_⟩
  · have hh := heap_alloc_new ((w.alloc (.cells #[.int .u8 2, .int .i64 2] 44)).alloc (.cells #[.int .u8 1, .int .i64 7] 44)) (.cells #[.int .i64 3, .int .i64 5, .slice (some ⟨w.heap.size, 0, none⟩) 1 1, .int .i64 5, .int .i64 9, .slice (some ⟨w.heap.size + 1, 0, none⟩) 1 1] 46)
    simp only [World.size_alloc] at hh
    have hf : f < 3 := by have := (List.getElem?_eq_some_iff.1 hu).1; simpa [pC_len] using this
    unfold wW7
    simp only [World.cell?, hh]
    rw [← hu]
    have hj' : j = 0 ∨ j = 1 := by simp [wP7] at hj; omega
    have hf' : f = 0 ∨ f = 1 ∨ f = 2 := by omega
    rcases hj' with rfl | rfl <;> rcases hf' with rfl | rfl | rfl <;> rfl
  · simp only [wP7, List.mem_cons, List.not_mem_nil, or_false] at hp
    rcases hp with rfl | rfl
    · exact ⟨by simp, by simp, w7_one _ _ _ h1⟩
    · exact ⟨by simp, by simp, w7_one _ _ _ h2⟩
theorem w7_put (w : World) (A : Option Addr) (c g : Nat) (h : SLies w w.heap.size A (wP7 g)) : Calls Try.prog 12 #[.slice none 0 0, .slice A 2 c] w fun e w' => ∃ A2 c2, e = .returned (.tuple #[.slice A2 11 c2, .int .i64 0]) ∧ (A2 = none → c2 = 0) ∧ Lies w' w'.heap.size A2 wB7 ∧ Below w.heap.size w w' := by
  refine (put7_any A none c 0 [] (wP7 g) w (fun _ => rfl) (w7_sm g) (w7_rng g) (by simp) (Lies.empty _ _ _) h).mono ?_
  rintro e w' ⟨v, rfl, ho, hb⟩
  rw [w7_sp, (ptS_yes (b := []) w7_right).2, List.nil_append, w7_own] at ho
  rw [w7_sp, (ptS_yes (b := []) w7_right).1]
  obtain ⟨A2, c2, rfl, h1, h2, h3⟩ := ho.form
  exact ⟨A2, c2, rfl, h2, h3, hb⟩
theorem w7_get (w : World) (A : Option Addr) (c : Nat) (h : Lies w w.heap.size A wB7) : Calls Try.prog 20 #[.slice A 11 c, .int .i64 0] w fun e w' => ∃ A2 c2 qs, e = .returned (.tuple #[.slice A2 2 c2, .int .i64 11, .int .i64 0]) ∧ qs.map Ps.sp = wS7 ∧ qs.length = 2 ∧ SLies w' w'.heap.size A2 qs ∧ Below w.heap.size w w' := by
  refine (get7_any A c wB7 0 w (by decide) h).mono ?_
  rintro e w' ⟨v, rfl, ho, hb⟩
  obtain ⟨h1, h2, h3⟩ := gs_some (b := wB7) (k := 0) (by decide) w7_got
  rw [show gsL wB7 0 = wS7 from h2] at ho
  rw [show gsN wB7 0 = 11 from h3, show gsE wB7 0 = 0 from h1]
  obtain ⟨A2, c2, qs, rfl, e2, _, _, h4⟩ := ho.form
  have hl : qs.length = 2 := by have := congrArg List.length e2; simpa [wS7] using this
  exact ⟨A2, c2, qs, by rw [hl], e2, hl, h4, hb⟩
theorem w7_cell (w : World) (A : Option Addr) (c g : Nat) (h : SLies w w.heap.size A (wP7 g)) : Calls Try.prog 22 #[.slice A 2 c, .int .i64 4] w fun e w' => ∃ g2 o2 c2, e = .returned (.slice (some ⟨g2, o2, none⟩) 1 c2) ∧ g2 < w'.heap.size ∧ w'.cell? ⟨g2, o2 + 1, none⟩ = some (.int .i64 2) ∧ Below w.heap.size w w' := by
  refine (at7_any A c (wP7 g) 4 w (w7_sm g) h).mono ?_
  rintro e w' ⟨v, rfl, ho, hb⟩
  rw [w7_sp, w7_at] at ho
  obtain ⟨A2, c2, rfl, _, _, h3⟩ := ho.form
  obtain ⟨g2, o2, rfl, hg, _, hc⟩ := h3.at_ (j := 0) (by simp)
  exact ⟨g2, o2, c2, rfl, hg, hc, hb⟩
theorem w7_cuts (w : World) (A : Option Addr) (c g : Nat) (h : SLies w w.heap.size A (wP7 g)) : Calls Try.prog 23 #[.slice A 2 c, .int .i64 4, .int .i64 6] w fun e w' => ∃ g2 o2 c2, e = .returned (.slice (some ⟨g2, o2, none⟩) 2 c2) ∧ 2 ≤ c2 ∧ g2 < w'.heap.size ∧ w'.cell? ⟨g2, o2 + 1, none⟩ = some (.int .i64 4) ∧ w'.cell? ⟨g2, o2 + 3, none⟩ = some (.int .i64 6) ∧ Below w.heap.size w w' := by
  refine (cut7_any A c (wP7 g) 4 6 w (w7_sm g) (by simp [wP7]) h).mono ?_
  rintro e w' ⟨v, rfl, ho, hb⟩
  rw [w7_sp, w7_cut] at ho
  obtain ⟨A2, c2, qs, rfl, e2, h1, _, h3⟩ := ho.form
  have hl : qs.length = 2 := by have := congrArg List.length e2; simpa [wC7] using this
  obtain ⟨g2, o2, rfl, hg, _, hc, _⟩ := h3.1.at_ (j := 0) (by omega)
  obtain ⟨g3, o3, e3, _, hd, _⟩ := h3.1.at_ (j := 1) (by omega)
  cases e3
  have q0 : qs[0].sp = ⟨3, 4, [⟨2, 2⟩]⟩ := by
    have : (qs.map Ps.sp)[0]? = wC7[0]? := by rw [e2]
    rw [List.getElem?_map, List.getElem?_eq_getElem (show 0 < qs.length by omega)] at this
    simpa [wC7] using this
  have q1 : qs[1].sp = ⟨6, 9, [⟨1, 7⟩]⟩ := by
    have : (qs.map Ps.sp)[1]? = wC7[1]? := by rw [e2]
    rw [List.getElem?_map, List.getElem?_eq_getElem (show 1 < qs.length by omega)] at this
    simpa [wC7] using this
  have r0 : qs[0].t = 4 := congrArg Sp.t q0
  have r1 : qs[1].f = 6 := congrArg Sp.f q1
  rw [r0] at hc
  rw [r1] at hd
  exact ⟨g2, o2, c2, by rw [hl], by omega, hg, by simpa using hc, by simpa using hd, hb⟩
theorem w7_joins (w : World) (A : Option Addr) (c g : Nat) (hc : 2 ≤ c) (h : SLies w w.heap.size A (wP7 g)) : Calls Try.prog 24 #[.slice A 2 c] w fun e w' => ∃ A2 c2, e = .returned (.slice A2 2 c2) ∧ Below w.heap.size w w' := by
  refine (join7_any A c (wP7 g) w hc (w7_sm g) (by simp [wP7]) h).mono ?_
  rintro e w' ⟨v, rfl, ho, hb⟩
  rw [w7_sp, w7_join] at ho
  obtain ⟨A2, c2, qs, rfl, e2, _⟩ := ho.form
  have hl : qs.length = 2 := by have := congrArg List.length e2; simpa [wS7] using this
  exact ⟨A2, c2, by rw [hl], hb⟩
theorem w7_same (w : World) (A A2 : Option Addr) (c c2 g : Nat) (qs : List Ps) (he : qs.map Ps.sp = wS7) (hl : qs.length = 2) (h : SLies w w.heap.size A (wP7 g)) (h2 : SLies w w.heap.size A2 qs) :
    Calls Try.prog 16 #[.slice A 2 c, .slice A2 2 c2] w (BoolR true w) := by
  have := same7_any A A2 c c2 (wP7 g) qs w (by rw [he, w7_sp]) (w7_sm g) h h2
  rw [hl] at this
  exact this
theorem w7_nil (w : World) : Calls Try.prog 17 #[.slice none 0 0] w (BoolR true w) := right7_any none 0 [] w ⟨by simp, fun p hp => absurd hp (by simp)⟩ (SLies.nil _ _ _)

set_option maxRecDepth 100000 in
set_option maxHeartbeats 2000000 in
theorem works7_any (w : World) : Calls Try.prog 9 #[] w (BoolR true w) := by
  have hb0 : Below w.heap.size w (wW7 w) := below_lnew3 w _ _ _
  have hR0 := w7_lies w
  have hz0 : (wW7 w).heap.size = w.heap.size + 3 := by simp [wW7]
  have HD := Lib.hid (show wW7 w = _ from rfl)
  unfold wW7 at HD
  go_enter Try.func9, Try.ntmps9
  go_wp2_with fail
  rw [show ((w.alloc (.cells #[.int .u8 2, .int .i64 2] 44)).alloc (.cells #[.int .u8 1, .int .i64 7] 44)).alloc
    (.cells #[.int .i64 3, .int .i64 5, .slice (some ⟨w.heap.size, 0, none⟩) 1 1, .int .i64 5, .int .i64 9, .slice (some ⟨w.heap.size + 1, 0, none⟩) 1 1] 46) = wW7 w from rfl]
  clear HD
  generalize wW7 w = W at *
  refine (w7_put W _ 2 _ hR0).mono ?_
  rintro e w1 ⟨A1, c1, rfl, _, hL1, hb1⟩
  have HB1 := Lib.hid hb1
  have HL1 := Lib.hid hL1
  clear hL1 hb1
  go_wp2_with fail
  refine (w7_get w1 _ c1 HL1.out).mono ?_
  rintro e w2 ⟨A2, c2, qs, rfl, he2, hl2, hL2, hb2⟩
  have HB2 := Lib.hid (HB1.out.trans (hb2.mono HB1.out.size))
  have HL2 := Lib.hid hL2
  have HE2 := Lib.hid (And.intro he2 hl2)
  clear hL2 hb2 he2 hl2
  go_wp2_with fail
  refine (w7_cell w2 _ 2 _ (hR0.next HB2.out)).mono ?_
  rintro e w3 ⟨g3, o3, c3, rfl, hg3, hc3, hb3⟩
  have HB3 := Lib.hid (HB2.out.trans (hb3.mono HB2.out.size))
  have HL3 := Lib.hid (HL2.out.next hb3)
  clear hb3
  go_wp2_with fail
  refine (w7_cuts w3 _ 2 _ (hR0.next HB3.out)).mono ?_
  rintro e w4 ⟨g4, o4, c4, rfl, hc42, hg4, hc4, hd4, hb4⟩
  have HB4 := Lib.hid (HB3.out.trans (hb4.mono HB3.out.size))
  have HL4 := Lib.hid (HL3.out.next hb4)
  have hc3' := (hb4.cell (p := ⟨g3, o3 + 1, none⟩) hg3).trans hc3
  have hz4 := hb4.size
  clear hb4 hc3
  go_wp2_with fail
  refine (w7_same w4 _ A2 2 c2 _ qs HE2.out.1 HE2.out.2 (hR0.next HB4.out) HL4.out).mono ?_
  rintro e w5 ⟨rfl, hb5⟩
  have HB5 := Lib.hid (HB4.out.trans (hb5.mono HB4.out.size))
  have e3 := (hb5.cell (p := ⟨g3, o3 + 1, none⟩) (by dsimp only; omega)).trans hc3'
  have e4 := (hb5.cell (p := ⟨g4, o4 + 1, none⟩) hg4).trans hc4
  have e5 := (hb5.cell (p := ⟨g4, o4 + 3, none⟩) hg4).trans hd4
  clear hb5 hc3' hc4 hd4
  go_wp2_with fail
  refine (w7_nil w5).mono ?_
  rintro e w6 ⟨rfl, hb6⟩
  have HB6 := Lib.hid (HB5.out.trans (hb6.mono HB5.out.size))
  clear hb6
  go_wp2_with fail
  refine (w7_joins w6 _ 2 _ (Nat.le_refl _) (hR0.next HB6.out)).mono ?_
  rintro e w7 ⟨A7, c7, rfl, hb7⟩
  have HB7 := Lib.hid (HB6.out.trans (hb7.mono HB6.out.size))
  clear hb7
  go_wp2_with fail
  go_ret
  exact ⟨rfl, hb0.trans (HB7.out.mono (by omega))⟩

/-- few and short enough for a law -/
def Few (ps : List Ps) : Prop := ps.length ≤ 5000 ∧ ∀ p ∈ ps, p.a.length ≤ 1000
def VastR7 (ps : List Ps) (w : World) (e : Ending) (w' : World) : Prop := ∃ b : Bool, e = .returned (.bool b) ∧ Below w.heap.size w w' ∧ (b = false → Few ps)
set_option maxRecDepth 100000 in
set_option maxHeartbeats 2000000 in
theorem vast7_any (A : Option Addr) (c : Nat) (ps : List Ps) (w : World) (h : PLies w w.heap.size A ps) : Calls Try.prog 8 #[.slice A ps.length c] w (VastR7 ps w) := by
  go_enter Try.func8, Try.ntmps8
  go_wp2
  go_loopw [3, 4] (fun v i wr => ∃ (k : Nat) (n : Int), k ≤ ps.length ∧ k ≤ 5001 ∧ i = .int .i64 k ∧ v = .int .i64 n ∧ 0 ≤ n ∧ n ≤ 1000 * k ∧ Hid (∀ p ∈ ps.take k, p.a.length ≤ 1000) ∧ Hid (Below w.heap.size w wr)) (fun _ i _ => 5002 - (intOf i).toNat)
  case atStart => exact ⟨0, 0, by omega, by omega, rfl, rfl, by omega, by omega, fun p hp => absurd hp (by simp), Below.refl _ _⟩
  case round =>
    obtain ⟨k, n, hk, hk5, rfl, rfl, hn0, hn1, hP, hB⟩ := hrel
    by_cases hlt : k < ps.length
    · have hlti : (k : Int) < ps.length := by omega
      by_cases h5 : k ≤ 5000
      · have h5i : (k : Int) ≤ 5000 := by omega
        obtain ⟨g, o, rfl, hg, c1, c2', c3⟩ := (h.below hB.out).at_ hlt
        have HP := Lib.hid (fun (e : ps[k].a.length ≤ 1000) => show ∀ p ∈ ps.take (k + 1), p.a.length ≤ 1000 from fun p hp => by
          rw [← List.take_append_getElem hlt] at hp
          rcases List.mem_append.1 hp with hp | hp
          · exact hP.out p hp
          · rw [List.mem_singleton] at hp
            rw [hp]
            exact e)
        generalize ps[k] = p at *
        obtain ⟨pf, pt, pa, pA, pc⟩ := p
        dsimp only at c1 c2' c3 HP
        by_cases hbig : 1000 < pa.length
        · have hbi : (1000 : Int) < pa.length := by omega
          go_wp2
          go_ret
          exact ⟨true, rfl, hB.out, fun e => by cases e⟩
        · have hbi : (pa.length : Int) ≤ 1000 := by omega
          have HS := Lib.hid (HP.out (by omega))
          clear HP
          go_wp2
          go_roundw
          case rel => exact ⟨k + 1, n + min (pa.length : Int) 1000, by omega, by omega, by go_num, by go_num, by omega, by omega, HS, hB⟩
          case measure => simp [intOf]; omega
      · have h5i : ¬ (k : Int) ≤ 5000 := by omega
        have hbi : (5000 : Int) < ps.length := by omega
        go_wp2
        go_ret
        exact ⟨true, rfl, hB.out, fun e => by cases e⟩
    · have hkl : k = ps.length := by omega
      have hlti : ¬ (k : Int) < ps.length := by omega
      have HK := Lib.hid hkl
      clear hkl
      by_cases hbig : 5000 < ps.length
      · have hbi : (5000 : Int) < ps.length := by omega
        go_wp2
        go_ret
        exact ⟨true, rfl, hB.out, fun e => by cases e⟩
      · have hbi : (ps.length : Int) ≤ 5000 := by omega
        have HF := Lib.hid (show Few ps from ⟨by omega, by have := hP.out; rwa [HK.out, List.take_length] at this⟩)
        go_wp2
        go_ret
        exact ⟨_, rfl, hB.out, fun _ => HF.out⟩
theorem Few.sm {ps : List Ps} (h : Few ps) : Sm ps := ⟨by have := h.1; omega, fun p hp => by have := h.2 p hp; omega⟩
end Go.Proofs.Ytggofdahnbchjaa
