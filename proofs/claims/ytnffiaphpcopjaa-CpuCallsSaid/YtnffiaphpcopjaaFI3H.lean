/-
  Merged for a claim: I3H.
-/
import Derived.Test.YtnffiaphpcopjaaFJ3
namespace Go.Proofs.Ytnffiaphpcopjaa
open Go.RowKit

def Right1R (p : Pt) (l i : Ins) (gl gi : Nat) (w : World) (e : Ending) (w' : World) : Prop :=
  e = .returned (.bool (fitsP p i)) ∧ InsAt w' gl (dropP p l) ∧ InsAt w' gi i ∧ w.grownBy w' (some gl)

set_option maxRecDepth 100000 in
set_option maxHeartbeats 400000 in
theorem right1_any (p : Pt) (l i : Ins) (gl gi : Nat) (w : World) (hl : InsAt w gl l) (hi : InsAt w gi i) (hne : gl ≠ gi) :
    Calls Try.prog 27 #[pv p, .pointer (some ⟨gl, 0, none⟩), .pointer (some ⟨gi, 0, none⟩)] w (Right1R p l i gl gi w) := by
  have hd := enter_d p
  have hf := enter_f p
  have hb0 := below_box w (.cells (pc p) 54)
  have gl0 := hl.lt
  have gi0 := hi.lt
  have HL := Lib.hid (hl.below hb0 gl0)
  have HI := Lib.hid (hi.below hb0 gi0)
  have HP := Lib.hid (heap_alloc_new w (.cells (pc p) 54))
  have HB := Lib.hid hb0
  unfold pc at HP HL HI HB
  obtain ⟨⟨c0, c1, c2, c3, c4, c5, c6⟩, _⟩ := ins_cells HL.out
  have HD := Lib.hid (fun w => drop_any p l w)
  have HF := Lib.hid (fun w => fits_any p i w)
  unfold iv ic at HD HF
  clear hl hi hb0
  unfold pv pc
  go_enter Try.func27, Try.ntmps27
  go_wp2_with fail
  refine (HD.out _).mono ?_
  rintro e w1 ⟨rfl, hb1⟩
  have HB1 := Lib.hid hb1
  have hp1 := (hb1.block w.heap.size (by simp)).trans HP.out
  have hl1 : InsAt w1 gl l := HL.out.below hb1 (by simp; omega)
  have hi1 : InsAt w1 gi i := HI.out.below hb1 (by simp; omega)
  obtain ⟨⟨d0, d1, d2, d3, d4, d5, d6⟩, df⟩ := ins_cells hl1
  obtain ⟨⟨e0, e1, e2, e3, e4, e5, e6⟩, _⟩ := ins_cells hi1
  obtain ⟨p0, _, _, _⟩ := part_cells hp1
  have HL1 := Lib.hid hl1
  have HI1 := Lib.hid hi1
  clear c0 c1 c2 c3 c4 c5 c6 HP HL HI HD hb1 hp1 hl1 hi1 hd
  have hgl : ¬ gl = w.heap.size := by omega
  have hgl' : ¬ w.heap.size = gl := by omega
  have hne' : ¬ gi = gl := fun e => hne e.symm
  obtain ⟨l', hl'⟩ : ∃ l', l' = dropP p l := ⟨_, rfl⟩
  rw [← hl']
  have HL' := Lib.hid hl'
  clear hl'
  unfold iv ic
  go_wp2_with fail
  refine (HF.out _).mono ?_
  rintro e w2 ⟨rfl, hb2⟩
  have HB2 : Hid (Below (put7 w1 gl l').heap.size (put7 w1 gl l') w2) := hb2
  clear hb2
  go_wp2_with fail
  go_ret
  have g1 := (grown_below (HB.out.trans (HB1.out.mono (by simp))) (some gl)).trans (put7_grown w1 gl l')
  have a1 := put7_at HL1.out l'
  have a2 := HI1.out.kept (put7_grown w1 gl l') (by simp; omega)
  refine ⟨rfl, ?_, a2.below HB2.out a2.lt, g1.trans (grown_below HB2.out _)⟩
  rw [← HL'.out]
  exact a1.below HB2.out a1.lt

/-- an instruction without what some parts say -/
def RightI (i : Ins) (L : List Pt) (w : World) (j : Nat) (w' : World) : Prop :=
  InsAt w' (w.heap.size + 1) (dropAll (L.take j) i) ∧ InsAt w' w.heap.size i ∧ Below w.heap.size w w' ∧ ((L.take j).all fun p => fitsP p i) = true
def RightN (i : Ins) (L : List Pt) (w : World) (w' : World) : Prop := Below w.heap.size w w' ∧ (L.all fun p => fitsP p i) = false
theorem enter_right (args : Array Value) (w : World) : (callFunc 27 args).run Try.prog w = .ok (.enter 27 args) w := run_enter Try.func27 (by kernel_rfl) (by kernel_rfl) args w
theorem right_each (i : Ins) (w w0 : World) (h0 : RightI i (ptsOf i.k) w 0 w0) :
    Calls Try.prog 26 #[.int .u8 i.k, .func (.func 27) #[] #[.pointer (some ⟨w.heap.size + 1, 0, none⟩), .pointer (some ⟨w.heap.size, 0, none⟩)]] w0
      fun e w' => (e = .returned (.bool (isK i.k)) ∧ RightI i (ptsOf i.k) w (ptsOf i.k).length w') ∨ (e = .returned (.bool false) ∧ RightN i (ptsOf i.k) w w') := by
  refine each_any i.k 27 _ w0 (RightI i (ptsOf i.k) w) (RightN i (ptsOf i.k) w) enter_right ?_ h0 ?_
  · rintro j w1 w2 ⟨h1, h2, h3, h4⟩ hb
    exact ⟨h1.below hb h1.lt, h2.below hb h2.lt, h3.trans (hb.mono h3.size), h4⟩
  · rintro j p hp w1 ⟨h1, h2, h3, h4⟩
    refine (right1_any p _ i _ _ w1 h1 h2 (by omega)).mono ?_
    rintro e w2 ⟨rfl, a1, a2, a3⟩
    have hB : Below w.heap.size w w2 := h3.grown a3 h3.size (fun k e => by cases e; omega)
    rcases hf : fitsP p i with _ | _
    · refine .inr ⟨rfl, hB, ?_⟩
      rw [List.all_eq_false]
      exact ⟨p, List.mem_of_getElem? hp, by simp [hf]⟩
    · refine .inl ⟨rfl, ?_, a2, hB, ?_⟩
      · rw [take_snoc hp, dropAll_snoc]; exact a1
      · rw [take_snoc hp, List.all_append, h4]; simp [hf]

def RightR (i : Ins) (w : World) (e : Ending) (w' : World) : Prop := e = .returned (.bool (rightB i)) ∧ Below w.heap.size w w'

set_option maxRecDepth 100000 in
set_option maxHeartbeats 400000 in
theorem right_any (i : Ins) (w : World) : Calls Try.prog 9 #[iv i] w (RightR i w) := by
  have HE := Lib.hid (right_each i w ((w.alloc (.cells (ic i) 24)).alloc (.cells (ic i) 24))
    ⟨heap_alloc2_new w _ _, heap_alloc2_old w _ _, below_box2 _ _ _, by simp⟩)
  unfold ic at HE
  unfold iv ic
  go_enter Try.func9, Try.ntmps9
  go_wp2_with fail
  refine HE.out.mono ?_
  rintro e w1 (⟨rfl, h1, h2, h3, h4⟩ | ⟨rfl, h3, h4⟩)
  · have hR := Lib.hid (show rightB i = (isK i.k && decide (dropAll (ptsOf i.k) i = ⟨i.k, 0, 0, 0, 0, 0, 0⟩)) from by
      rw [List.take_length] at h4
      simp only [rightB, h4, Bool.and_true])
    rw [List.take_length] at h1
    have heq := fun w => ins_eql (dropAll (ptsOf i.k) i) ⟨i.k, 0, 0, 0, 0, 0, 0⟩ w
    unfold ic at heq
    obtain ⟨⟨c0, c1, c2, c3, c4, c5, c6⟩, _⟩ := ins_cells h1
    obtain ⟨⟨d0, d1, d2, d3, d4, d5, d6⟩, _⟩ := ins_cells h2
    have HB := Lib.hid h3
    clear h1 h2 h3 h4 HE
    generalize decide (dropAll (ptsOf i.k) i = ⟨i.k, 0, 0, 0, 0, 0, 0⟩) = q at *
    generalize dropAll (ptsOf i.k) i = d at *
    rcases hk : isK i.k with _ | _
    · rw [hk] at hR
      clear hk
      go_wp2_with fail
      go_ret
      exact ⟨by rw [hR.out]; rfl, HB.out⟩
    · rw [hk] at hR
      clear hk
      go_wp2_with fail
      go_ret
      exact ⟨by rw [hR.out]; rfl, HB.out⟩
  · have hR := Lib.hid (show rightB i = false from by simp only [rightB, h4, Bool.and_false, Bool.false_and])
    have HB := Lib.hid h3
    clear h3 h4 HE
    go_wp2_with fail
    go_ret
    exact ⟨by rw [hR.out]; rfl, HB.out⟩

end Go.Proofs.Ytnffiaphpcopjaa
