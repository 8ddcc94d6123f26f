/-
  Merged for a claim: I3I.
-/
import Derived.Test.YtnffiaphpcopjaaFI3H
import Derived.Test.YtnffiaphpcopjaaFJ3
namespace Go.Proofs.Ytnffiaphpcopjaa
open Go.RowKit

def Own1R (p : Pt) (i : Ins) (l : List UInt8) (gb gi B C : Nat) (w : World) (e : Ending) (w' : World) : Prop :=
  e = .returned (.bool true) ∧ (∃ v, SlAt w' gb v ∧ Own w' B v (l ++ bytesP p i)) ∧ InsAt w' gi i ∧ Below C w w'

set_option maxRecDepth 100000 in
set_option maxHeartbeats 400000 in
theorem own1_any (p : Pt) (i : Ins) (v : Value) (l : List UInt8) (gb gi B C : Nat) (w : World) (hr : i.Rng) (hf : fitsP p i = true) (hn : l.length ≤ 1099511627776)
    (hb : SlAt w gb v) (hi : InsAt w gi i) (ho : Own w B v l) (hB : B ≤ w.heap.size) (hC : C ≤ B) (hC2 : C ≤ gb) (hne : gb ≠ gi) :
    Calls Try.prog 49 #[pv p, .pointer (some ⟨gb, 0, none⟩), .pointer (some ⟨gi, 0, none⟩)] w (Own1R p i l gb gi B C w) := by
  have he := enter_p p
  have hb0 := below_box w (.cells (pc p) 54)
  have gb0 := hb.lt
  have gi0 := hi.lt
  have HL := Lib.hid (hb.below hb0 gb0)
  have HI := Lib.hid (hi.below hb0 gi0)
  have ho0 := ho.alloc (.cells (pc p) 54)
  have HP := Lib.hid (put_any p i v l B _ hr hf ho0 (by simp; omega) hn)
  have HB := Lib.hid hb0
  have HO := Lib.hid ho0
  unfold pc at HP HL HI HB HO
  obtain ⟨⟨c0, c1, c2, c3, c4, c5, c6⟩, _⟩ := ins_cells HI.out
  have d0 := HL.out.cell.1
  unfold iv ic at HP
  clear hb hi hb0 ho0 ho hf hr
  unfold pv pc
  go_enter Try.func49, Try.ntmps49
  go_wp2_with fail
  refine HP.out.mono ?_
  rintro e w1 ⟨v1, rfl, ho1, hg1⟩
  have HG := Lib.hid hg1
  have n1 := own_ne HO.out HL.out (by decide)
  have n2 := own_ne HO.out HI.out (by decide)
  have hl1 : SlAt w1 gb v := HL.out.kept hg1 n1
  have HI1 := Lib.hid (HI.out.kept hg1 n2)
  have e0 := hl1.cell.1
  have f0 := hl1.cell.2
  have HL1 := Lib.hid hl1
  have HO1 := Lib.hid ho1
  obtain ⟨A, n, c, rfl, -, -, -, -⟩ := ho1.formN
  clear hg1 n1 n2 hl1 ho1 HP c0 c1 c2 c3 c4 c5 c6 d0
  go_wp2_with fail
  go_ret
  have n3 := own_ne HO1.out HL1.out (by decide)
  refine ⟨rfl, ⟨_, HL1.out.store _, HO1.out.kept (grown_set w1 gb 0 _) ?_⟩, HI1.out.kept (grown_set w1 gb 0 _) (by simp; omega), ?_⟩
  · exact .inr (fun e => n3 e.symm)
  · have h1 : Below C w w1 := ((HB.out.mono (by omega)).grown HG.out (by simp; omega) fun k hk => by
      have := (HO.out.lt k hk).1; omega)
    exact h1.setCell hC2 _

def OwnI (i : Ins) (L : List Pt) (gb gi C : Nat) (w : World) (j : Nat) (w' : World) : Prop :=
  (∃ v, SlAt w' gb v ∧ Own w' C v (ownP i (L.take j))) ∧ InsAt w' gi i ∧ Below C w w' ∧ C ≤ w.heap.size
theorem enter_own (args : Array Value) (w : World) : (callFunc 49 args).run Try.prog w = .ok (.enter 49 args) w := run_enter Try.func49 (by kernel_rfl) (by kernel_rfl) args w
theorem own_each (i : Ins) (gb gi C : Nat) (w w0 : World) (hr : i.Rng) (hf : ∀ p ∈ ptsOf i.k, fitsP p i = true) (hC2 : C ≤ gb) (hne : gb ≠ gi) (h0 : OwnI i (ptsOf i.k) gb gi C w 0 w0) :
    Calls Try.prog 26 #[.int .u8 i.k, .func (.func 49) #[] #[.pointer (some ⟨gb, 0, none⟩), .pointer (some ⟨gi, 0, none⟩)]] w0
      fun e w' => (e = .returned (.bool (isK i.k)) ∧ OwnI i (ptsOf i.k) gb gi C w (ptsOf i.k).length w') ∨ (e = .returned (.bool false) ∧ False) := by
  refine each_any i.k 49 _ w0 (OwnI i (ptsOf i.k) gb gi C w) (fun _ => False) enter_own ?_ h0 ?_
  · rintro j w1 w2 ⟨⟨v, h1, h2⟩, h3, h4, h5⟩ hb
    exact ⟨⟨v, h1.below hb h1.lt, h2.below hb⟩, h3.below hb h3.lt, h4.trans (hb.mono (Nat.le_trans h5 h4.size)), h5⟩
  · rintro j p hp w1 ⟨⟨v, h1, h2⟩, h3, h4, h5⟩
    have hlen : (ownP i ((ptsOf i.k).take j)).length ≤ 1099511627776 := by
      have := ownP_len i ((ptsOf i.k).take j)
      have := ptsOf_len i.k
      simp only [List.length_take] at *
      omega
    refine (own1_any p i v _ gb gi C C w1 hr (hf p (List.mem_of_getElem? hp)) hlen h1 h3 h2 (Nat.le_trans h5 h4.size) (Nat.le_refl _) hC2 hne).mono ?_
    rintro e w2 ⟨rfl, ⟨v', a1, a2⟩, a3, a4⟩
    refine .inl ⟨rfl, ⟨v', a1, ?_⟩, a3, h4.trans a4, h5⟩
    rw [take_snoc hp, ownP_snoc]
    exact a2


set_option maxRecDepth 100000 in
set_option maxHeartbeats 400000 in
theorem own_any (i : Ins) (w : World) (hr : i.Rng) : Calls Try.prog 25 #[iv i] w (Made w (ownB i)) := by
  have HR := Lib.hid (right_any i (w.alloc (.cells (ic i) 24)))
  have HB0 := Lib.hid (below_box w (.cells (ic i) 24))
  have HI0 := Lib.hid (show InsAt (w.alloc (.cells (ic i) 24)) w.heap.size i from heap_alloc_new w _)
  unfold iv at HR
  rcases hb : rightB i with _ | _
  · have HO := Lib.hid (show ownB i = [] by simp [ownB, hb])
    unfold RightR at HR
    rw [hb] at HR
    clear hb hr
    unfold ic at HR HI0 HB0
    unfold iv ic
    go_enter Try.func25, Try.ntmps25
    go_wp2_with fail
    refine HR.out.mono ?_
    rintro e w1 ⟨rfl, hb1⟩
    have HB1 := Lib.hid hb1
    clear hb1
    go_wp2_with fail
    go_ret
    exact ⟨_, rfl, by rw [HO.out]; exact Own.nil _ _, HB0.out.trans (HB1.out.mono (by simp))⟩
  · have HO := Lib.hid (show ownB i = ownP i (ptsOf i.k) by simp [ownB, ownP, hb])
    have hp := right_parts hb
    have HF := Lib.hid hp.2.1
    have HRG := Lib.hid hr
    unfold RightR at HR
    rw [hb] at HR
    have k0 := hr.k0
    have k1 := hr.k1
    clear hb hr hp
    have HB0' := HB0
    have HI0' := HI0
    unfold ic at HR HI0 HB0
    unfold iv ic
    go_enter Try.func25, Try.ntmps25
    go_wp2_with fail
    refine HR.out.mono ?_
    rintro e w1 ⟨rfl, hb1⟩
    have HB1 := Lib.hid (HB0.out.trans (hb1.mono (by simp)))
    have hi1 := HI0.out.below hb1 (by simp)
    have hz := hb1.size
    have hz' : w.heap.size + 1 ≤ w1.heap.size := by simpa using hz
    obtain ⟨⟨c0, c1, c2, c3, c4, c5, c6⟩, _⟩ := ins_cells hi1
    have HI1 := Lib.hid hi1
    have hb2 := below_box2 w1 (.cells #[.int .u8 i.k] 5) (.cells #[.slice (some ⟨w1.heap.size, 0, none⟩) 1 1] 22)
    have hi2 := HI1.out.below hb2 (by omega)
    obtain ⟨⟨e0, _, _, _, _, _, _⟩, _⟩ := ins_cells hi2
    have hO : OwnI i (ptsOf i.k) (w1.heap.size + 1) w.heap.size w.heap.size w 0 ((w1.alloc (.cells #[.int .u8 i.k] 5)).alloc (.cells #[.slice (some ⟨w1.heap.size, 0, none⟩) 1 1] 22)) :=
      ⟨⟨_, heap_alloc2_new _ _ _, ((kind_own w1 i.k k0 k1).alloc _).base (by omega)⟩, hi2, HB1.out.trans (hb2.mono (by omega)), Nat.le_refl _⟩
    have HE := Lib.hid (own_each i (w1.heap.size + 1) w.heap.size w.heap.size w _ HRG.out HF.out (by omega) (by omega) hO)
    clear hb1 hi1 HI0 HB0 HR hz hb2 hi2 hO
    go_wp2_with fail
    refine HE.out.mono ?_
    rintro e w2 (⟨rfl, ⟨v, h1, h2⟩, h3, h4, -⟩ | ⟨-, h⟩)
    · have d0 := h1.cell.1
      rw [List.take_length] at h2
      have HO2 := Lib.hid h2
      have HB2 := Lib.hid h4
      clear h1 h2 h3 h4 HE HI1 e0
      go_wp2_with fail
      go_ret
      exact ⟨v, rfl, by rw [HO.out]; exact HO2.out, HB2.out⟩
    · exact h.elim

end Go.Proofs.Ytnffiaphpcopjaa
