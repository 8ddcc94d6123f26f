/-
  Merged for a claim: I3L.
-/
import Derived.Test.YtnffiaphpcopjaaFI3I
import Derived.Test.YtnffiaphpcopjaaFI3K
namespace Go.Proofs.Ytnffiaphpcopjaa
open Go.RowKit

theorem ownB_len (i : Ins) : (ownB i).length ≤ 41 := by
  unfold ownB
  split
  · have := ownP_len i (ptsOf i.k)
    have := ptsOf_len i.k
    simp only [ownP] at *
    omega
  · simp

set_option maxRecDepth 100000 in
set_option maxHeartbeats 400000 in
theorem isaPut_any (A : Option Addr) (c : Nat) (l : List UInt8) (i : Ins) (w : World) (hr : i.Rng) (hc : A = none → c = 0) (h : Lies w w.heap.size A l) (hn : l.length ≤ 1099511627776) :
    Calls Try.prog 8 #[.slice A l.length c, iv i] w (Made w (l ++ ownB i)) := by
  have HO := Lib.hid (own_any i (w.alloc (.cells (ic i) 24)) hr)
  have HB0 := Lib.hid (below_box w (.cells (ic i) 24))
  have HC := Lib.hid hc
  have HL := Lib.hid h
  have hlen := ownB_len i
  clear h hc hr
  unfold iv at HO
  generalize ownB i = m at *
  unfold ic at HO HB0
  unfold iv ic
  go_enter Try.func8, Try.ntmps8
  go_wp2_with fail
  refine HO.out.mono ?_
  rintro e w1 ⟨v, rfl, ho, hb⟩
  obtain ⟨A2, c2, rfl, _, h2, h3⟩ := ho.form
  have hb1 := HB0.out.trans (hb.mono (by simp))
  have hz := hb1.size
  have hb2 := hb1.alloc hz (.cells #[.slice A l.length c, .slice A2 m.length c2] 22)
  have HK := Lib.hid (concat_any w1.heap.size A A2 c c2 l m (w1.alloc (.cells #[.slice A l.length c, .slice A2 m.length c2] 22)) (heap_alloc_new _ _) HC.out h2 ((HL.out.below hb2).more hb2.size) ((h3.alloc (Nat.le_refl _) _).more (by simp)) hn (by omega))
  have HB := Lib.hid hb2
  have hz2 := hb2.size
  clear ho hb h2 h3 hb1 hb2 HO HB0
  go_wp2_with fail
  refine HK.out.mono ?_
  rintro e w2 ⟨v2, rfl, ho2, hb2⟩
  have HO2 := Lib.hid ho2
  have HB2 := Lib.hid hb2
  clear ho2 hb2
  go_wp2_with fail
  go_ret
  exact ⟨v2, rfl, HO2.out.base hz2, HB.out.trans (HB2.out.mono hz2)⟩

set_option maxRecDepth 100000 in
set_option maxHeartbeats 400000 in
theorem isaSize_any (i : Ins) (w : World) (hr : i.Rng) :
    Calls Try.prog 11 #[iv i] w fun e w' => e = .returned (.int .i64 (ownB i).length) ∧ Below w.heap.size w w' := by
  have HO := Lib.hid (own_any i (w.alloc (.cells (ic i) 24)) hr)
  have HB0 := Lib.hid (below_box w (.cells (ic i) 24))
  have hlen := ownB_len i
  clear hr
  unfold iv at HO
  generalize ownB i = m at *
  unfold ic at HO HB0
  unfold iv ic
  go_enter Try.func11, Try.ntmps11
  go_wp2_with fail
  refine HO.out.mono ?_
  rintro e w1 ⟨v, rfl, ho, hb⟩
  obtain ⟨A2, c2, rfl, _, h2, h3⟩ := ho.form
  have HB := Lib.hid (HB0.out.trans (hb.mono (by simp)))
  clear ho hb h2 h3
  go_wp2_with fail
  go_ret
  exact ⟨rfl, HB.out⟩

end Go.Proofs.Ytnffiaphpcopjaa
