/-
  Merged for a claim: C5G.
-/
import Derived.Test.YtdnpoeegefkoiaaGreatFJ5
import Derived.RegionTactic
import Derived.Deep.RegionHeld3
import Derived.Deep.QuietTactic
import Derived.BigQuiet
import Derived.StillTailTactics
namespace Go.Proofs.YtdnpoeegefkoiaaGreat
open Go Go.RowKit

section
variable {w : World} {S : Nat → Prop} {g : Nat} {m : Mc} {p : Rp}
set_option maxRecDepth 100000 in
set_option maxHeartbeats 400000 in
theorem does_call_stack (h : DIn w S g m p) (o r t n mm next : Int) (h0 : wrap64 (rg m 15 - 1) < 0) :
    Calls Tryz.prog 29 #[.pointer (some ⟨g, 0, none⟩), iv ⟨12, o, r, 0, t, n, mm⟩, .int .i64 next] w (DoesR (m) 7 S g w) := by
  have H := Lib.hid h
  obtain ⟨⟨l0, l1, l2⟩, f0, f1, f2⟩ := h.facts
  obtain ⟨c0, c1, c2, c3, c4, c5, c6, c7⟩ := h.cells
  have n1 : p.gr ≠ g := h.grg
  have n2 : p.gw ≠ g := h.gwg
  have n3 : p.gr ≠ p.gw := h.rw_
  have cs := h.reg (r := 0) (by omega)
  have c15 := h.reg (r := 15) (by omega)
  clear h f0 f1 f2 c0 c3 c4 c5 c6 c7
  unfold iv ic
  go_enter Tryz.func29, Tryz.ntmps29
  go_wp2_with fail
  go_region
  go_wp2_with fail
  go_ret
  exact does_same rfl rfl (((H.out).al _).dr) (((Keeps.refl S w).al _).dr) H.out.lt
set_option maxRecDepth 100000 in
set_option maxHeartbeats 400000 in
theorem does_call_no (h : DIn w S g m p) (o r t n mm next : Int) (h0 : ¬ wrap64 (rg m 15 - 1) < 0) (hh : hasW m (wrap64 (rg m 15 - 1)) = false) :
    Calls Tryz.prog 29 #[.pointer (some ⟨g, 0, none⟩), iv ⟨12, o, r, 0, t, n, mm⟩, .int .i64 next] w (DoesR (m) 6 S g w) := by
  have H := Lib.hid h
  obtain ⟨⟨l0, l1, l2⟩, f0, f1, f2⟩ := h.facts
  obtain ⟨c0, c1, c2, c3, c4, c5, c6, c7⟩ := h.cells
  have n1 : p.gr ≠ g := h.grg
  have n2 : p.gw ≠ g := h.gwg
  have n3 : p.gr ≠ p.gw := h.rw_
  have cs := h.reg (r := 0) (by omega)
  have c15 := h.reg (r := 15) (by omega)
  clear h f0 f1 f2 c0 c4 c5 c6 c7
  unfold iv ic
  go_enter Tryz.func29, Tryz.ntmps29
  go_wp2_with fail
  go_region
  go_wp2_with fail
  refine (there_any (H.out.al _).dr (wrap64 (rg m 15 - 1))).mono ?_
  rintro e w' ⟨rfl, rfl⟩
  rw [hh]
  go_wp2_with fail
  go_ret
  exact does_same rfl rfl (((H.out).al _).dr) (((Keeps.refl S w).al _).dr) H.out.lt
set_option maxRecDepth 100000 in
set_option maxHeartbeats 400000 in
theorem does_call (h : DIn w S g m p) (o r t n mm next : Int) (k : Nat) (hk : wrap64 (rg m 15 - 1) = (k : Int)) (hkl : k < m.words.length) :
    Calls Tryz.prog 29 #[.pointer (some ⟨g, 0, none⟩), iv ⟨12, o, r, 0, t, n, mm⟩, .int .i64 next] w (DoesR ({ setR (setW m k next) 15 k with pc := n }) 0 S g w) := by
  have H := Lib.hid h
  obtain ⟨⟨l0, l1, l2⟩, f0, f1, f2⟩ := h.facts
  obtain ⟨c0, c1, c2, c3, c4, c5, c6, c7⟩ := h.cells
  have n1 : p.gr ≠ g := h.grg
  have n2 : p.gw ≠ g := h.gwg
  have n3 : p.gr ≠ p.gw := h.rw_
  have cs := h.reg (r := 0) (by omega)
  have fp := f0 1
  have c15 := h.reg (r := 15) (by omega)
  have f15 := f1 15
  have fw := f2 k
  have hkl2 := h.word hkl
  have hhk : hasW m (k : Int) = true := decide_eq_true ⟨by omega, by omega⟩
  have k0 : (0 : Int) ≤ (k : Int) := by omega
  have k1 : (k : Int) < (m.words.length : Int) := by omega
  clear h f0 f1 f2 c0 c4 c5 c6 c7
  unfold iv ic
  go_enter Tryz.func29, Tryz.ntmps29
  go_wp2_with fail
  go_region
  go_wp2_with fail
  refine (there_any (H.out.al _).dr ((k : Int))).mono ?_
  rintro e w' ⟨rfl, rfl⟩
  rw [hhk]
  go_wp2_with fail
  go_ret
  exact does_same rfl rfl (((((H.out.setReg (r := 15) (by omega) k).setWord k next).setPc n).al _).dr) ((((((Keeps.refl S w).st H.out.grS _ _).st H.out.gwS _ _).st H.out.mem _ _).al _).dr) H.out.lt
set_option maxRecDepth 100000 in
set_option maxHeartbeats 400000 in
theorem does_ret_no (h : DIn w S g m p) (o r t n mm next : Int) (hh : hasW m (rg m 15) = false) :
    Calls Tryz.prog 29 #[.pointer (some ⟨g, 0, none⟩), iv ⟨13, o, r, 0, t, n, mm⟩, .int .i64 next] w (DoesR (m) 6 S g w) := by
  have H := Lib.hid h
  obtain ⟨⟨l0, l1, l2⟩, f0, f1, f2⟩ := h.facts
  obtain ⟨c0, c1, c2, c3, c4, c5, c6, c7⟩ := h.cells
  have n1 : p.gr ≠ g := h.grg
  have n2 : p.gw ≠ g := h.gwg
  have n3 : p.gr ≠ p.gw := h.rw_
  have cs := h.reg (r := 0) (by omega)
  have c15 := h.reg (r := 15) (by omega)
  clear h f0 f1 f2 c0 c4 c5 c6 c7
  unfold iv ic
  go_enter Tryz.func29, Tryz.ntmps29
  go_wp2_with fail
  go_region
  go_wp2_with fail
  refine (there_any (H.out.al _).dr (rg m 15)).mono ?_
  rintro e w' ⟨rfl, rfl⟩
  rw [hh]
  go_wp2_with fail
  go_ret
  exact does_same rfl rfl (((H.out).al _).dr) (((Keeps.refl S w).al _).dr) H.out.lt
set_option maxRecDepth 100000 in
set_option maxHeartbeats 400000 in
theorem does_ret_below (h : DIn w S g m p) (o r t n mm next : Int) (k : Nat) (hk : rg m 15 = (k : Int)) (hkl : k < m.words.length) (hx : wd m k < 0) :
    Calls Tryz.prog 29 #[.pointer (some ⟨g, 0, none⟩), iv ⟨13, o, r, 0, t, n, mm⟩, .int .i64 next] w (DoesR (m) 5 S g w) := by
  have H := Lib.hid h
  obtain ⟨⟨l0, l1, l2⟩, f0, f1, f2⟩ := h.facts
  obtain ⟨c0, c1, c2, c3, c4, c5, c6, c7⟩ := h.cells
  have n1 : p.gr ≠ g := h.grg
  have n2 : p.gw ≠ g := h.gwg
  have n3 : p.gr ≠ p.gw := h.rw_
  have cs := h.reg (r := 0) (by omega)
  have c15 := h.reg (r := 15) (by omega)
  have hkl2 := h.word hkl
  have hhk : hasW m (k : Int) = true := decide_eq_true ⟨by omega, by omega⟩
  have k0 : (0 : Int) ≤ (k : Int) := by omega
  have k1 : (k : Int) < (m.words.length : Int) := by omega
  clear h f0 f1 f2 c0 c4 c5 c6 c7
  unfold iv ic
  go_enter Tryz.func29, Tryz.ntmps29
  go_wp2_with fail
  go_region
  go_wp2_with fail
  refine (there_any (H.out.al _).dr ((k : Int))).mono ?_
  rintro e w' ⟨rfl, rfl⟩
  rw [hhk]
  go_wp2_with fail
  go_ret
  exact does_same rfl rfl (((H.out).al _).dr) (((Keeps.refl S w).al _).dr) H.out.lt
set_option maxRecDepth 100000 in
set_option maxHeartbeats 400000 in
theorem does_ret_above (h : DIn w S g m p) (o r t n mm next : Int) (k : Nat) (hk : rg m 15 = (k : Int)) (hkl : k < m.words.length) (hx : ¬ wd m k < 0) (hy : 16777216 ≤ wd m k) :
    Calls Tryz.prog 29 #[.pointer (some ⟨g, 0, none⟩), iv ⟨13, o, r, 0, t, n, mm⟩, .int .i64 next] w (DoesR (m) 5 S g w) := by
  have H := Lib.hid h
  obtain ⟨⟨l0, l1, l2⟩, f0, f1, f2⟩ := h.facts
  obtain ⟨c0, c1, c2, c3, c4, c5, c6, c7⟩ := h.cells
  have n1 : p.gr ≠ g := h.grg
  have n2 : p.gw ≠ g := h.gwg
  have n3 : p.gr ≠ p.gw := h.rw_
  have cs := h.reg (r := 0) (by omega)
  have c15 := h.reg (r := 15) (by omega)
  have hkl2 := h.word hkl
  have hhk : hasW m (k : Int) = true := decide_eq_true ⟨by omega, by omega⟩
  have k0 : (0 : Int) ≤ (k : Int) := by omega
  have k1 : (k : Int) < (m.words.length : Int) := by omega
  clear h f0 f1 f2 c0 c4 c5 c6 c7
  unfold iv ic
  go_enter Tryz.func29, Tryz.ntmps29
  go_wp2_with fail
  go_region
  go_wp2_with fail
  refine (there_any (H.out.al _).dr ((k : Int))).mono ?_
  rintro e w' ⟨rfl, rfl⟩
  rw [hhk]
  go_wp2_with fail
  go_ret
  exact does_same rfl rfl (((H.out).al _).dr) (((Keeps.refl S w).al _).dr) H.out.lt
set_option maxRecDepth 100000 in
set_option maxHeartbeats 400000 in
theorem does_ret (h : DIn w S g m p) (o r t n mm next : Int) (k : Nat) (hk : rg m 15 = (k : Int)) (hkl : k < m.words.length) (hw : m.words.length ≤ 65536) (hx : ¬ wd m k < 0) (hy : ¬ 16777216 ≤ wd m k) :
    Calls Tryz.prog 29 #[.pointer (some ⟨g, 0, none⟩), iv ⟨13, o, r, 0, t, n, mm⟩, .int .i64 next] w (DoesR ({ setR m 15 ((k : Int) + 1) with pc := wd m k }) 0 S g w) := by
  have H := Lib.hid h
  obtain ⟨⟨l0, l1, l2⟩, f0, f1, f2⟩ := h.facts
  obtain ⟨c0, c1, c2, c3, c4, c5, c6, c7⟩ := h.cells
  have n1 : p.gr ≠ g := h.grg
  have n2 : p.gw ≠ g := h.gwg
  have n3 : p.gr ≠ p.gw := h.rw_
  have cs := h.reg (r := 0) (by omega)
  have fp := f0 1
  have c15 := h.reg (r := 15) (by omega)
  have f15 := f1 15
  have hkl2 := h.word hkl
  have hhk : hasW m (k : Int) = true := decide_eq_true ⟨by omega, by omega⟩
  have k0 : (0 : Int) ≤ (k : Int) := by omega
  have k1 : (k : Int) < (m.words.length : Int) := by omega
  clear h f0 f1 f2 c0 c4 c5 c6 c7
  unfold iv ic
  go_enter Tryz.func29, Tryz.ntmps29
  go_wp2_with fail
  go_region
  go_wp2_with fail
  refine (there_any (H.out.al _).dr ((k : Int))).mono ?_
  rintro e w' ⟨rfl, rfl⟩
  rw [hhk]
  go_wp2_with fail
  go_ret
  exact does_same rfl rfl ((((H.out.setReg (r := 15) (by omega) ((k : Int) + 1)).setPc (wd m k)).al _).dr) (((((Keeps.refl S w).st H.out.grS _ _).st H.out.mem _ _).al _).dr) H.out.lt
set_option maxRecDepth 100000 in
set_option maxHeartbeats 400000 in
theorem does_frame_stack (h : DIn w S g m p) (o r t n mm next : Int) (h0 : wrap64 (rg m 15 - n) < 0) :
    Calls Tryz.prog 29 #[.pointer (some ⟨g, 0, none⟩), iv ⟨14, o, r, 0, t, n, mm⟩, .int .i64 next] w (DoesR (m) 7 S g w) := by
  have H := Lib.hid h
  obtain ⟨⟨l0, l1, l2⟩, f0, f1, f2⟩ := h.facts
  obtain ⟨c0, c1, c2, c3, c4, c5, c6, c7⟩ := h.cells
  have n1 : p.gr ≠ g := h.grg
  have n2 : p.gw ≠ g := h.gwg
  have n3 : p.gr ≠ p.gw := h.rw_
  have cs := h.reg (r := 0) (by omega)
  have c15 := h.reg (r := 15) (by omega)
  clear h f0 f1 f2 c0 c3 c4 c5 c6 c7
  unfold iv ic
  go_enter Tryz.func29, Tryz.ntmps29
  go_wp2_with fail
  go_region
  go_wp2_with fail
  go_region
  go_wp2_with fail
  go_ret
  exact does_same rfl rfl (((H.out).al _).dr.dr) (((Keeps.refl S w).al _).dr.dr) H.out.lt
set_option maxRecDepth 100000 in
set_option maxHeartbeats 400000 in
theorem does_frame_no (h : DIn w S g m p) (o r t n mm next : Int) (h0 : ¬ wrap64 (rg m 15 - n) < 0) (h1 : (m.words.length : Int) < wrap64 (rg m 15 - n)) :
    Calls Tryz.prog 29 #[.pointer (some ⟨g, 0, none⟩), iv ⟨14, o, r, 0, t, n, mm⟩, .int .i64 next] w (DoesR (m) 6 S g w) := by
  have H := Lib.hid h
  obtain ⟨⟨l0, l1, l2⟩, f0, f1, f2⟩ := h.facts
  obtain ⟨c0, c1, c2, c3, c4, c5, c6, c7⟩ := h.cells
  have n1 : p.gr ≠ g := h.grg
  have n2 : p.gw ≠ g := h.gwg
  have n3 : p.gr ≠ p.gw := h.rw_
  have cs := h.reg (r := 0) (by omega)
  have c15 := h.reg (r := 15) (by omega)
  clear h f0 f1 f2 c0 c4 c5 c6 c7
  unfold iv ic
  go_enter Tryz.func29, Tryz.ntmps29
  go_wp2_with fail
  go_region
  go_wp2_with fail
  go_region
  go_wp2_with fail
  go_ret
  exact does_same rfl rfl (((H.out).al _).dr.dr) (((Keeps.refl S w).al _).dr.dr) H.out.lt
set_option maxRecDepth 100000 in
set_option maxHeartbeats 400000 in
theorem does_frame (h : DIn w S g m p) (o r t n mm next : Int) (h0 : ¬ wrap64 (rg m 15 - n) < 0) (h1 : ¬ (m.words.length : Int) < wrap64 (rg m 15 - n)) :
    Calls Tryz.prog 29 #[.pointer (some ⟨g, 0, none⟩), iv ⟨14, o, r, 0, t, n, mm⟩, .int .i64 next] w (DoesR ({ setR m 15 (wrap64 (rg m 15 - n)) with pc := next }) 0 S g w) := by
  have H := Lib.hid h
  obtain ⟨⟨l0, l1, l2⟩, f0, f1, f2⟩ := h.facts
  obtain ⟨c0, c1, c2, c3, c4, c5, c6, c7⟩ := h.cells
  have n1 : p.gr ≠ g := h.grg
  have n2 : p.gw ≠ g := h.gwg
  have n3 : p.gr ≠ p.gw := h.rw_
  have cs := h.reg (r := 0) (by omega)
  have fp := f0 1
  have c15 := h.reg (r := 15) (by omega)
  have f15 := f1 15
  clear h f0 f1 f2 c0 c4 c5 c6 c7
  unfold iv ic
  go_enter Tryz.func29, Tryz.ntmps29
  go_wp2_with fail
  go_region
  go_wp2_with fail
  go_region
  go_wp2_with fail
  go_ret
  exact does_same rfl rfl ((((H.out.setReg (r := 15) (by omega) (wrap64 (rg m 15 - n))).setPc next).al _).dr.dr) (((((Keeps.refl S w).st H.out.grS _ _).st H.out.mem _ _).al _).dr.dr) H.out.lt
end
end Go.Proofs.YtdnpoeegefkoiaaGreat
