/-
  Merged for a claim: C5F.
-/
import Derived.Test.YtdnpoeegefkoiaaGreatFJ5
import Derived.RegionTactic
import Derived.Deep.RegionHeld3
import Derived.Deep.QuietTactic
import Derived.BigQuiet
import Derived.StillTailTactics
namespace Go.Proofs.YtdnpoeegefkoiaaGreat
open Go Go.RowKit

section
variable {w : World} {S : Nat → Prop} {g : Nat} {m : Mc} {p : Rp}
set_option maxRecDepth 100000 in
set_option maxHeartbeats 400000 in
theorem does_pick_below (h : DIn w S g m p) (o n mm next : Int) (r s t : Nat) (hr : r < 16) (hs : s < 16) (ht : t < 16) (hx : rg m t < 0) :
    Calls Tryz.prog 29 #[.pointer (some ⟨g, 0, none⟩), iv ⟨8, o, r, s, t, n, mm⟩, .int .i64 next] w (DoesR (m) 3 S g w) := by
  have H := Lib.hid h
  obtain ⟨⟨l0, l1, l2⟩, f0, f1, f2⟩ := h.facts
  obtain ⟨c0, c1, c2, c3, c4, c5, c6, c7⟩ := h.cells
  have n1 : p.gr ≠ g := h.grg
  have n2 : p.gw ≠ g := h.gwg
  have n3 : p.gr ≠ p.gw := h.rw_
  have r0 : (0 : Int) ≤ (r : Int) := by omega
  have r1 : (r : Int) < 16 := by omega
  have cr := h.reg hr
  have s0 : (0 : Int) ≤ (s : Int) := by omega
  have s1 : (s : Int) < 16 := by omega
  have cs := h.reg hs
  have t0 : (0 : Int) ≤ (t : Int) := by omega
  have t1 : (t : Int) < 16 := by omega
  have ct := h.reg ht
  clear h f0 f1 f2 c0 c3 c4 c5 c6 c7
  unfold iv ic
  go_enter Tryz.func29, Tryz.ntmps29
  go_wp2_with fail
  go_region
  go_wp2_with fail
  go_region
  go_wp2_with fail
  go_ret
  exact does_same rfl rfl (((H.out).al _).dr.dr) (((Keeps.refl S w).al _).dr.dr) H.out.lt
set_option maxRecDepth 100000 in
set_option maxHeartbeats 400000 in
theorem does_pick_above (h : DIn w S g m p) (o n mm next : Int) (r s t : Nat) (hr : r < 16) (hs : s < 16) (ht : t < 16) (hx : ¬ rg m t < 0) (hy : mm ≤ rg m t) :
    Calls Tryz.prog 29 #[.pointer (some ⟨g, 0, none⟩), iv ⟨8, o, r, s, t, n, mm⟩, .int .i64 next] w (DoesR (m) 3 S g w) := by
  have H := Lib.hid h
  obtain ⟨⟨l0, l1, l2⟩, f0, f1, f2⟩ := h.facts
  obtain ⟨c0, c1, c2, c3, c4, c5, c6, c7⟩ := h.cells
  have n1 : p.gr ≠ g := h.grg
  have n2 : p.gw ≠ g := h.gwg
  have n3 : p.gr ≠ p.gw := h.rw_
  have r0 : (0 : Int) ≤ (r : Int) := by omega
  have r1 : (r : Int) < 16 := by omega
  have cr := h.reg hr
  have s0 : (0 : Int) ≤ (s : Int) := by omega
  have s1 : (s : Int) < 16 := by omega
  have cs := h.reg hs
  have t0 : (0 : Int) ≤ (t : Int) := by omega
  have t1 : (t : Int) < 16 := by omega
  have ct := h.reg ht
  have hx2 : decide (rg m t < 0) = false := decide_eq_false hx
  clear h f0 f1 f2 c0 c3 c4 c5 c6 c7
  unfold iv ic
  go_enter Tryz.func29, Tryz.ntmps29
  go_wp2_with fail
  go_region
  go_wp2_with fail
  go_region
  go_wp2_with fail
  go_ret
  exact does_same rfl rfl (((H.out).al _).dr.dr) (((Keeps.refl S w).al _).dr.dr) H.out.lt
set_option maxRecDepth 100000 in
set_option maxHeartbeats 400000 in
theorem does_pick_no (h : DIn w S g m p) (o n mm next : Int) (r s t : Nat) (hr : r < 16) (hs : s < 16) (ht : t < 16) (hx : ¬ rg m t < 0) (hy : ¬ mm ≤ rg m t) (hh : hasW m (wrap64 (wrap64 (rg m s + n) + rg m t)) = false) :
    Calls Tryz.prog 29 #[.pointer (some ⟨g, 0, none⟩), iv ⟨8, o, r, s, t, n, mm⟩, .int .i64 next] w (DoesR (m) 6 S g w) := by
  have H := Lib.hid h
  obtain ⟨⟨l0, l1, l2⟩, f0, f1, f2⟩ := h.facts
  obtain ⟨c0, c1, c2, c3, c4, c5, c6, c7⟩ := h.cells
  have n1 : p.gr ≠ g := h.grg
  have n2 : p.gw ≠ g := h.gwg
  have n3 : p.gr ≠ p.gw := h.rw_
  have r0 : (0 : Int) ≤ (r : Int) := by omega
  have r1 : (r : Int) < 16 := by omega
  have cr := h.reg hr
  have s0 : (0 : Int) ≤ (s : Int) := by omega
  have s1 : (s : Int) < 16 := by omega
  have cs := h.reg hs
  have t0 : (0 : Int) ≤ (t : Int) := by omega
  have t1 : (t : Int) < 16 := by omega
  have ct := h.reg ht
  have hx2 : decide (rg m t < 0) = false := decide_eq_false hx
  clear h f0 f1 f2 c0 c4 c5 c6 c7
  unfold iv ic
  go_enter Tryz.func29, Tryz.ntmps29
  go_wp2_with fail
  go_region
  go_wp2_with fail
  go_region
  go_wp2_with fail
  go_region
  go_wp2_with fail
  refine (there_any (H.out.al _).dr.dr.dr (wrap64 (wrap64 (rg m s + n) + rg m t))).mono ?_
  rintro e w' ⟨rfl, rfl⟩
  rw [hh]
  go_wp2_with fail
  go_ret
  exact does_same rfl rfl (((H.out).al _).dr.dr.dr) (((Keeps.refl S w).al _).dr.dr.dr) H.out.lt
set_option maxRecDepth 100000 in
set_option maxHeartbeats 400000 in
theorem does_lay_below (h : DIn w S g m p) (o n mm next : Int) (r s t : Nat) (hr : r < 16) (hs : s < 16) (ht : t < 16) (hx : rg m t < 0) :
    Calls Tryz.prog 29 #[.pointer (some ⟨g, 0, none⟩), iv ⟨9, o, r, s, t, n, mm⟩, .int .i64 next] w (DoesR (m) 3 S g w) := by
  have H := Lib.hid h
  obtain ⟨⟨l0, l1, l2⟩, f0, f1, f2⟩ := h.facts
  obtain ⟨c0, c1, c2, c3, c4, c5, c6, c7⟩ := h.cells
  have n1 : p.gr ≠ g := h.grg
  have n2 : p.gw ≠ g := h.gwg
  have n3 : p.gr ≠ p.gw := h.rw_
  have r0 : (0 : Int) ≤ (r : Int) := by omega
  have r1 : (r : Int) < 16 := by omega
  have cr := h.reg hr
  have s0 : (0 : Int) ≤ (s : Int) := by omega
  have s1 : (s : Int) < 16 := by omega
  have cs := h.reg hs
  have t0 : (0 : Int) ≤ (t : Int) := by omega
  have t1 : (t : Int) < 16 := by omega
  have ct := h.reg ht
  clear h f0 f1 f2 c0 c3 c4 c5 c6 c7
  unfold iv ic
  go_enter Tryz.func29, Tryz.ntmps29
  go_wp2_with fail
  go_region
  go_wp2_with fail
  go_region
  go_wp2_with fail
  go_ret
  exact does_same rfl rfl (((H.out).al _).dr.dr) (((Keeps.refl S w).al _).dr.dr) H.out.lt
set_option maxRecDepth 100000 in
set_option maxHeartbeats 400000 in
theorem does_lay_above (h : DIn w S g m p) (o n mm next : Int) (r s t : Nat) (hr : r < 16) (hs : s < 16) (ht : t < 16) (hx : ¬ rg m t < 0) (hy : mm ≤ rg m t) :
    Calls Tryz.prog 29 #[.pointer (some ⟨g, 0, none⟩), iv ⟨9, o, r, s, t, n, mm⟩, .int .i64 next] w (DoesR (m) 3 S g w) := by
  have H := Lib.hid h
  obtain ⟨⟨l0, l1, l2⟩, f0, f1, f2⟩ := h.facts
  obtain ⟨c0, c1, c2, c3, c4, c5, c6, c7⟩ := h.cells
  have n1 : p.gr ≠ g := h.grg
  have n2 : p.gw ≠ g := h.gwg
  have n3 : p.gr ≠ p.gw := h.rw_
  have r0 : (0 : Int) ≤ (r : Int) := by omega
  have r1 : (r : Int) < 16 := by omega
  have cr := h.reg hr
  have s0 : (0 : Int) ≤ (s : Int) := by omega
  have s1 : (s : Int) < 16 := by omega
  have cs := h.reg hs
  have t0 : (0 : Int) ≤ (t : Int) := by omega
  have t1 : (t : Int) < 16 := by omega
  have ct := h.reg ht
  have hx2 : decide (rg m t < 0) = false := decide_eq_false hx
  clear h f0 f1 f2 c0 c3 c4 c5 c6 c7
  unfold iv ic
  go_enter Tryz.func29, Tryz.ntmps29
  go_wp2_with fail
  go_region
  go_wp2_with fail
  go_region
  go_wp2_with fail
  go_ret
  exact does_same rfl rfl (((H.out).al _).dr.dr) (((Keeps.refl S w).al _).dr.dr) H.out.lt
set_option maxRecDepth 100000 in
set_option maxHeartbeats 400000 in
theorem does_lay_no (h : DIn w S g m p) (o n mm next : Int) (r s t : Nat) (hr : r < 16) (hs : s < 16) (ht : t < 16) (hx : ¬ rg m t < 0) (hy : ¬ mm ≤ rg m t) (hh : hasW m (wrap64 (wrap64 (rg m s + n) + rg m t)) = false) :
    Calls Tryz.prog 29 #[.pointer (some ⟨g, 0, none⟩), iv ⟨9, o, r, s, t, n, mm⟩, .int .i64 next] w (DoesR (m) 6 S g w) := by
  have H := Lib.hid h
  obtain ⟨⟨l0, l1, l2⟩, f0, f1, f2⟩ := h.facts
  obtain ⟨c0, c1, c2, c3, c4, c5, c6, c7⟩ := h.cells
  have n1 : p.gr ≠ g := h.grg
  have n2 : p.gw ≠ g := h.gwg
  have n3 : p.gr ≠ p.gw := h.rw_
  have r0 : (0 : Int) ≤ (r : Int) := by omega
  have r1 : (r : Int) < 16 := by omega
  have cr := h.reg hr
  have s0 : (0 : Int) ≤ (s : Int) := by omega
  have s1 : (s : Int) < 16 := by omega
  have cs := h.reg hs
  have t0 : (0 : Int) ≤ (t : Int) := by omega
  have t1 : (t : Int) < 16 := by omega
  have ct := h.reg ht
  have hx2 : decide (rg m t < 0) = false := decide_eq_false hx
  clear h f0 f1 f2 c0 c4 c5 c6 c7
  unfold iv ic
  go_enter Tryz.func29, Tryz.ntmps29
  go_wp2_with fail
  go_region
  go_wp2_with fail
  go_region
  go_wp2_with fail
  go_region
  go_wp2_with fail
  refine (there_any (H.out.al _).dr.dr.dr (wrap64 (wrap64 (rg m s + n) + rg m t))).mono ?_
  rintro e w' ⟨rfl, rfl⟩
  rw [hh]
  go_wp2_with fail
  go_ret
  exact does_same rfl rfl (((H.out).al _).dr.dr.dr) (((Keeps.refl S w).al _).dr.dr.dr) H.out.lt
set_option maxRecDepth 100000 in
set_option maxHeartbeats 400000 in
theorem does_pick (h : DIn w S g m p) (o n mm next : Int) (r s t k : Nat) (hr : r < 16) (hs : s < 16) (ht : t < 16) (hx : ¬ rg m t < 0) (hy : ¬ mm ≤ rg m t) (hk : wrap64 (wrap64 (rg m s + n) + rg m t) = (k : Int)) (hkl : k < m.words.length) :
    Calls Tryz.prog 29 #[.pointer (some ⟨g, 0, none⟩), iv ⟨8, o, r, s, t, n, mm⟩, .int .i64 next] w (DoesR ({ setR m r (wd m k) with pc := next }) 0 S g w) := by
  have H := Lib.hid h
  obtain ⟨⟨l0, l1, l2⟩, f0, f1, f2⟩ := h.facts
  obtain ⟨c0, c1, c2, c3, c4, c5, c6, c7⟩ := h.cells
  have n1 : p.gr ≠ g := h.grg
  have n2 : p.gw ≠ g := h.gwg
  have n3 : p.gr ≠ p.gw := h.rw_
  have r0 : (0 : Int) ≤ (r : Int) := by omega
  have r1 : (r : Int) < 16 := by omega
  have cr := h.reg hr
  have s0 : (0 : Int) ≤ (s : Int) := by omega
  have s1 : (s : Int) < 16 := by omega
  have cs := h.reg hs
  have t0 : (0 : Int) ≤ (t : Int) := by omega
  have t1 : (t : Int) < 16 := by omega
  have ct := h.reg ht
  have fp := f0 1
  have fr := f1 r
  have hx2 : decide (rg m t < 0) = false := decide_eq_false hx
  have hkl2 := h.word hkl
  have hhk : hasW m (k : Int) = true := decide_eq_true ⟨by omega, by omega⟩
  have k0 : (0 : Int) ≤ (k : Int) := by omega
  have k1 : (k : Int) < (m.words.length : Int) := by omega
  clear h f0 f1 f2 c0 c4 c5 c6 c7
  unfold iv ic
  go_enter Tryz.func29, Tryz.ntmps29
  go_wp2_with fail
  go_region
  go_wp2_with fail
  go_region
  go_wp2_with fail
  go_region
  go_wp2_with fail
  refine (there_any (H.out.al _).dr.dr.dr ((k : Int))).mono ?_
  rintro e w' ⟨rfl, rfl⟩
  rw [hhk]
  go_wp2_with fail
  go_region
  go_wp2_with fail
  go_ret
  exact does_same rfl rfl ((((H.out.setReg hr (wd m k)).setPc next).al _).dr.dr.dr.dr) (((((Keeps.refl S w).st H.out.grS _ _).st H.out.mem _ _).al _).dr.dr.dr.dr) H.out.lt
set_option maxRecDepth 100000 in
set_option maxHeartbeats 400000 in
theorem does_lay (h : DIn w S g m p) (o n mm next : Int) (r s t k : Nat) (hr : r < 16) (hs : s < 16) (ht : t < 16) (hx : ¬ rg m t < 0) (hy : ¬ mm ≤ rg m t) (hk : wrap64 (wrap64 (rg m s + n) + rg m t) = (k : Int)) (hkl : k < m.words.length) :
    Calls Tryz.prog 29 #[.pointer (some ⟨g, 0, none⟩), iv ⟨9, o, r, s, t, n, mm⟩, .int .i64 next] w (DoesR ({ setW m k (rg m r) with pc := next }) 0 S g w) := by
  have H := Lib.hid h
  obtain ⟨⟨l0, l1, l2⟩, f0, f1, f2⟩ := h.facts
  obtain ⟨c0, c1, c2, c3, c4, c5, c6, c7⟩ := h.cells
  have n1 : p.gr ≠ g := h.grg
  have n2 : p.gw ≠ g := h.gwg
  have n3 : p.gr ≠ p.gw := h.rw_
  have r0 : (0 : Int) ≤ (r : Int) := by omega
  have r1 : (r : Int) < 16 := by omega
  have cr := h.reg hr
  have s0 : (0 : Int) ≤ (s : Int) := by omega
  have s1 : (s : Int) < 16 := by omega
  have cs := h.reg hs
  have t0 : (0 : Int) ≤ (t : Int) := by omega
  have t1 : (t : Int) < 16 := by omega
  have ct := h.reg ht
  have fp := f0 1
  have fw := f2 k
  have hx2 : decide (rg m t < 0) = false := decide_eq_false hx
  have hkl2 := h.word hkl
  have hhk : hasW m (k : Int) = true := decide_eq_true ⟨by omega, by omega⟩
  have k0 : (0 : Int) ≤ (k : Int) := by omega
  have k1 : (k : Int) < (m.words.length : Int) := by omega
  clear h f0 f1 f2 c0 c4 c5 c6 c7
  unfold iv ic
  go_enter Tryz.func29, Tryz.ntmps29
  go_wp2_with fail
  go_region
  go_wp2_with fail
  go_region
  go_wp2_with fail
  go_region
  go_wp2_with fail
  refine (there_any (H.out.al _).dr.dr.dr ((k : Int))).mono ?_
  rintro e w' ⟨rfl, rfl⟩
  rw [hhk]
  go_wp2_with fail
  go_region
  go_wp2_with fail
  go_ret
  exact does_same rfl rfl ((((H.out.setWord k (rg m r)).setPc next).al _).dr.dr.dr.dr) (((((Keeps.refl S w).st H.out.gwS _ _).st H.out.mem _ _).al _).dr.dr.dr.dr) H.out.lt
end
end Go.Proofs.YtdnpoeegefkoiaaGreat
