/-
  The laws' anchor of layer 11: works answers true.
-/
import Derived.Test.YtmajhmionghccaaDoorTKI
import Derived.KernelRfl
import Derived.Lib.SlBytesConst
namespace Go.Proofs.YtmajhmionghccaaDoor
open Go Go.RowKit

def wA11 : List UInt8 := [105, 102, 32, 97, 60, 61, 98, 123, 47, 47, 99, 10, 112, 114, 105, 110, 116, 40, 57, 41]
def wB11 : List UInt8 := [120, 49, 32, 61, 32, 48, 55, 59]
def wT11 : List Tk := [⟨3, [105, 102], 0, 1⟩, ⟨1, [97], 0, 1⟩, ⟨4, [60, 61], 0, 1⟩, ⟨1, [98], 0, 1⟩, ⟨4, [123], 0, 1⟩, ⟨3, [112, 114, 105, 110, 116], 0, 2⟩, ⟨4, [40], 0, 2⟩, ⟨2, [57], 9, 2⟩, ⟨4, [41], 0, 2⟩]
theorem w11_scan : scanP wA11 = .ok wT11 := by kernel_rfl
theorem w11_bad : scanP wB11 = .error 1 := by kernel_rfl
theorem lies_mk (w : World) (t : TypeId) (l : List UInt8) (cs : Array Value) {fr : Nat × Nat} (hcs : cs.toList = l.map b8) : Lies (w.alloc (.cells cs t fr)) (w.alloc (.cells cs t fr)).heap.size (some ⟨w.heap.size, 0, none⟩) l := by
  intro _
  refine ⟨_, _, rfl, by simp, fun j hj => ?_⟩
  have hh := heap_alloc_new w (.cells cs t fr)
  have : cs[j]? = some (b8 l[j]) := by rw [← Array.getElem?_toList, hcs]; simp [hj]
  simp only [World.cell?, hh]
  simpa [b8] using this
set_option maxRecDepth 100000 in
set_option maxHeartbeats 8000000 in
theorem works_any (w : World) (hL : Laid w) : Calls Tryd.prog 7 #[] w fun e w' => e = .returned (.bool true) ∧ Below w.heap.size w w' := by
  have hb0 : Below w.heap.size w (w.alloc (.cells #[.int .u8 105, .int .u8 102, .int .u8 32, .int .u8 97, .int .u8 60, .int .u8 61, .int .u8 98, .int .u8 123, .int .u8 47, .int .u8 47, .int .u8 99, .int .u8 10, .int .u8 112, .int .u8 114, .int .u8 105, .int .u8 110, .int .u8 116, .int .u8 40, .int .u8 57, .int .u8 41] 5 (20, 21))) := (Below.refl _ _).alloc (Nat.le_refl _) _
  have H1 := Lib.hid (scan_any (some ⟨w.heap.size, 0, none⟩) 20 wA11 _ (lies_mk w 5 wA11 #[.int .u8 105, .int .u8 102, .int .u8 32, .int .u8 97, .int .u8 60, .int .u8 61, .int .u8 98, .int .u8 123, .int .u8 47, .int .u8 47, .int .u8 99, .int .u8 10, .int .u8 112, .int .u8 114, .int .u8 105, .int .u8 110, .int .u8 116, .int .u8 40, .int .u8 57, .int .u8 41] rfl) (hL.below hb0) (by decide))
  have HB0 := Lib.hid hb0
  have HL := Lib.hid hL
  have e1 : wA11.length = 20 := rfl
  rw [e1] at H1
  clear hb0 hL e1
  have hcv := Lib.run_convert_bytes_const w 22 5 #[.int .u8 105, .int .u8 102, .int .u8 32, .int .u8 97, .int .u8 60, .int .u8 61, .int .u8 98, .int .u8 123, .int .u8 47, .int .u8 47, .int .u8 99, .int .u8 10, .int .u8 112, .int .u8 114, .int .u8 105, .int .u8 110, .int .u8 116, .int .u8 40, .int .u8 57, .int .u8 41] 20 20 Tryd.underlying22 Tryd.underlying5
  simp only [List.size_toArray, List.length_cons, List.length_nil, Nat.zero_add, Nat.reduceAdd] at hcv
  go_enter Tryd.func7, Tryd.ntmps7
  go_wp2_with fail
  refine H1.out.mono ?_
  rintro e w1 ⟨hb1, hres⟩
  rcases hres with ⟨h, _⟩ | ⟨_, ⟨k, h, _⟩ | ⟨ts, v, h, rfl, ho⟩⟩
  · exact absurd h (by decide)
  · rw [w11_scan] at h
    cases h
  rw [w11_scan] at h
  injection h with h
  subst h
  obtain ⟨A, c, rfl, hc1, hc2, hT⟩ := ho.form
  have hB1 := HB0.out.trans (hb1.mono HB0.out.size)
  have hbX : Below w1.heap.size w1 (w1.alloc (.cells #[.int .u8 120, .int .u8 49, .int .u8 32, .int .u8 61, .int .u8 32, .int .u8 48, .int .u8 55, .int .u8 59] 5 (8, 9))) := (Below.refl _ _).alloc (Nat.le_refl _) _
  have HBX := Lib.hid (hB1.trans (hbX.mono hB1.size))
  have HTX := Lib.hid (hT.below hbX)
  have H2 := Lib.hid (scan_any (some ⟨w1.heap.size, 0, none⟩) 8 wB11 _ (lies_mk w1 5 wB11 #[.int .u8 120, .int .u8 49, .int .u8 32, .int .u8 61, .int .u8 32, .int .u8 48, .int .u8 55, .int .u8 59] rfl) (HL.out.below HBX.out) (by decide))
  have e1 : wB11.length = 8 := rfl
  have e2 : wT11.length = 9 := rfl
  rw [e1] at H2
  rw [e2] at hc1 ⊢
  have hcv1 := Lib.run_convert_bytes_const w1 22 5 #[.int .u8 120, .int .u8 49, .int .u8 32, .int .u8 61, .int .u8 32, .int .u8 48, .int .u8 55, .int .u8 59] 8 8 Tryd.underlying22 Tryd.underlying5
  simp only [List.size_toArray, List.length_cons, List.length_nil, Nat.zero_add, Nat.reduceAdd] at hcv1
  clear H1 hb1 ho hT hB1 hbX e1 e2 hcv
  go_wp2_with fail
  refine H2.out.mono ?_
  rintro e w2 ⟨hb2, hres⟩
  rcases hres with ⟨h, _⟩ | ⟨_, ⟨k, h, rfl⟩ | ⟨ts, v, h, _⟩⟩
  · exact absurd h (by decide)
  rotate_left
  · rw [w11_bad] at h
    cases h
  rw [w11_bad] at h
  injection h with h
  subst h
  have hlies := (HTX.out.below hb2).lies
  obtain ⟨g, o, rfl, hg, hcell⟩ := hlies (by decide)
  have c0 : w2.cell? ⟨g, o, none⟩ = some (.int .u8 3) := hcell 0 (by decide) 0 _ rfl
  have c1 : w2.cell? ⟨g, o + 9, none⟩ = some (.string ⟨#[60, 61]⟩) := hcell 2 (by decide) 1 _ rfl
  have c1' : w2.cell? ⟨g, o + 8 + 1, none⟩ = some (.string ⟨#[60, 61]⟩) := c1
  have c2 : w2.cell? ⟨g, o + 23, none⟩ = some (.int .i64 2) := hcell 5 (by decide) 3 _ rfl
  have c2' : w2.cell? ⟨g, o + 20 + 3, none⟩ = some (.int .i64 2) := c2
  have c3 : w2.cell? ⟨g, o + 30, none⟩ = some (.int .i64 9) := hcell 7 (by decide) 2 _ rfl
  have c3' : w2.cell? ⟨g, o + 28 + 2, none⟩ = some (.int .i64 9) := c3
  have HB2 := Lib.hid (HBX.out.trans (hb2.mono HBX.out.size))
  clear hcell hlies H2 HTX hb2
  go_wp2_with fail
  go_ret
  exact ⟨rfl, HB2.out⟩
end Go.Proofs.YtmajhmionghccaaDoor
