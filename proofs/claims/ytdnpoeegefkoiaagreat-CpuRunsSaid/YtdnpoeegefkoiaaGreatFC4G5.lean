/-
  Merged for a claim: C4G5.
-/
import Derived.Test.YtdnpoeegefkoiaaGreatFJ4
import Derived.StillTailTactics
import Derived.RegionTactic
import Derived.Deep.RegionHeld3
namespace Go.Proofs.YtdnpoeegefkoiaaGreat
open Go Go.RowKit

section
variable {w : World} {S : Nat → Prop} {g : Nat} {m : Mc} {p : Mp}
set_option maxRecDepth 100000 in
set_option maxHeartbeats 1000000 in
theorem done_call_stack (h : MIn w S g m p) (o r s t n mm next : Int) (hin : wrap64 (rg m 15 - 1) < 0) :
    Calls Tryz.prog 39 #[.pointer (some ⟨g, 0, none⟩), iv ⟨12, o, r, s, t, n, mm⟩, .int .i64 next] w (DoneE (7) (0) w) := by
  have H := Lib.hid h
  have hlt := h.lt g h.mem
  have HB := Lib.hid (below_box w (.cells #[.int .u8 12, .int .u8 o, .int .i64 r, .int .i64 s, .int .i64 t, .int .i64 n, .int .i64 mm] 53))
  have HP := Lib.hid (fun (W : World) (hb : Below w.heap.size w W) => push_stack g W (rg m 15) next (h.below hb).cells.2.2.1 hin)
  clear hin
  clear h
  unfold iv ic
  go_enter Tryz.func39, Tryz.ntmps39
  go_wp2_with fail
  refine (HP.out _ HB.out).mono ?_
  rintro e w' ⟨rfl, rfl⟩
  go_wp2
  exact ⟨rfl, rfl, HB.out⟩
set_option maxRecDepth 100000 in
set_option maxHeartbeats 1000000 in
theorem done_call_no (h : MIn w S g m p) (o r s t n mm next : Int) (h0 : ¬ wrap64 (rg m 15 - 1) < 0) (h1 : ¬ wrap64 (rg m 15 - 1) < m.words.length) :
    Calls Tryz.prog 39 #[.pointer (some ⟨g, 0, none⟩), iv ⟨12, o, r, s, t, n, mm⟩, .int .i64 next] w (DoneE (6) (0) w) := by
  have H := Lib.hid h
  have hlt := h.lt g h.mem
  have HB := Lib.hid (below_box w (.cells #[.int .u8 12, .int .u8 o, .int .i64 r, .int .i64 s, .int .i64 t, .int .i64 n, .int .i64 mm] 53))
  have HP := Lib.hid (fun (W : World) (hb : Below w.heap.size w W) => push_no g p.gw m.words.length W (rg m 15) next (h.below hb).cells.2.2.1 (h.below hb).cells.2.2.2.1 h0 h1)
  clear h0 h1
  clear h
  unfold iv ic
  go_enter Tryz.func39, Tryz.ntmps39
  go_wp2_with fail
  refine (HP.out _ HB.out).mono ?_
  rintro e w' ⟨rfl, rfl⟩
  go_wp2
  exact ⟨rfl, rfl, HB.out⟩
set_option maxRecDepth 100000 in
set_option maxHeartbeats 1000000 in
theorem done_ret_no (h : MIn w S g m p) (o r s t n mm next : Int) (h0 : ¬ (0 ≤ rg m 15 ∧ rg m 15 < m.words.length)) :
    Calls Tryz.prog 39 #[.pointer (some ⟨g, 0, none⟩), iv ⟨13, o, r, s, t, n, mm⟩, .int .i64 next] w (DoneE (6) (0) w) := by
  have H := Lib.hid h
  have hlt := h.lt g h.mem
  have HB := Lib.hid (below_box w (.cells #[.int .u8 13, .int .u8 o, .int .i64 r, .int .i64 s, .int .i64 t, .int .i64 n, .int .i64 mm] 53))
  have HP := Lib.hid (fun (W : World) (hb : Below w.heap.size w W) => back_no g p.gw m.words.length W (rg m 15) (h.below hb).cells.2.2.1 (h.below hb).cells.2.2.2.1 h0)
  clear h0
  clear h
  unfold iv ic
  go_enter Tryz.func39, Tryz.ntmps39
  go_wp2_with fail
  refine (HP.out _ HB.out).mono ?_
  rintro e w' ⟨rfl, rfl⟩
  go_wp2
  exact ⟨rfl, rfl, HB.out⟩
set_option maxRecDepth 100000 in
set_option maxHeartbeats 1000000 in
theorem done_ret_code (h : MIn w S g m p) (o r s t n mm next : Int) (h0 : 0 ≤ rg m 15) (h1 : rg m 15 < m.words.length) (hx : wd m (rg m 15) < 0 ∨ 16777216 ≤ wd m (rg m 15)) :
    Calls Tryz.prog 39 #[.pointer (some ⟨g, 0, none⟩), iv ⟨13, o, r, s, t, n, mm⟩, .int .i64 next] w (DoneE (5) (0) w) := by
  have H := Lib.hid h
  have hlt := h.lt g h.mem
  have HB := Lib.hid (below_box w (.cells #[.int .u8 13, .int .u8 o, .int .i64 r, .int .i64 s, .int .i64 t, .int .i64 n, .int .i64 mm] 53))
  have HP := Lib.hid (fun (W : World) (hb : Below w.heap.size w W) => back_code g p.gw m.words.length W (rg m 15) (wd m (rg m 15)) (h.below hb).cells.2.2.1 (h.below hb).cells.2.2.2.1 h0 h1 (by have := (h.below hb).word (a := (rg m 15).toNat) (by omega); rwa [wd_nat] at this) hx)
  clear h0 h1 hx
  clear h
  unfold iv ic
  go_enter Tryz.func39, Tryz.ntmps39
  go_wp2_with fail
  refine (HP.out _ HB.out).mono ?_
  rintro e w' ⟨rfl, rfl⟩
  go_wp2
  exact ⟨rfl, rfl, HB.out⟩
set_option maxRecDepth 100000 in
set_option maxHeartbeats 1000000 in
theorem done_frame_stack (h : MIn w S g m p) (o r s t n mm next : Int) (h0 : wrap64 (rg m 15 - n) < 0) :
    Calls Tryz.prog 39 #[.pointer (some ⟨g, 0, none⟩), iv ⟨14, o, r, s, t, n, mm⟩, .int .i64 next] w (DoneE (7) (0) w) := by
  have H := Lib.hid h
  have hlt := h.lt g h.mem
  have HB := Lib.hid (below_box w (.cells #[.int .u8 14, .int .u8 o, .int .i64 r, .int .i64 s, .int .i64 t, .int .i64 n, .int .i64 mm] 53))
  have HP := Lib.hid (fun (W : World) (hb : Below w.heap.size w W) => frame_stack g W (rg m 15) n (h.below hb).cells.2.2.1 h0)
  clear h0
  clear h
  unfold iv ic
  go_enter Tryz.func39, Tryz.ntmps39
  go_wp2_with fail
  refine (HP.out _ HB.out).mono ?_
  rintro e w' ⟨rfl, rfl⟩
  go_wp2
  exact ⟨rfl, rfl, HB.out⟩
set_option maxRecDepth 100000 in
set_option maxHeartbeats 1000000 in
theorem done_frame_no (h : MIn w S g m p) (o r s t n mm next : Int) (h0 : ¬ wrap64 (rg m 15 - n) < 0) (h1 : (m.words.length : Int) < wrap64 (rg m 15 - n)) :
    Calls Tryz.prog 39 #[.pointer (some ⟨g, 0, none⟩), iv ⟨14, o, r, s, t, n, mm⟩, .int .i64 next] w (DoneE (6) (0) w) := by
  have H := Lib.hid h
  have hlt := h.lt g h.mem
  have HB := Lib.hid (below_box w (.cells #[.int .u8 14, .int .u8 o, .int .i64 r, .int .i64 s, .int .i64 t, .int .i64 n, .int .i64 mm] 53))
  have HP := Lib.hid (fun (W : World) (hb : Below w.heap.size w W) => frame_no g p.gw m.words.length W (rg m 15) n (h.below hb).cells.2.2.1 (h.below hb).cells.2.2.2.1 h0 h1)
  clear h0 h1
  clear h
  unfold iv ic
  go_enter Tryz.func39, Tryz.ntmps39
  go_wp2_with fail
  refine (HP.out _ HB.out).mono ?_
  rintro e w' ⟨rfl, rfl⟩
  go_wp2
  exact ⟨rfl, rfl, HB.out⟩
set_option maxRecDepth 100000 in
set_option maxHeartbeats 1000000 in
theorem done_frame (h : MIn w S g m p) (o r s t n mm next : Int) (h0 : ¬ wrap64 (rg m 15 - n) < 0) (h1 : ¬ (m.words.length : Int) < wrap64 (rg m 15 - n)) :
    Calls Tryz.prog 39 #[.pointer (some ⟨g, 0, none⟩), iv ⟨14, o, r, s, t, n, mm⟩, .int .i64 next] w (DoneT m S g ⟨14, o, r, s, t, n, mm⟩ next w) := by
  have H := Lib.hid h
  have hlt := h.lt g h.mem
  have HB := Lib.hid (below_box w (.cells #[.int .u8 14, .int .u8 o, .int .i64 r, .int .i64 s, .int .i64 t, .int .i64 n, .int .i64 mm] 53))
  have HP := Lib.hid (fun (W : World) (hb : Below w.heap.size w W) => frame_yes g p.gw m.words.length W (rg m 15) n (h.below hb).cells.2.2.1 (h.below hb).cells.2.2.2.1 h0 h1 ((h.below hb).frozen 17))
  have HM := Lib.hid (h.below (below_box w (.cells #[.int .u8 14, .int .u8 o, .int .i64 r, .int .i64 s, .int .i64 t, .int .i64 n, .int .i64 mm] 53)))
  clear h0 h1
  clear h
  unfold iv ic
  go_enter Tryz.func39, Tryz.ntmps39
  go_wp2_with fail
  refine (HP.out _ HB.out).mono ?_
  rintro e w' ⟨rfl, rfl⟩
  go_wp2_with fail
  go_ret
  exact doneT rfl rfl ((H.out.setReg (r := 15) (by omega) _).box0 _) ((Keeps.set g _ _ H.out.mem _).box0 _) H.out.lt
set_option maxRecDepth 100000 in
set_option maxHeartbeats 1000000 in
theorem done_ret (h : MIn w S g m p) (o r s t n mm next : Int) (h0 : 0 ≤ rg m 15) (h1 : rg m 15 < m.words.length) (hn : m.words.length ≤ 65536) (hx0 : 0 ≤ wd m (rg m 15)) (hx1 : wd m (rg m 15) < 16777216) :
    Calls Tryz.prog 39 #[.pointer (some ⟨g, 0, none⟩), iv ⟨13, o, r, s, t, n, mm⟩, .int .i64 next] w (DoneT m S g ⟨13, o, r, s, t, n, mm⟩ next w) := by
  have H := Lib.hid h
  have hlt := h.lt g h.mem
  have HB := Lib.hid (below_box w (.cells #[.int .u8 13, .int .u8 o, .int .i64 r, .int .i64 s, .int .i64 t, .int .i64 n, .int .i64 mm] 53))
  have HP := Lib.hid (fun (W : World) (hb : Below w.heap.size w W) => back_yes g p.gw m.words.length W (rg m 15) (wd m (rg m 15)) (h.below hb).cells.2.2.1 (h.below hb).cells.2.2.2.1 h0 h1 hn (by have := (h.below hb).word (a := (rg m 15).toNat) (by omega); rwa [wd_nat] at this) hx0 hx1 ((h.below hb).frozen 17))
  have HM := Lib.hid (h.below (below_box w (.cells #[.int .u8 13, .int .u8 o, .int .i64 r, .int .i64 s, .int .i64 t, .int .i64 n, .int .i64 mm] 53)))
  clear h0 h1 hn hx0 hx1
  clear h
  unfold iv ic
  go_enter Tryz.func39, Tryz.ntmps39
  go_wp2_with fail
  refine (HP.out _ HB.out).mono ?_
  rintro e w' ⟨rfl, d, rfl⟩
  go_wp2_with fail
  go_ret
  exact doneT rfl rfl (((H.out.setReg (r := 15) (by omega) _).box0 _).below (below_draws d)) (((Keeps.set g _ _ H.out.mem _).box0 _).trans (Keeps.of_below (below_draws d)) fun _ hs => .inl hs) H.out.lt
set_option maxRecDepth 100000 in
set_option maxHeartbeats 1000000 in
theorem done_call (h : MIn w S g m p) (o r s t n mm next : Int) (h0 : ¬ wrap64 (rg m 15 - 1) < 0) (h1 : wrap64 (rg m 15 - 1) < m.words.length) :
    Calls Tryz.prog 39 #[.pointer (some ⟨g, 0, none⟩), iv ⟨12, o, r, s, t, n, mm⟩, .int .i64 next] w (DoneT m S g ⟨12, o, r, s, t, n, mm⟩ next w) := by
  have H := Lib.hid h
  have hlt := h.lt g h.mem
  have HB := Lib.hid (below_box w (.cells #[.int .u8 12, .int .u8 o, .int .i64 r, .int .i64 s, .int .i64 t, .int .i64 n, .int .i64 mm] 53))
  have HP := Lib.hid (fun (W : World) (hb : Below w.heap.size w W) => push_yes g p.gw m.words.length W (rg m 15) next (h.below hb).cells.2.2.1 (h.below hb).cells.2.2.2.1 h0 h1 ⟨_, (h.below hb).word (a := (wrap64 (rg m 15 - 1)).toNat) (by omega)⟩ ((h.below hb).words.frozen _) ((h.below hb).frozen 17) h.gwg)
  have HM := Lib.hid (h.below (below_box w (.cells #[.int .u8 12, .int .u8 o, .int .i64 r, .int .i64 s, .int .i64 t, .int .i64 n, .int .i64 mm] 53)))
  have HX := Lib.hid (setW_nat m (wrap64 (rg m 15 - 1)) next)
  clear h0 h1
  clear h
  unfold iv ic
  go_enter Tryz.func39, Tryz.ntmps39
  go_wp2_with fail
  refine (HP.out _ HB.out).mono ?_
  rintro e w' ⟨rfl, rfl⟩
  have HS := HM.out.setWord (wrap64 (rg m 15 - 1)).toNat next
  rw [HX.out] at HS
  have HS2 := Lib.hid (HS.setReg (r := 15) (by omega) (wrap64 (rg m 15 - 1)))
  have HK := Lib.hid ((Keeps.set (S := S) p.gw (wrap64 (rg m 15 - 1)).toNat (.int .i64 next) H.out.gwS (w.alloc (.cells #[.int .u8 12, .int .u8 o, .int .i64 r, .int .i64 s, .int .i64 t, .int .i64 n, .int .i64 mm] 53))).trans (Keeps.set (S := S) g 17 (.int .i64 (wrap64 (rg m 15 - 1))) H.out.mem _) fun _ hs => .inl hs)
  clear HS
  have hbx := box_cell3 w ⟨p.gw, (wrap64 (rg m 15 - 1)).toNat, none⟩ ⟨g, 17, none⟩ (.int .i64 next) (.int .i64 (wrap64 (rg m 15 - 1))) #[.int .u8 12, .int .u8 o, .int .i64 r, .int .i64 s, .int .i64 t, .int .i64 n, .int .i64 mm] 53 5 (H.out.lt _ H.out.gwS) hlt rfl
  go_wp2_with fail
  go_ret
  exact doneT rfl rfl HS2.out ((Keeps.of_below HB.out).trans HK.out fun _ hs => .inl hs) H.out.lt
end

end Go.Proofs.YtdnpoeegefkoiaaGreat
