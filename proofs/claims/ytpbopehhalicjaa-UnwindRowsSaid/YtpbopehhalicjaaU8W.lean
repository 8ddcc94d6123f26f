/-
  Contract of the law's plain, of ten words and 5.
-/
import Derived.Test.YtpbopehhalicjaaU8X
import Derived.Deep.CutRange
namespace Go.Proofs.Ytpbopehhalicjaa
open Go Go.RowKit

structure Pl (w W : World) (gK gR gv : Nat) (K : List Bool) (R : List Int) (x3 : Value) : Prop where
  hz : CAt W w.heap.size 34 vZ
  hv : CAt W gv 34 [.slice (some ⟨gK, 0, none⟩) 16 16, .slice (some ⟨gR, 0, none⟩) 16 16, .int .i64 0, x3]
  hk : CAt W gK 4 (K.map bV)
  hr : CAt W gR 2 (R.map n7)
  hb : Below w.heap.size w W
  d1 : w.heap.size < gK
  d2 : w.heap.size < gR
  d3 : w.heap.size < gv
  d4 : gK ≠ gR
  d5 : gK ≠ gv
  d6 : gR ≠ gv
section
variable {w W W' : World} {gK gR gv : Nat} {K : List Bool} {R : List Int} {x3 : Value}
theorem pl_start (hz : CAt W w.heap.size 34 vZ) (hk : CAt W gK 4 (madeCells (Value.bool false).cells (16 * 1)).toList) (hr : CAt W gR 2 (madeCells (Value.int .i64 0).cells (16 * 1)).toList) (hv : CAt W gv 34 vZ) (hb : Below w.heap.size w W)
    (d1 : w.heap.size < gK) (d2 : w.heap.size < gR) (d3 : w.heap.size < gv) (d4 : gK ≠ gR) (d5 : gK ≠ gv) (d6 : gR ≠ gv) :
    Hid (Pl w ((((W.setCell ⟨gv, 0, none⟩ (.slice (some ⟨gK, 0, none⟩) 16 16)).setCell ⟨gv, 1, none⟩ (.slice (some ⟨gR, 0, none⟩) 16 16)).setCell ⟨gv, 2, none⟩ (.int .i64 0)).setCell ⟨gv, 3, none⟩ (.slice none 0 0)) gK gR gv (List.replicate 16 false) (List.replicate 16 0) (.slice none 0 0)) := by
  have e1 : (madeCells (Value.bool false).cells (16 * 1)).toList = (List.replicate 16 false).map bV := by kernel_rfl
  have e2 : (madeCells (Value.int .i64 0).cells (16 * 1)).toList = (List.replicate 16 (0 : Int)).map n7 := by kernel_rfl
  rw [e1] at hk
  rw [e2] at hr
  exact ⟨hz.all4o (by omega) _ _ _ _, cat_all4 hv _ _ _ _, hk.all4o d5 _ _ _ _, hr.all4o d6 _ _ _ _, below_all hb (by omega) _ _ _ _, d1, d2, d3, d4, d5, d6⟩
theorem Pl.below (h : Pl w W gK gR gv K R x3) (hb : Below W.heap.size W W') : Pl w W' gK gR gv K R x3 :=
  ⟨h.hz.below hb h.hz.lt, h.hv.below hb h.hv.lt, h.hk.below hb h.hk.lt, h.hr.below hb h.hr.lt, h.hb.trans (hb.mono h.hb.size), h.d1, h.d2, h.d3, h.d4, h.d5, h.d6⟩
theorem Pl.z0 (h : Pl w W gK gR gv K R x3) : W.cell? ⟨gv, 0, none⟩ = some (.slice (some ⟨gK, 0, none⟩) 16 16) := by simpa using h.hv.cell (j := 0) (by simp)
theorem Pl.z1 (h : Pl w W gK gR gv K R x3) : W.cell? ⟨gv, 1, none⟩ = some (.slice (some ⟨gR, 0, none⟩) 16 16) := by simpa using h.hv.cell (j := 1) (by simp)
theorem Pl.z2 (h : Pl w W gK gR gv K R x3) : W.cell? ⟨gv, 2, none⟩ = some (.int .i64 0) := by simpa using h.hv.cell (j := 2) (by simp)
theorem Pl.z3 (h : Pl w W gK gR gv K R x3) : W.cell? ⟨gv, 3, none⟩ = some x3 := by simpa using h.hv.cell (j := 3) (by simp)
theorem Pl.setK (h : Pl w W gK gR gv K R x3) (k : Nat) (b : Bool) : Pl w (W.setCell ⟨gK, k, none⟩ (.bool b)) gK gR gv (K.set k b) R x3 := by
  have d1 := h.d1
  refine ⟨h.hz.other (by dsimp only; omega) _, h.hv.other h.d5.symm _, ?_, h.hr.other h.d4.symm _, h.hb.setCell (p := ⟨gK, k, none⟩) (by dsimp only; omega) _, h.d1, h.d2, h.d3, h.d4, h.d5, h.d6⟩
  have := h.hk.set k (.bool b)
  rw [List.map_set]
  exact this
theorem Pl.setR (h : Pl w W gK gR gv K R x3) (k : Nat) (b : Int) : Pl w (W.setCell ⟨gR, k, none⟩ (.int .i64 b)) gK gR gv K (R.set k b) x3 := by
  have d2 := h.d2
  refine ⟨h.hz.other (by dsimp only; omega) _, h.hv.other h.d6.symm _, h.hk.other h.d4 _, ?_, h.hb.setCell (p := ⟨gR, k, none⟩) (by dsimp only; omega) _, h.d1, h.d2, h.d3, h.d4, h.d5, h.d6⟩
  have := h.hr.set k (.int .i64 b)
  rw [List.map_set]
  exact this
theorem Pl.setV (h : Pl w W gK gR gv K R x3) (u : Value) : Pl w (W.setCell ⟨gv, 3, none⟩ u) gK gR gv K R u := by
  have d3 := h.d3
  refine ⟨h.hz.other (by dsimp only; omega) _, ?_, h.hk.other h.d5 _, h.hr.other h.d6 _, h.hb.setCell (p := ⟨gv, 3, none⟩) (by dsimp only; omega) _, h.d1, h.d2, h.d3, h.d4, h.d5, h.d6⟩
  have := h.hv.set 3 u
  simpa using this
theorem Pl.grown {v : Value} {l : List Int} {B : Nat} (h : Pl w W gK gR gv K R x3) (hg : W.grownBy W' v.ownBlock) (hk : some gK ≠ v.ownBlock) (hr : some gR ≠ v.ownBlock) (hv : some gv ≠ v.ownBlock) (hz : some w.heap.size ≠ v.ownBlock) (_ : SRow W B v l) (hB : w.heap.size ≤ B) (ho : ∀ j, v.ownBlock = some j → B ≤ j) : Pl w W' gK gR gv K R x3 :=
  ⟨(hg.block _ h.hz.lt hz).trans h.hz, (hg.block _ h.hv.lt hv).trans h.hv, (hg.block _ h.hk.lt hk).trans h.hk, (hg.block _ h.hr.lt hr).trans h.hr, h.hb.grown hg h.hb.size (fun j e => by have := ho j e; omega), h.d1, h.d2, h.d3, h.d4, h.d5, h.d6⟩
end
theorem rep_step : ∀ k, k < 16 → (List.replicate k true ++ List.replicate (16 - k) false).set k true = List.replicate (k + 1) true ++ List.replicate (16 - (k + 1)) false := by decide
theorem nlies_any (w : World) (t : TypeId) (x : Int) : NLies7 (w.alloc (.cells #[.int .i64 x] t)) (w.alloc (.cells #[.int .i64 x] t)).heap.size (some ⟨w.heap.size, 0, none⟩) [x] := fun _ => ⟨w.heap.size, 0, rfl, by simp, fun j hj => by
  have h := heap_alloc_new w (.cells #[.int .i64 x] t)
  obtain rfl : j = 0 := by simp at hj; omega
  simp only [World.cell?, h]
  rfl⟩
theorem SRow.set8 {B : Nat} {W : World} {v : Value} {l : List Int} {p : Addr} (h : SRow W B v l) (u : Value) (hp : p.block < B) : SRow (W.setCell p u) B v l := by
  have hlt := h.lt
  refine ⟨h.1, ?_⟩
  rcases h.2 with h0 | ⟨g, cap, cur, rfl, hg, hh, r⟩
  · exact .inl h0
  · exact .inr ⟨g, cap, cur, rfl, hg, (Below.heap_setCell W p u g (fun e => by have := (hlt g rfl).1; omega)).trans hh, r⟩
theorem CLies.all4 {w : World} {B : Nat} {A : Option Addr} {l : List Value} (h : CLies w B A l) {b : Nat} (hp : ∀ a, A = some a → a.block ≠ b) (u0 u1 u2 u3 : Value) : CLies ((((w.setCell ⟨b, 0, none⟩ u0).setCell ⟨b, 1, none⟩ u1).setCell ⟨b, 2, none⟩ u2).setCell ⟨b, 3, none⟩ u3) B A l :=
  (((h.set (p := ⟨b, 0, none⟩) hp u0).set (p := ⟨b, 1, none⟩) hp u1).set (p := ⟨b, 2, none⟩) hp u2).set (p := ⟨b, 3, none⟩) hp u3
def PlainR (w : World) (e : Ending) (w' : World) : Prop :=
  ∃ V : Vw, e = .returned (.agg (vC V)) ∧ VL w' w'.heap.size V ∧ V.K = List.replicate 16 true ∧ V.R = (List.replicate 16 0).set 15 5 ∧ V.W = (List.range 10).map (fun (i : Nat) => (i : Int)) ∧ Below w.heap.size w w'
theorem view_one {fn : Func} {p : Tmp} (h : fn.results = #[.cell p 34]) (tmps : Array Value) (w : World) (g : Nat) (cs : List Value) (hp : tmps.getD p undef = .pointer (some ⟨g, 0, none⟩)) (hs : CAt w g 34 cs) (hl : cs.length = 4) :
    (results fn tmps).run Try.prog w = .ok (.agg cs.toArray) w := by
  have hp' : tmps[p]?.getD undef = .pointer (some ⟨g, 0, none⟩) := by simpa using hp
  simp [results, h, hp', asAddr, run_loadVar_row w g 34 34 cs.toArray (0, 0) _ hs Try.underlying34 rfl (by rw [List.size_toArray, hl]; kernel_rfl)]

set_option maxRecDepth 100000 in
set_option maxHeartbeats 8000000 in
theorem plain8_any (w : World) : Calls Try.prog 9 #[.int .i64 10, .int .i64 5] w (PlainR w) := by
  have hb0 := below_lnew w (.cells vZ.toArray 34)
  have HZ0 := Lib.hid (show CAt (w.alloc (.cells vZ.toArray 34)) w.heap.size 34 vZ from heap_alloc_new w (.cells vZ.toArray 34))
  have HB0 := Lib.hid hb0
  have hW0 : w.heap.size < (w.alloc (.cells vZ.toArray 34)).heap.size := by simp
  unfold vZ at HZ0 HB0 hW0
  try dsimp only at HZ0
  try dsimp only at HB0
  try dsimp only at hW0
  clear hb0
  go_enter Try.func9, Try.ntmps9
  go_upto_region 1 with fail
  generalize w.alloc (.cells #[.slice none 0 0, .slice none 0 0, .int .i64 0, .slice none 0 0] 34) = W0 at *
  go_cut [5] from 8 (fun s5 wx => ∃ gK gR gv, s5 = .pointer (some ⟨gv, 0, none⟩) ∧ Hid (Pl w wx gK gR gv (List.replicate 16 false) (List.replicate 16 0) (.slice none 0 0)))
  case first =>
    refine wp_region_held_drew (S := fun W9 => True) (by kernel_rfl) trivial (fun hHeld => ?_)
    refine wpAnyH_ready (rs := [0, 1, 3]) (by kernel_rfl) (by simp) ?_
    refine AllReadyH.cons rfl (fun K hK => ?_) (AllReadyH.cons rfl (fun K hK => ?_) (AllReadyH.cons rfl (fun K hK => ?_) AllReadyH.nil))
    · rw [if_pos (by kernel_rfl)]
      refine op_make_row W0.drew 32 4 (.const (.int .i64 16)) (.const (.int .i64 16)) rfl _ 1 1 Try.underlying32 bool_info 16 _ _ rfl rfl rfl rfl (by omega) (by omega) ?_
      intro Y_1 hkY hbY hsY
      replace hbY := below_of_drew hbY
      replace hkY : CAt Y_1 W0.heap.size _ _ := hkY
      have HZ_2 := Lib.hid (HZ0.out.below hbY HZ0.out.lt)
      have HB_3 := Lib.hid (HB0.out.trans (hbY.mono HB0.out.size))
      have HK_4 := Lib.hid hkY
      clear hkY hbY hsY
      refine hK.out _ _ trivial (fun hHeld => ?_)
      clear hK K
      (try simp only [Act.put, List.setIfInBounds_toArray])
      have hsz_5 : W0.heap.size < Y_1.heap.size := HK_4.out.lt
      refine wpAnyH_ready (rs := [1, 3]) (by kernel_rfl) (by simp) ?_
      refine AllReadyH.cons rfl (fun K hK => ?_) (AllReadyH.cons rfl (fun K hK => ?_) AllReadyH.nil)
      · rw [if_pos (by kernel_rfl)]
        refine op_make_row Y_1 23 2 (.const (.int .i64 16)) (.const (.int .i64 16)) rfl _ 1 8 Try.underlying23 i64_info 16 _ _ rfl rfl rfl rfl (by omega) (by omega) ?_
        intro Y_6 hkY hbY hsY
        have HZ_7 := Lib.hid (HZ_2.out.below hbY HZ_2.out.lt)
        have HK_8 := Lib.hid (HK_4.out.below hbY HK_4.out.lt)
        have HB_9 := Lib.hid (HB_3.out.trans (hbY.mono HB_3.out.size))
        have HR_10 := Lib.hid hkY
        clear hkY hbY hsY
        refine hK.out _ _ trivial (fun hHeld => ?_)
        clear hK K
        (try simp only [Act.put])
        have hsz_11 : Y_1.heap.size < Y_6.heap.size := HR_10.out.lt
        refine heldTake (i := 2) (d := some 10) (v := ?_) rfl rfl (by kernel_rfl) (by kernel_rfl) (by kernel_rfl) (fun _ _ _ h => h) (by kernel_rfl) ?hyq_1 (by assumption) ?restq_1
        case hyq_1 => (intro W9 hSw; (try dsimp only at hSw); go_simp; try (with_reducible rfl))
        (try simp only [Act.put])
        refine wpAnyH_ready (rs := [3]) (by kernel_rfl) (by simp) ?_
        refine AllReadyH.cons rfl (fun K hK => ?_) AllReadyH.nil
        have hbY := below_lnew Y_6 (.cells #[.slice none 0 0, .slice none 0 0, .int .i64 0, .slice none 0 0] 34)
        have HZ_13 := Lib.hid (HZ_7.out.below hbY HZ_7.out.lt)
        have HK_14 := Lib.hid (HK_8.out.below hbY HK_8.out.lt)
        have HR_15 := Lib.hid (HR_10.out.below hbY HR_10.out.lt)
        have HB_16 := Lib.hid (HB_9.out.trans (hbY.mono HB_9.out.size))
        have HV_17 := Lib.hid (show CAt (Y_6.alloc (.cells #[.slice none 0 0, .slice none 0 0, .int .i64 0, .slice none 0 0] 34)) Y_6.heap.size 34 vZ from heap_alloc_new Y_6 (.cells #[.slice none 0 0, .slice none 0 0, .int .i64 0, .slice none 0 0] 34))
        clear hbY
        go_simp
        obtain ⟨Y_12, hY⟩ : ∃ Y, Y_6.alloc (.cells #[.slice none 0 0, .slice none 0 0, .int .i64 0, .slice none 0 0] 34) = Y := ⟨_, rfl⟩
        rw [hY] at HZ_13 HK_14 HR_15 HV_17 HB_16 ⊢
        refine hK.out _ _ trivial (fun hHeld => ?_)
        clear hY
        clear hK K
        (try simp only [Act.put, List.setIfInBounds_toArray, List.set_cons_zero, List.set_cons_succ])
        have hsz_18 : Y_6.heap.size < Y_12.heap.size := HV_17.out.lt
        refine wpAnyH_ready (rs := [4]) (by kernel_rfl) (by simp) ?_
        refine AllReadyH.cons rfl (fun K hK => ?_) AllReadyH.nil
        have z0 := HV_17.out.cell (j := 0) (by simp [vZ])
        have z1 := HV_17.out.cell (j := 1) (by simp [vZ])
        have z2 := HV_17.out.cell (j := 2) (by simp [vZ])
        have z3 := HV_17.out.cell (j := 3) (by simp [vZ])
        have zf := HV_17.out.frozen
        simp only [vZ, List.getElem_cons_zero, List.getElem_cons_succ] at z0 z1 z2 z3
        go_simp
        refine hK.out _ _ trivial (fun hHeld => ?_)
        clear hK K z0 z1 z2 z3 zf
        (try simp only [Act.put, List.setIfInBounds_toArray, List.set_cons_zero, List.set_cons_succ])
        refine wpAnyH_done (by kernel_rfl) ?_ _
        go_wp2_with fail
        go_meet
        refine ⟨W0.heap.size, Y_1.heap.size, Y_6.heap.size, rfl, ?_⟩
        exact pl_start HZ_13.out HK_14.out HR_15.out HV_17.out HB_16.out (by omega) (by omega) (by omega) (by omega) (by omega) (by omega)
      · have hbY := below_lnew Y_1 (.cells #[.slice none 0 0, .slice none 0 0, .int .i64 0, .slice none 0 0] 34)
        have HZ_20 := Lib.hid (HZ_2.out.below hbY HZ_2.out.lt)
        have HK_21 := Lib.hid (HK_4.out.below hbY HK_4.out.lt)
        have HB_22 := Lib.hid (HB_3.out.trans (hbY.mono HB_3.out.size))
        have HV_23 := Lib.hid (show CAt (Y_1.alloc (.cells #[.slice none 0 0, .slice none 0 0, .int .i64 0, .slice none 0 0] 34)) Y_1.heap.size 34 vZ from heap_alloc_new Y_1 (.cells #[.slice none 0 0, .slice none 0 0, .int .i64 0, .slice none 0 0] 34))
        clear hbY
        go_simp
        obtain ⟨Y_19, hY⟩ : ∃ Y, Y_1.alloc (.cells #[.slice none 0 0, .slice none 0 0, .int .i64 0, .slice none 0 0] 34) = Y := ⟨_, rfl⟩
        rw [hY] at HZ_20 HK_21 HV_23 HB_22 ⊢
        refine hK.out _ _ trivial (fun hHeld => ?_)
        clear hY
        clear hK K
        (try simp only [Act.put, List.setIfInBounds_toArray, List.set_cons_zero, List.set_cons_succ])
        have hsz_24 : Y_1.heap.size < Y_19.heap.size := HV_23.out.lt
        refine wpAnyH_ready (rs := [1]) (by kernel_rfl) (by simp) ?_
        refine AllReadyH.cons rfl (fun K hK => ?_) AllReadyH.nil
        rw [if_pos (by kernel_rfl)]
        refine op_make_row Y_19 23 2 (.const (.int .i64 16)) (.const (.int .i64 16)) rfl _ 1 8 Try.underlying23 i64_info 16 _ _ rfl rfl rfl rfl (by omega) (by omega) ?_
        intro Y_25 hkY hbY hsY
        have HZ_26 := Lib.hid (HZ_20.out.below hbY HZ_20.out.lt)
        have HK_27 := Lib.hid (HK_21.out.below hbY HK_21.out.lt)
        have HV_28 := Lib.hid (HV_23.out.below hbY HV_23.out.lt)
        have HB_29 := Lib.hid (HB_22.out.trans (hbY.mono HB_22.out.size))
        have HR_30 := Lib.hid hkY
        clear hkY hbY hsY
        refine hK.out _ _ trivial (fun hHeld => ?_)
        clear hK K
        (try simp only [Act.put, List.setIfInBounds_toArray])
        have hsz_31 : Y_19.heap.size < Y_25.heap.size := HR_30.out.lt
        refine heldTake (i := 2) (d := some 10) (v := ?_) rfl rfl (by kernel_rfl) (by kernel_rfl) (by kernel_rfl) (fun _ _ _ h => h) (by kernel_rfl) ?hyq_2 (by assumption) ?restq_2
        case hyq_2 => (intro W9 hSw; (try dsimp only at hSw); go_simp; try (with_reducible rfl))
        (try simp only [Act.put])
        refine wpAnyH_ready (rs := [4]) (by kernel_rfl) (by simp) ?_
        refine AllReadyH.cons rfl (fun K hK => ?_) AllReadyH.nil
        have z0 := HV_28.out.cell (j := 0) (by simp [vZ])
        have z1 := HV_28.out.cell (j := 1) (by simp [vZ])
        have z2 := HV_28.out.cell (j := 2) (by simp [vZ])
        have z3 := HV_28.out.cell (j := 3) (by simp [vZ])
        have zf := HV_28.out.frozen
        simp only [vZ, List.getElem_cons_zero, List.getElem_cons_succ] at z0 z1 z2 z3
        go_simp
        refine hK.out _ _ trivial (fun hHeld => ?_)
        clear hK K z0 z1 z2 z3 zf
        (try simp only [Act.put, List.setIfInBounds_toArray, List.set_cons_zero, List.set_cons_succ])
        refine wpAnyH_done (by kernel_rfl) ?_ _
        go_wp2_with fail
        go_meet
        refine ⟨W0.heap.size, Y_19.heap.size, Y_1.heap.size, rfl, ?_⟩
        exact pl_start HZ_26.out HK_27.out HR_30.out HV_28.out HB_29.out (by omega) (by omega) (by omega) (by omega) (by omega) (by omega)
    · rw [if_pos (by kernel_rfl)]
      refine op_make_row W0.drew 23 2 (.const (.int .i64 16)) (.const (.int .i64 16)) rfl _ 1 8 Try.underlying23 i64_info 16 _ _ rfl rfl rfl rfl (by omega) (by omega) ?_
      intro Y_32 hkY hbY hsY
      replace hbY := below_of_drew hbY
      replace hkY : CAt Y_32 W0.heap.size _ _ := hkY
      have HZ_33 := Lib.hid (HZ0.out.below hbY HZ0.out.lt)
      have HB_34 := Lib.hid (HB0.out.trans (hbY.mono HB0.out.size))
      have HR_35 := Lib.hid hkY
      clear hkY hbY hsY
      refine hK.out _ _ trivial (fun hHeld => ?_)
      clear hK K
      (try simp only [Act.put, List.setIfInBounds_toArray])
      have hsz_36 : W0.heap.size < Y_32.heap.size := HR_35.out.lt
      refine wpAnyH_ready (rs := [0, 3]) (by kernel_rfl) (by simp) ?_
      refine AllReadyH.cons rfl (fun K hK => ?_) (AllReadyH.cons rfl (fun K hK => ?_) AllReadyH.nil)
      · rw [if_pos (by kernel_rfl)]
        refine op_make_row Y_32 32 4 (.const (.int .i64 16)) (.const (.int .i64 16)) rfl _ 1 1 Try.underlying32 bool_info 16 _ _ rfl rfl rfl rfl (by omega) (by omega) ?_
        intro Y_37 hkY hbY hsY
        have HZ_38 := Lib.hid (HZ_33.out.below hbY HZ_33.out.lt)
        have HR_39 := Lib.hid (HR_35.out.below hbY HR_35.out.lt)
        have HB_40 := Lib.hid (HB_34.out.trans (hbY.mono HB_34.out.size))
        have HK_41 := Lib.hid hkY
        clear hkY hbY hsY
        refine hK.out _ _ trivial (fun hHeld => ?_)
        clear hK K
        (try simp only [Act.put])
        have hsz_42 : Y_32.heap.size < Y_37.heap.size := HK_41.out.lt
        refine heldTake (i := 2) (d := some 10) (v := ?_) rfl rfl (by kernel_rfl) (by kernel_rfl) (by kernel_rfl) (fun _ _ _ h => h) (by kernel_rfl) ?hyq_3 (by assumption) ?restq_3
        case hyq_3 => (intro W9 hSw; (try dsimp only at hSw); go_simp; try (with_reducible rfl))
        (try simp only [Act.put])
        refine wpAnyH_ready (rs := [3]) (by kernel_rfl) (by simp) ?_
        refine AllReadyH.cons rfl (fun K hK => ?_) AllReadyH.nil
        have hbY := below_lnew Y_37 (.cells #[.slice none 0 0, .slice none 0 0, .int .i64 0, .slice none 0 0] 34)
        have HZ_44 := Lib.hid (HZ_38.out.below hbY HZ_38.out.lt)
        have HK_45 := Lib.hid (HK_41.out.below hbY HK_41.out.lt)
        have HR_46 := Lib.hid (HR_39.out.below hbY HR_39.out.lt)
        have HB_47 := Lib.hid (HB_40.out.trans (hbY.mono HB_40.out.size))
        have HV_48 := Lib.hid (show CAt (Y_37.alloc (.cells #[.slice none 0 0, .slice none 0 0, .int .i64 0, .slice none 0 0] 34)) Y_37.heap.size 34 vZ from heap_alloc_new Y_37 (.cells #[.slice none 0 0, .slice none 0 0, .int .i64 0, .slice none 0 0] 34))
        clear hbY
        go_simp
        obtain ⟨Y_43, hY⟩ : ∃ Y, Y_37.alloc (.cells #[.slice none 0 0, .slice none 0 0, .int .i64 0, .slice none 0 0] 34) = Y := ⟨_, rfl⟩
        rw [hY] at HZ_44 HK_45 HR_46 HV_48 HB_47 ⊢
        refine hK.out _ _ trivial (fun hHeld => ?_)
        clear hY
        clear hK K
        (try simp only [Act.put, List.setIfInBounds_toArray, List.set_cons_zero, List.set_cons_succ])
        have hsz_49 : Y_37.heap.size < Y_43.heap.size := HV_48.out.lt
        refine wpAnyH_ready (rs := [4]) (by kernel_rfl) (by simp) ?_
        refine AllReadyH.cons rfl (fun K hK => ?_) AllReadyH.nil
        have z0 := HV_48.out.cell (j := 0) (by simp [vZ])
        have z1 := HV_48.out.cell (j := 1) (by simp [vZ])
        have z2 := HV_48.out.cell (j := 2) (by simp [vZ])
        have z3 := HV_48.out.cell (j := 3) (by simp [vZ])
        have zf := HV_48.out.frozen
        simp only [vZ, List.getElem_cons_zero, List.getElem_cons_succ] at z0 z1 z2 z3
        go_simp
        refine hK.out _ _ trivial (fun hHeld => ?_)
        clear hK K z0 z1 z2 z3 zf
        (try simp only [Act.put, List.setIfInBounds_toArray, List.set_cons_zero, List.set_cons_succ])
        refine wpAnyH_done (by kernel_rfl) ?_ _
        go_wp2_with fail
        go_meet
        refine ⟨Y_32.heap.size, W0.heap.size, Y_37.heap.size, rfl, ?_⟩
        exact pl_start HZ_44.out HK_45.out HR_46.out HV_48.out HB_47.out (by omega) (by omega) (by omega) (by omega) (by omega) (by omega)
      · have hbY := below_lnew Y_32 (.cells #[.slice none 0 0, .slice none 0 0, .int .i64 0, .slice none 0 0] 34)
        have HZ_51 := Lib.hid (HZ_33.out.below hbY HZ_33.out.lt)
        have HR_52 := Lib.hid (HR_35.out.below hbY HR_35.out.lt)
        have HB_53 := Lib.hid (HB_34.out.trans (hbY.mono HB_34.out.size))
        have HV_54 := Lib.hid (show CAt (Y_32.alloc (.cells #[.slice none 0 0, .slice none 0 0, .int .i64 0, .slice none 0 0] 34)) Y_32.heap.size 34 vZ from heap_alloc_new Y_32 (.cells #[.slice none 0 0, .slice none 0 0, .int .i64 0, .slice none 0 0] 34))
        clear hbY
        go_simp
        obtain ⟨Y_50, hY⟩ : ∃ Y, Y_32.alloc (.cells #[.slice none 0 0, .slice none 0 0, .int .i64 0, .slice none 0 0] 34) = Y := ⟨_, rfl⟩
        rw [hY] at HZ_51 HR_52 HV_54 HB_53 ⊢
        refine hK.out _ _ trivial (fun hHeld => ?_)
        clear hY
        clear hK K
        (try simp only [Act.put, List.setIfInBounds_toArray, List.set_cons_zero, List.set_cons_succ])
        have hsz_55 : Y_32.heap.size < Y_50.heap.size := HV_54.out.lt
        refine wpAnyH_ready (rs := [0]) (by kernel_rfl) (by simp) ?_
        refine AllReadyH.cons rfl (fun K hK => ?_) AllReadyH.nil
        rw [if_pos (by kernel_rfl)]
        refine op_make_row Y_50 32 4 (.const (.int .i64 16)) (.const (.int .i64 16)) rfl _ 1 1 Try.underlying32 bool_info 16 _ _ rfl rfl rfl rfl (by omega) (by omega) ?_
        intro Y_56 hkY hbY hsY
        have HZ_57 := Lib.hid (HZ_51.out.below hbY HZ_51.out.lt)
        have HR_58 := Lib.hid (HR_52.out.below hbY HR_52.out.lt)
        have HV_59 := Lib.hid (HV_54.out.below hbY HV_54.out.lt)
        have HB_60 := Lib.hid (HB_53.out.trans (hbY.mono HB_53.out.size))
        have HK_61 := Lib.hid hkY
        clear hkY hbY hsY
        refine hK.out _ _ trivial (fun hHeld => ?_)
        clear hK K
        (try simp only [Act.put, List.setIfInBounds_toArray])
        have hsz_62 : Y_50.heap.size < Y_56.heap.size := HK_61.out.lt
        refine heldTake (i := 2) (d := some 10) (v := ?_) rfl rfl (by kernel_rfl) (by kernel_rfl) (by kernel_rfl) (fun _ _ _ h => h) (by kernel_rfl) ?hyq_4 (by assumption) ?restq_4
        case hyq_4 => (intro W9 hSw; (try dsimp only at hSw); go_simp; try (with_reducible rfl))
        (try simp only [Act.put])
        refine wpAnyH_ready (rs := [4]) (by kernel_rfl) (by simp) ?_
        refine AllReadyH.cons rfl (fun K hK => ?_) AllReadyH.nil
        have z0 := HV_59.out.cell (j := 0) (by simp [vZ])
        have z1 := HV_59.out.cell (j := 1) (by simp [vZ])
        have z2 := HV_59.out.cell (j := 2) (by simp [vZ])
        have z3 := HV_59.out.cell (j := 3) (by simp [vZ])
        have zf := HV_59.out.frozen
        simp only [vZ, List.getElem_cons_zero, List.getElem_cons_succ] at z0 z1 z2 z3
        go_simp
        refine hK.out _ _ trivial (fun hHeld => ?_)
        clear hK K z0 z1 z2 z3 zf
        (try simp only [Act.put, List.setIfInBounds_toArray, List.set_cons_zero, List.set_cons_succ])
        refine wpAnyH_done (by kernel_rfl) ?_ _
        go_wp2_with fail
        go_meet
        refine ⟨Y_50.heap.size, W0.heap.size, Y_32.heap.size, rfl, ?_⟩
        exact pl_start HZ_57.out HK_61.out HR_58.out HV_59.out HB_60.out (by omega) (by omega) (by omega) (by omega) (by omega) (by omega)
    · have hbY := below_lnew W0 (.cells #[.slice none 0 0, .slice none 0 0, .int .i64 0, .slice none 0 0] 34)
      have HZ_64 := Lib.hid (HZ0.out.below hbY HZ0.out.lt)
      have HB_65 := Lib.hid (HB0.out.trans (hbY.mono HB0.out.size))
      have HV_66 := Lib.hid (show CAt (W0.alloc (.cells #[.slice none 0 0, .slice none 0 0, .int .i64 0, .slice none 0 0] 34)) W0.heap.size 34 vZ from heap_alloc_new W0 (.cells #[.slice none 0 0, .slice none 0 0, .int .i64 0, .slice none 0 0] 34))
      clear hbY
      go_simp
      obtain ⟨Y_63, hY⟩ : ∃ Y, W0.alloc (.cells #[.slice none 0 0, .slice none 0 0, .int .i64 0, .slice none 0 0] 34) = Y := ⟨_, rfl⟩
      rw [hY] at HZ_64 HV_66 HB_65 ⊢
      refine hK.out _ _ trivial (fun hHeld => ?_)
      clear hY
      clear hK K
      (try simp only [Act.put, List.setIfInBounds_toArray, List.set_cons_zero, List.set_cons_succ])
      have hsz_67 : W0.heap.size < Y_63.heap.size := HV_66.out.lt
      refine wpAnyH_ready (rs := [0, 1]) (by kernel_rfl) (by simp) ?_
      refine AllReadyH.cons rfl (fun K hK => ?_) (AllReadyH.cons rfl (fun K hK => ?_) AllReadyH.nil)
      · rw [if_pos (by kernel_rfl)]
        refine op_make_row Y_63.drew 32 4 (.const (.int .i64 16)) (.const (.int .i64 16)) rfl _ 1 1 Try.underlying32 bool_info 16 _ _ rfl rfl rfl rfl (by omega) (by omega) ?_
        intro Y_68 hkY hbY hsY
        replace hbY := below_of_drew hbY
        replace hkY : CAt Y_68 Y_63.heap.size _ _ := hkY
        have HZ_69 := Lib.hid (HZ_64.out.below hbY HZ_64.out.lt)
        have HV_70 := Lib.hid (HV_66.out.below hbY HV_66.out.lt)
        have HB_71 := Lib.hid (HB_65.out.trans (hbY.mono HB_65.out.size))
        have HK_72 := Lib.hid hkY
        clear hkY hbY hsY
        refine hK.out _ _ trivial (fun hHeld => ?_)
        clear hK K
        (try simp only [Act.put, List.setIfInBounds_toArray])
        have hsz_73 : Y_63.heap.size < Y_68.heap.size := HK_72.out.lt
        refine wpAnyH_ready (rs := [1]) (by kernel_rfl) (by simp) ?_
        refine AllReadyH.cons rfl (fun K hK => ?_) AllReadyH.nil
        rw [if_pos (by kernel_rfl)]
        refine op_make_row Y_68 23 2 (.const (.int .i64 16)) (.const (.int .i64 16)) rfl _ 1 8 Try.underlying23 i64_info 16 _ _ rfl rfl rfl rfl (by omega) (by omega) ?_
        intro Y_74 hkY hbY hsY
        have HZ_75 := Lib.hid (HZ_69.out.below hbY HZ_69.out.lt)
        have HK_76 := Lib.hid (HK_72.out.below hbY HK_72.out.lt)
        have HV_77 := Lib.hid (HV_70.out.below hbY HV_70.out.lt)
        have HB_78 := Lib.hid (HB_71.out.trans (hbY.mono HB_71.out.size))
        have HR_79 := Lib.hid hkY
        clear hkY hbY hsY
        refine hK.out _ _ trivial (fun hHeld => ?_)
        clear hK K
        (try simp only [Act.put])
        have hsz_80 : Y_68.heap.size < Y_74.heap.size := HR_79.out.lt
        refine heldTake (i := 2) (d := some 10) (v := ?_) rfl rfl (by kernel_rfl) (by kernel_rfl) (by kernel_rfl) (fun _ _ _ h => h) (by kernel_rfl) ?hyq_5 (by assumption) ?restq_5
        case hyq_5 => (intro W9 hSw; (try dsimp only at hSw); go_simp; try (with_reducible rfl))
        (try simp only [Act.put])
        refine wpAnyH_ready (rs := [4]) (by kernel_rfl) (by simp) ?_
        refine AllReadyH.cons rfl (fun K hK => ?_) AllReadyH.nil
        have z0 := HV_77.out.cell (j := 0) (by simp [vZ])
        have z1 := HV_77.out.cell (j := 1) (by simp [vZ])
        have z2 := HV_77.out.cell (j := 2) (by simp [vZ])
        have z3 := HV_77.out.cell (j := 3) (by simp [vZ])
        have zf := HV_77.out.frozen
        simp only [vZ, List.getElem_cons_zero, List.getElem_cons_succ] at z0 z1 z2 z3
        go_simp
        refine hK.out _ _ trivial (fun hHeld => ?_)
        clear hK K z0 z1 z2 z3 zf
        (try simp only [Act.put, List.setIfInBounds_toArray, List.set_cons_zero, List.set_cons_succ])
        refine wpAnyH_done (by kernel_rfl) ?_ _
        go_wp2_with fail
        go_meet
        refine ⟨Y_63.heap.size, Y_68.heap.size, W0.heap.size, rfl, ?_⟩
        exact pl_start HZ_75.out HK_76.out HR_79.out HV_77.out HB_78.out (by omega) (by omega) (by omega) (by omega) (by omega) (by omega)
      · rw [if_pos (by kernel_rfl)]
        refine op_make_row Y_63.drew 23 2 (.const (.int .i64 16)) (.const (.int .i64 16)) rfl _ 1 8 Try.underlying23 i64_info 16 _ _ rfl rfl rfl rfl (by omega) (by omega) ?_
        intro Y_81 hkY hbY hsY
        replace hbY := below_of_drew hbY
        replace hkY : CAt Y_81 Y_63.heap.size _ _ := hkY
        have HZ_82 := Lib.hid (HZ_64.out.below hbY HZ_64.out.lt)
        have HV_83 := Lib.hid (HV_66.out.below hbY HV_66.out.lt)
        have HB_84 := Lib.hid (HB_65.out.trans (hbY.mono HB_65.out.size))
        have HR_85 := Lib.hid hkY
        clear hkY hbY hsY
        refine hK.out _ _ trivial (fun hHeld => ?_)
        clear hK K
        (try simp only [Act.put, List.setIfInBounds_toArray])
        have hsz_86 : Y_63.heap.size < Y_81.heap.size := HR_85.out.lt
        refine wpAnyH_ready (rs := [0]) (by kernel_rfl) (by simp) ?_
        refine AllReadyH.cons rfl (fun K hK => ?_) AllReadyH.nil
        rw [if_pos (by kernel_rfl)]
        refine op_make_row Y_81 32 4 (.const (.int .i64 16)) (.const (.int .i64 16)) rfl _ 1 1 Try.underlying32 bool_info 16 _ _ rfl rfl rfl rfl (by omega) (by omega) ?_
        intro Y_87 hkY hbY hsY
        have HZ_88 := Lib.hid (HZ_82.out.below hbY HZ_82.out.lt)
        have HR_89 := Lib.hid (HR_85.out.below hbY HR_85.out.lt)
        have HV_90 := Lib.hid (HV_83.out.below hbY HV_83.out.lt)
        have HB_91 := Lib.hid (HB_84.out.trans (hbY.mono HB_84.out.size))
        have HK_92 := Lib.hid hkY
        clear hkY hbY hsY
        refine hK.out _ _ trivial (fun hHeld => ?_)
        clear hK K
        (try simp only [Act.put])
        have hsz_93 : Y_81.heap.size < Y_87.heap.size := HK_92.out.lt
        refine heldTake (i := 2) (d := some 10) (v := ?_) rfl rfl (by kernel_rfl) (by kernel_rfl) (by kernel_rfl) (fun _ _ _ h => h) (by kernel_rfl) ?hyq_6 (by assumption) ?restq_6
        case hyq_6 => (intro W9 hSw; (try dsimp only at hSw); go_simp; try (with_reducible rfl))
        (try simp only [Act.put])
        refine wpAnyH_ready (rs := [4]) (by kernel_rfl) (by simp) ?_
        refine AllReadyH.cons rfl (fun K hK => ?_) AllReadyH.nil
        have z0 := HV_90.out.cell (j := 0) (by simp [vZ])
        have z1 := HV_90.out.cell (j := 1) (by simp [vZ])
        have z2 := HV_90.out.cell (j := 2) (by simp [vZ])
        have z3 := HV_90.out.cell (j := 3) (by simp [vZ])
        have zf := HV_90.out.frozen
        simp only [vZ, List.getElem_cons_zero, List.getElem_cons_succ] at z0 z1 z2 z3
        go_simp
        refine hK.out _ _ trivial (fun hHeld => ?_)
        clear hK K z0 z1 z2 z3 zf
        (try simp only [Act.put, List.setIfInBounds_toArray, List.set_cons_zero, List.set_cons_succ])
        refine wpAnyH_done (by kernel_rfl) ?_ _
        go_wp2_with fail
        go_meet
        refine ⟨Y_81.heap.size, Y_63.heap.size, W0.heap.size, rfl, ?_⟩
        exact pl_start HZ_88.out HK_92.out HR_89.out HV_90.out HB_91.out (by omega) (by omega) (by omega) (by omega) (by omega) (by omega)
  case rest =>
    obtain ⟨gK, gR, gv, rfl, hP⟩ := hcut
    go_wp2_with fail
    go_loopw [6] (fun i wr => ∃ k : Nat, k ≤ 16 ∧ i = .int .i64 k ∧ Hid (Pl w wr gK gR gv (List.replicate k true ++ List.replicate (16 - k) false) (List.replicate 16 0) (.slice none 0 0))) (fun i _ => 16 - (intOf i).toNat)
    case atStart => exact ⟨0, by omega, rfl, hP⟩
    case round =>
      obtain ⟨k, hk, rfl, hQ⟩ := hrel
      clear hP
      have z0 := hQ.out.z0
      by_cases hlt : k < 16
      · have hki : (k : Int) < 16 := by omega
        have c0 := hQ.out.hk.cell (j := k) (by simp; omega)
        have cf := hQ.out.hk.frozen
        simp only [List.getElem_map, bV] at c0
        have HS := Lib.hid (rep_step k hlt)
        go_wp2
        go_roundw
        case rel => exact ⟨k + 1, by omega, by go_num, by have q := hQ.out.setK k true; rw [HS.out] at q; exact q⟩
        case measure => simp [intOf]; omega
      · have hk16 : k = 16 := by omega
        have hki : (16 : Int) ≤ k := by omega
        have hQ2 := hQ.out
        rw [hk16] at hQ2
        have HQ := Lib.hid (show Pl w wr gK gR gv (List.replicate 16 true) (List.replicate 16 0) (.slice none 0 0) from hQ2)
        clear hk16 hQ2 hQ z0
        go_wp2_with fail
        have hlK := HQ.out.hk.lt
        have hlR := HQ.out.hr.lt
        have hlV := HQ.out.hv.lt
        have hlZ := HQ.out.hz.lt
        have hwB := HQ.out.hb.size
        obtain ⟨Bq, hBq⟩ : ∃ Bq, wr.heap.size = Bq := ⟨_, rfl⟩
        rw [hBq] at hlK hlR hlV hlZ hwB
        have hBq2 : Bq ≤ wr.heap.size := by omega
        clear hBq
        go_loopw [7] (fun i wx => ∃ (j : Nat) (v : Value), j ≤ 10 ∧ i = .int .i64 j ∧ Hid (Pl w wx gK gR gv (List.replicate 16 true) (List.replicate 16 0) v) ∧ Hid (SRow wx Bq v ((List.range j).map (fun (i : Nat) => (i : Int)))) ∧ Bq ≤ wx.heap.size) (fun i _ => 10 - (intOf i).toNat)
        case atStart => exact ⟨0, _, by omega, rfl, HQ, SRow.nil _ _, hBq2⟩
        case round =>
          obtain ⟨j, v, hj, rfl, hP2, hS2, hwx⟩ := hrel
          clear HQ
          have z3 := hP2.out.z3
          have hl2 := Lib.hid hS2.out.lt
          by_cases hlj : j < 10
          · have hji : (j : Int) < 10 := by omega
            have hb5 := below_lnew wr (.cells #[.int .i64 (j : Int)] 2)
            have z5 := (hb5.cell (p := ⟨gv, 3, none⟩) (by dsimp only; omega)).trans z3
            have HP5 := Lib.hid (hP2.out.below hb5)
            have HS5 := Lib.hid (hS2.out.below hb5)
            have HT := Lib.hid (show (List.range (j + 1)).map (fun (i : Nat) => (i : Int)) = (List.range j).map (fun (i : Nat) => (i : Int)) ++ [(j : Int)] by rw [List.range_succ, List.map_append]; rfl)
            have hlen : ((List.range j).map (fun (i : Nat) => (i : Int))).length ≤ 10 := by simp; omega
            obtain ⟨A2, n2, c2, rfl, hn2, _, _, _⟩ := hS2.out.formN
            generalize (List.range j).map (fun (i : Nat) => (i : Int)) = ls at *
            clear hb5 z5
            go_wp2_with (at_builtin
                         refine app_s7 _ rfl (.tmp 25) (.tmp 27) rfl Bq _ ls rfl HS5.out (some ⟨wr.heap.size, 0, none⟩) 1 _ [(j : Int)] rfl (by simp) (nlies_any wr 2 j) (by simp; omega) (by simp; omega) ?_
                         intro v6 w6 ho6 hg6
                         have HP6 := Lib.hid (HP5.out.grown hg6 (fun e => by have := (HS5.out.lt _ e.symm).1; omega) (fun e => by have := (HS5.out.lt _ e.symm).1; omega) (fun e => by have := (HS5.out.lt _ e.symm).1; omega) (fun e => by have := (HS5.out.lt _ e.symm).1; omega) HS5.out (by omega) (fun q e => (HS5.out.lt q e).1))
                         obtain ⟨A6, n6, c6, rfl, hn6, _, _, _⟩ := ho6.formN
                         have y3 := HP6.out.z3
                         have yf := HP6.out.hv.frozen
                         have hz6 := hg6.size
                         have HO6 := Lib.hid ho6
                         clear hg6 ho6)
            go_roundw
            case rel => exact ⟨j + 1, .slice A6 n6 c6, by omega, by go_num, HP6.out.setV _, by rw [HT.out]; exact HO6.out.set8 (p := ⟨gv, 3, none⟩) _ (by dsimp only; omega), by simp [World.setCell] at hz6 ⊢; omega⟩
            case measure => simp [intOf]; omega
          · have hj10 : j = 10 := by omega
            have hji : (10 : Int) ≤ j := by omega
            have hS3 := hS2.out
            rw [hj10] at hS3
            obtain ⟨A3, c3, rfl, hlc, hnil, hcl, hab⟩ := hS3.cells
            have z1 := hP2.out.z1
            have r0 := hP2.out.hr.cell (j := 15) (by simp)
            have rf := hP2.out.hr.frozen
            simp only [List.getElem_map, List.getElem_replicate, n7] at r0
            have HR3 := Lib.hid (hP2.out.setR 15 5)
            have y0 := HR3.out.z0
            have y1 := HR3.out.z1
            have y2 := HR3.out.z2
            have y3 := HR3.out.z3
            have q0 := HR3.out.hz.cell (j := 0) (by simp [vZ])
            have q1 := HR3.out.hz.cell (j := 1) (by simp [vZ])
            have q2 := HR3.out.hz.cell (j := 2) (by simp [vZ])
            have q3 := HR3.out.hz.cell (j := 3) (by simp [vZ])
            have qf := HR3.out.hz.frozen
            simp only [vZ, List.getElem_cons_zero, List.getElem_cons_succ] at q0 q1 q2 q3
            have HCL := Lib.hid hcl
            have hlen3 : ((List.range 10).map (fun (i : Nat) => (i : Int))).length = 10 := by simp
            rw [hlen3] at y3 hlc
            clear hS3 hcl hj10 hS2 hlen3 z3
            go_wp2_with fail
            refine bodyPost_ret (view_one rfl _ _ w.heap.size [.slice (some ⟨gK, 0, none⟩) 16 16, .slice (some ⟨gR, 0, none⟩) 16 16, .int .i64 0, .slice A3 10 c3] rfl (cat_all4 HR3.out.hz _ _ _ _) rfl) rfl ?_
            have r1 := HR3.out.hk.all4o (b := w.heap.size) (Nat.ne_of_gt HR3.out.d1) (.slice (some ⟨gK, 0, none⟩) 16 16) (.slice (some ⟨gR, 0, none⟩) 16 16) (.int .i64 0) (.slice A3 10 c3)
            have r2 := HR3.out.hr.all4o (b := w.heap.size) (Nat.ne_of_gt HR3.out.d2) (.slice (some ⟨gK, 0, none⟩) 16 16) (.slice (some ⟨gR, 0, none⟩) 16 16) (.int .i64 0) (.slice A3 10 c3)
            have r3 := (HCL.out.set (p := ⟨gR, 15, none⟩) (fun a e => by have := hab a e; dsimp only; omega) (.int .i64 5)).all4 (b := w.heap.size) (fun a e => by have := hab a e; omega) (.slice (some ⟨gK, 0, none⟩) 16 16) (.slice (some ⟨gR, 0, none⟩) 16 16) (.int .i64 0) (.slice A3 10 c3)
            refine ⟨⟨⟨gK, 0, none⟩, 16, ⟨gR, 0, none⟩, 16, 0, A3, c3, List.replicate 16 true, (List.replicate 16 0).set 15 5, (List.range 10).map (fun (i : Nat) => (i : Int))⟩, rfl, ?_, rfl, rfl, rfl, below_all HR3.out.hb (Nat.le_refl _) _ _ _ _⟩
            refine ⟨by simp, by simp, Nat.le_refl _, Nat.le_refl _, r1.lies, r2.lies, r3.more ?_, (fun e => by have := hnil e; omega), by simp⟩
            exact (below_all ((Below.refl 0 wr).setCell (p := ⟨gR, 15, none⟩) (Nat.zero_le _) (.int .i64 5)) (Nat.zero_le w.heap.size) (.slice (some ⟨gK, 0, none⟩) 16 16) (.slice (some ⟨gR, 0, none⟩) 16 16) (.int .i64 0) (.slice A3 10 c3)).size
end Go.Proofs.Ytpbopehhalicjaa
