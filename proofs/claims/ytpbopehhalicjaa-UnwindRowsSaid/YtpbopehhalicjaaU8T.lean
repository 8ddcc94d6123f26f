/-
  Contract of unwind.Frame.
-/
import Derived.Test.YtpbopehhalicjaaU8S
namespace Go.Proofs.Ytpbopehhalicjaa
open Go Go.RowKit

theorem own16B (g o c : Nat) (K : List Bool) (hK : K.length = 16) (w : World) (h : CLies w w.heap.size (some ⟨g, o, none⟩) (K.map bV)) :
    Calls Try.prog 12 #[.slice (some ⟨g, o, none⟩) 16 c] w (OwnR w 4 16 (K.map bV)) := by
  have := ownB_any (some ⟨g, o, none⟩) c K w (fun e => by cases e) (by omega) h
  rw [hK] at this
  exact this
theorem own16N (g o c : Nat) (K : List Int) (hK : K.length = 16) (w : World) (h : CLies w w.heap.size (some ⟨g, o, none⟩) (K.map n7)) :
    Calls Try.prog 13 #[.slice (some ⟨g, o, none⟩) 16 c] w (OwnR w 2 16 (K.map n7)) := by
  have := ownN_any (some ⟨g, o, none⟩) c K w (fun e => by cases e) (by omega) h
  rw [hK] at this
  exact this
def vZ : List Value := [.slice none 0 0, .slice none 0 0, .int .i64 0, .slice none 0 0]
theorem cat_all4 {W : World} {g : Nat} {e : TypeId} {z0 z1 z2 z3 : Value} (h : CAt W g e [z0, z1, z2, z3]) (u0 u1 u2 u3 : Value) : CAt ((((W.setCell ⟨g, 0, none⟩ u0).setCell ⟨g, 1, none⟩ u1).setCell ⟨g, 2, none⟩ u2).setCell ⟨g, 3, none⟩ u3) g e [u0, u1, u2, u3] :=
  (((h.set 0 u0).set 1 u1).set 2 u2).set 3 u3
def FrameR8 (b : Int) (w : World) (e : Ending) (w' : World) : Prop := ∃ A1 A2 A3 n c, e = .returned (.tuple #[.agg #[.slice A1 16 16, .slice A2 16 16, .int .i64 b, .slice A3 n c], .int .i64 0]) ∧ Below w.heap.size w w'
theorem view_res {fn : Func} {p v : Tmp} (h : fn.results = #[.cell p 34, .tmp v]) (tmps : Array Value) (w : World) (g : Nat) (cs : List Value) (hp : tmps.getD p undef = .pointer (some ⟨g, 0, none⟩)) (hs : CAt w g 34 cs) (hl : cs.length = 4) :
    (results fn tmps).run Try.prog w = .ok (.tuple #[.agg cs.toArray, tmps.getD v undef]) w := res_row_tmp h tmps w g 34 cs.toArray (0, 0) _ hp hs Try.underlying34 rfl (by rw [List.size_toArray, hl]; kernel_rfl)

set_option maxRecDepth 100000 in
set_option maxHeartbeats 4000000 in
theorem frameAll8_any (A : Option Addr) (c : Nat) (ps : List Ps) (pc : Int) (n : Nat) (V : Vw) (w : World) (hn : n < ps.length) (hls : ps.length ≤ 1000000) (hal : ps[n].a.length ≤ 1000000) (hyes : hasP pc ps[n]) (hno : ∀ j (hj : j < n), ¬ hasP pc ps[j]) (h : SLies w w.heap.size A ps)
    (hV : VL w w.heap.size V) (hk : ∀ h, V.K[15]'h = true) (r15 : Int) (hr : ∀ h, V.R[15]'h = r15) (h0 : 0 ≤ r15) (h1 : r15 ≤ 1000000) (hu0 : 0 ≤ ps[n].u) (hu1 : ps[n].u ≤ 65536) :
    Calls Try.prog 5 #[.slice A ps.length c, .int .i64 pc, .agg (vC V)] w (FrameR8 (r15 + ps[n].u) w) := by
  have hb1 := below_lnew w (.cells (vC V) 34)
  have hb2 := below_lnew (w.alloc (.cells (vC V) 34)) (.cells vZ.toArray 34)
  have HV2 := Lib.hid ((viewAt_new w V).below hb2 (by simp))
  have hZ2 : CAt ((w.alloc (.cells (vC V) 34)).alloc (.cells vZ.toArray 34)) (w.heap.size + 1) 34 vZ := by
    have := heap_alloc_new (w.alloc (.cells (vC V) 34)) (.cells vZ.toArray 34)
    rw [World.size_alloc] at this
    exact this
  have HZ2 := Lib.hid hZ2
  have HB2 := Lib.hid (hb1.trans (hb2.mono hb1.size))
  have hz2 : w.heap.size + 2 ≤ ((w.alloc (.cells (vC V) 34)).alloc (.cells vZ.toArray 34)).heap.size := by simp
  have HL2 := Lib.hid ((hV.below HB2.out).more HB2.out.size)
  have HF := Lib.hid (frame8_any A c ps pc n V _ hn hls hal hyes hno ((h.below HB2.out).more HB2.out.size) HL2.out hk r15 hr h0 h1 hu0 hu1)
  obtain ⟨g1, o1, e1, -, -⟩ := hV.known
  obtain ⟨g2, o2, e2, -, -⟩ := hV.regs
  clear hb1 hb2 hZ2 h hV hk hr hyes hno
  obtain ⟨a1, c1, a2, c2, Bs, A3, c3, Kn, Rn, Ws⟩ := V
  dsimp only at e1 e2
  subst e1
  subst e2
  have x0 := HV2.out.k
  have x1 := HV2.out.r
  have x2 := HV2.out.b
  have x3 := HV2.out.wd
  unfold vC vZ at HV2 HZ2 HB2 HF HL2 hz2 x0 x1 x2 x3
  unfold vC
  dsimp only at HV2 HZ2 HB2 HF HL2 hz2 x0 x1 x2 x3 ⊢
  unfold FramedR at HF
  go_enter Try.func5, Try.ntmps5
  go_wp2_with fail
  generalize ((w.alloc (.cells #[.slice (some ⟨g1, o1, none⟩) 16 c1, .slice (some ⟨g2, o2, none⟩) 16 c2, .int .i64 Bs, .slice A3 Ws.length c3] 34)).alloc (.cells #[.slice none 0 0, .slice none 0 0, .int .i64 0, .slice none 0 0] 34)) = W at *
  clear x0 x1 x2 x3
  refine HF.out.mono ?_
  rintro e w3 ⟨A5, c5, rfl, ho3, hb3⟩
  have hb4 := below_lnew w3 (.cells #[.int .i64 ps[n].f, .int .i64 ps[n].t, .int .i64 ps[n].u, .slice A5 ps[n].a.length c5] 29)
  have hz3 := hb3.size
  have HVX0 := Lib.hid ((HV2.out.below hb3 HV2.out.lt).below hb4 (by have := HV2.out.lt; omega))
  have HZX0 := Lib.hid ((HZ2.out.below hb3 HZ2.out.lt).below hb4 (by have := HZ2.out.lt; omega))
  have HLX0 := Lib.hid ((HL2.out.next hb3).next hb4)
  have HBX0 := Lib.hid ((HB2.out.trans (hb3.mono HB2.out.size)).trans (hb4.mono (by omega)))
  clear hb3 hb4 ho3 HF HV2 HZ2 HL2 HB2 hz2 hz3 hal
  generalize hb9 : r15 + ps[n].u = base at *
  have HBE9 := Lib.hid hb9
  clear hb9
  go_wp2_with fail
  generalize w3.alloc (.cells #[.int .i64 ps[n].f, .int .i64 ps[n].t, .int .i64 ps[n].u, .slice A5 ps[n].a.length c5] 29) = X0 at *
  refine wp_region_held_drew (S := fun W9 => (W9.cell? ⟨w.heap.size, 0, none⟩ = some (.slice (some ⟨g1, o1, none⟩) 16 c1) ∧ W9.cell? ⟨w.heap.size, 1, none⟩ = some (.slice (some ⟨g2, o2, none⟩) 16 c2) ∧ W9.cell? ⟨w.heap.size, 3, none⟩ = some (.slice A3 Ws.length c3))) (by kernel_rfl) (⟨HVX0.out.k, HVX0.out.r, HVX0.out.wd⟩) (fun hHeld => ?_)
  refine heldTake (i := 0) (d := some 22) (v := ?_) rfl rfl (by kernel_rfl) (by kernel_rfl) (by kernel_rfl) (fun _ _ _ h => h) (by kernel_rfl) ?hyq_1 (by assumption) ?restq_1
  case hyq_1 => (intro W9 hSw; (try dsimp only at hSw); go_simp; try (with_reducible rfl))
  (try simp only [Act.put, List.setIfInBounds_toArray, List.set_cons_zero, List.set_cons_succ])
  refine heldTake (i := 1) (d := some 23) (v := ?_) rfl rfl (by kernel_rfl) (by kernel_rfl) (by kernel_rfl) (fun _ _ _ h => h) (by kernel_rfl) ?hyq_2 (by assumption) ?restq_2
  case hyq_2 => (intro W9 hSw; (try dsimp only at hSw); go_simp; try (with_reducible rfl))
  (try simp only [Act.put, List.setIfInBounds_toArray, List.set_cons_zero, List.set_cons_succ])
  refine heldTake (i := 3) (d := some 25) (v := ?_) rfl rfl (by kernel_rfl) (by kernel_rfl) (by kernel_rfl) (fun _ _ _ h => h) (by kernel_rfl) ?hyq_3 (by assumption) ?restq_3
  case hyq_3 => (intro W9 hSw; (try dsimp only at hSw); go_simp; try (with_reducible rfl))
  (try simp only [Act.put, List.setIfInBounds_toArray, List.set_cons_zero, List.set_cons_succ])
  refine heldTake (i := 4) (d := some 26) (v := ?_) rfl rfl (by kernel_rfl) (by kernel_rfl) (by kernel_rfl) (fun _ _ _ h => h) (by kernel_rfl) ?hyq_4 (by assumption) ?restq_4
  case hyq_4 => (intro W9 hSw; (try dsimp only at hSw); go_simp; try (with_reducible rfl))
  (try simp only [Act.put, List.setIfInBounds_toArray, List.set_cons_zero, List.set_cons_succ])
  refine heldTake (i := 6) (d := some 28) (v := ?_) rfl rfl (by kernel_rfl) (by kernel_rfl) (by kernel_rfl) (fun _ _ _ h => h) (by kernel_rfl) ?hyq_5 (by assumption) ?restq_5
  case hyq_5 => (intro W9 hSw; (try dsimp only at hSw); go_simp; try (with_reducible rfl))
  (try simp only [Act.put, List.setIfInBounds_toArray, List.set_cons_zero, List.set_cons_succ])
  refine heldTake (i := 7) (d := some 29) (v := ?_) rfl rfl (by kernel_rfl) (by kernel_rfl) (by kernel_rfl) (fun _ _ _ h => h) (by kernel_rfl) ?hyq_6 (by assumption) ?restq_6
  case hyq_6 => (intro W9 hSw; (try dsimp only at hSw); go_simp; try (with_reducible rfl))
  (try simp only [Act.put, List.setIfInBounds_toArray, List.set_cons_zero, List.set_cons_succ])
  refine heldTake (i := 8) (d := some 30) (v := ?_) rfl rfl (by kernel_rfl) (by kernel_rfl) (by kernel_rfl) (fun _ _ _ h => h) (by kernel_rfl) ?hyq_7 (by assumption) ?restq_7
  case hyq_7 => (intro W9 hSw; (try dsimp only at hSw); go_simp; try (with_reducible rfl))
  (try simp only [Act.put, List.setIfInBounds_toArray, List.set_cons_zero, List.set_cons_succ])
  refine wpAnyH_ready (rs := [2]) (by kernel_rfl) (by simp) ?_
  refine AllReadyH.cons rfl (fun K hK => ?_) AllReadyH.nil
  go_simp
  go_at_call 12
  refine (own16B g1 o1 c1 Kn HLX0.out.hK X0.drew HLX0.out.k).mono ?_
  rintro e9 X1 ⟨rfl, hkX, hbX⟩
  replace hbX := below_of_drew hbX
  have HVX1 := Lib.hid (HVX0.out.below hbX HVX0.out.lt)
  have HZX1 := Lib.hid (HZX0.out.below hbX HZX0.out.lt)
  have HLX1 := Lib.hid (HLX0.out.next hbX)
  have HBX1 := Lib.hid (HBX0.out.trans (hbX.mono HBX0.out.size))
  have hSX1 : (X1.cell? ⟨w.heap.size, 0, none⟩ = some (.slice (some ⟨g1, o1, none⟩) 16 c1) ∧ X1.cell? ⟨w.heap.size, 1, none⟩ = some (.slice (some ⟨g2, o2, none⟩) 16 c2) ∧ X1.cell? ⟨w.heap.size, 3, none⟩ = some (.slice A3 Ws.length c3)) := ⟨HVX1.out.k, HVX1.out.r, HVX1.out.wd⟩
  clear hkX hbX
  go_wp2_with fail
  refine hK.out _ _ hSX1 (fun hHeld => ?_)
  clear hK K
  (try simp only [Act.put, List.setIfInBounds_toArray, List.set_cons_zero, List.set_cons_succ])
  refine wpAnyH_ready (rs := [5]) (by kernel_rfl) (by simp) ?_
  refine AllReadyH.cons rfl (fun K hK => ?_) AllReadyH.nil
  go_simp
  go_at_call 13
  refine (own16N g2 o2 c2 Rn HLX1.out.hR _ HLX1.out.r).mono ?_
  rintro e9 X2 ⟨rfl, hkX, hbX⟩
  have HVX2 := Lib.hid (HVX1.out.below hbX HVX1.out.lt)
  have HZX2 := Lib.hid (HZX1.out.below hbX HZX1.out.lt)
  have HLX2 := Lib.hid (HLX1.out.next hbX)
  have HBX2 := Lib.hid (HBX1.out.trans (hbX.mono HBX1.out.size))
  have hSX2 : (X2.cell? ⟨w.heap.size, 0, none⟩ = some (.slice (some ⟨g1, o1, none⟩) 16 c1) ∧ X2.cell? ⟨w.heap.size, 1, none⟩ = some (.slice (some ⟨g2, o2, none⟩) 16 c2) ∧ X2.cell? ⟨w.heap.size, 3, none⟩ = some (.slice A3 Ws.length c3)) := ⟨HVX2.out.k, HVX2.out.r, HVX2.out.wd⟩
  clear hkX hbX
  go_wp2_with fail
  refine hK.out _ _ hSX2 (fun hHeld => ?_)
  clear hK K
  (try simp only [Act.put, List.setIfInBounds_toArray, List.set_cons_zero, List.set_cons_succ])
  refine wpAnyH_ready (rs := [9]) (by kernel_rfl) (by simp) ?_
  refine AllReadyH.cons rfl (fun K hK => ?_) AllReadyH.nil
  go_simp
  go_at_call 13
  refine (ownN_any A3 c3 Ws _ HLX2.out.nil (by have := HLX2.out.nW; dsimp only at this; omega) HLX2.out.ww).mono ?_
  rintro e9 X3 ⟨rfl, hkX, hbX⟩
  have HVX3 := Lib.hid (HVX2.out.below hbX HVX2.out.lt)
  have HZX3 := Lib.hid (HZX2.out.below hbX HZX2.out.lt)
  have HLX3 := Lib.hid (HLX2.out.next hbX)
  have HBX3 := Lib.hid (HBX2.out.trans (hbX.mono HBX2.out.size))
  have hSX3 : (X3.cell? ⟨w.heap.size, 0, none⟩ = some (.slice (some ⟨g1, o1, none⟩) 16 c1) ∧ X3.cell? ⟨w.heap.size, 1, none⟩ = some (.slice (some ⟨g2, o2, none⟩) 16 c2) ∧ X3.cell? ⟨w.heap.size, 3, none⟩ = some (.slice A3 Ws.length c3)) := ⟨HVX3.out.k, HVX3.out.r, HVX3.out.wd⟩
  clear hkX hbX
  go_wp2_with fail
  refine hK.out _ _ hSX3 (fun hHeld => ?_)
  clear hK K
  (try simp only [Act.put, List.setIfInBounds_toArray, List.set_cons_zero, List.set_cons_succ])
  refine heldTake (i := 10) (d := some 32) (v := ?_) rfl rfl (by kernel_rfl) (by kernel_rfl) (by kernel_rfl) (fun _ _ _ h => h) (by kernel_rfl) ?hyq_8 (by assumption) ?restq_8
  case hyq_8 => (intro W9 hSw; (try dsimp only at hSw); go_simp; try (with_reducible rfl))
  (try simp only [Act.put, List.setIfInBounds_toArray, List.set_cons_zero, List.set_cons_succ])
  refine wpAnyH_ready (rs := [11]) (by kernel_rfl) (by simp) ?_
  refine AllReadyH.cons rfl (fun K hK => ?_) AllReadyH.nil
  have z0 := HZX3.out.cell (j := 0) (by simp)
  have z1 := HZX3.out.cell (j := 1) (by simp)
  have z2 := HZX3.out.cell (j := 2) (by simp)
  have z3 := HZX3.out.cell (j := 3) (by simp)
  have zf := HZX3.out.frozen
  simp only [List.getElem_cons_zero, List.getElem_cons_succ] at z0 z1 z2 z3
  go_simp
  refine hK.out _ _ ?sfin (fun hHeld => ?_)
  case sfin => exact ⟨((((HVX3.out.other (p := ⟨w.heap.size + 1, 0, none⟩) (by dsimp only; omega) _).other (p := ⟨w.heap.size + 1, 1, none⟩) (by dsimp only; omega) _).other (p := ⟨w.heap.size + 1, 2, none⟩) (by dsimp only; omega) _).other (p := ⟨w.heap.size + 1, 3, none⟩) (by dsimp only; omega) _).k, ((((HVX3.out.other (p := ⟨w.heap.size + 1, 0, none⟩) (by dsimp only; omega) _).other (p := ⟨w.heap.size + 1, 1, none⟩) (by dsimp only; omega) _).other (p := ⟨w.heap.size + 1, 2, none⟩) (by dsimp only; omega) _).other (p := ⟨w.heap.size + 1, 3, none⟩) (by dsimp only; omega) _).r, ((((HVX3.out.other (p := ⟨w.heap.size + 1, 0, none⟩) (by dsimp only; omega) _).other (p := ⟨w.heap.size + 1, 1, none⟩) (by dsimp only; omega) _).other (p := ⟨w.heap.size + 1, 2, none⟩) (by dsimp only; omega) _).other (p := ⟨w.heap.size + 1, 3, none⟩) (by dsimp only; omega) _).wd⟩
  clear z0 z1 z2 z3 zf
  clear hK K
  (try simp only [Act.put, List.setIfInBounds_toArray, List.set_cons_zero, List.set_cons_succ])
  refine heldTake (i := 12) (d := some 7) (v := ?_) rfl rfl (by kernel_rfl) (by kernel_rfl) (by kernel_rfl) (fun _ _ _ h => h) (by kernel_rfl) ?hyq_9 (by assumption) ?restq_9
  case hyq_9 => (intro W9 hSw; (try dsimp only at hSw); go_simp; try (with_reducible rfl))
  (try simp only [Act.put, List.setIfInBounds_toArray, List.set_cons_zero, List.set_cons_succ])
  refine wpAnyH_done (by kernel_rfl) ?_ _
  go_wp2_with fail
  refine bodyPost_ret (view_res rfl _ _ (w.heap.size + 1) _ rfl (cat_all4 HZX3.out _ _ _ _) rfl) rfl ?_
  unfold FrameR8
  rw [HBE9.out]
  exact ⟨some ⟨X0.heap.size, 0, none⟩, some ⟨X1.heap.size, 0, none⟩, some ⟨X2.heap.size, 0, none⟩, Ws.length, Ws.length, rfl, below_all HBX3.out (Nat.le_succ _) _ _ _ _⟩
end Go.Proofs.Ytpbopehhalicjaa
