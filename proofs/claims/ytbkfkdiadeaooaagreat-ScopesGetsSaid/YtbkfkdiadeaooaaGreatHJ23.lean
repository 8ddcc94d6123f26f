/-
  Merged for a claim: T9B, T9D.
-/
import Derived.BigQuiet
import Derived.Test.YtbkfkdiadeaooaaGreatHS9C
import Derived.Test.YtbkfkdiadeaooaaGreatHS9D
import Derived.Test.YtbkfkdiadeaooaaGreatHL7O
namespace Go.Proofs.YtbkfkdiadeaooaaGreat
open Go Go.RowKit

set_option maxRecDepth 100000 in
set_option maxHeartbeats 2000000 in
theorem sameVar_any (nm : List UInt8) (kd n : Int) (tn : List UInt8) (wd : Int) (fs : List (List UInt8)) (A A2 : Option Addr) (c c2 : Nat) (w : World) (hn : fs.length ≤ 1099511627776) (h : eS.Lies w w.heap.size A fs) (h2 : eS.Lies w w.heap.size A2 fs) :
    Calls Tryz.prog 26 #[vV ⟨⟨nm, kd, n, tn, wd, fs⟩, A, c⟩, vV ⟨⟨nm, kd, n, tn, wd, fs⟩, A2, c2⟩] w (BoolR true w) := by
  have hb1 := below_lnew w (.cells (vK ⟨⟨nm, kd, n, tn, wd, fs⟩, A, c⟩) 67)
  have hw1 := heap_alloc_new w (.cells (vK ⟨⟨nm, kd, n, tn, wd, fs⟩, A, c⟩) 67)
  obtain ⟨W, hW⟩ : ∃ W, W = w.alloc (.cells (vK ⟨⟨nm, kd, n, tn, wd, fs⟩, A, c⟩) 67) := ⟨_, rfl⟩
  have hz : W.heap.size = w.heap.size + 1 := by rw [hW]; simp
  rw [← hW] at hb1 hw1
  have hb2 := below_lnew W (.cells (vK ⟨⟨nm, kd, n, tn, wd, fs⟩, A2, c2⟩) 67)
  have hv2 := heap_alloc_new W (.cells (vK ⟨⟨nm, kd, n, tn, wd, fs⟩, A2, c2⟩) 67)
  obtain ⟨Y, hY⟩ : ∃ Y, Y = W.alloc (.cells (vK ⟨⟨nm, kd, n, tn, wd, fs⟩, A2, c2⟩) 67) := ⟨_, rfl⟩
  have hzY : Y.heap.size = W.heap.size + 1 := by rw [hY]; simp
  rw [← hY] at hb2 hv2
  have hv1 := (hb2.block w.heap.size (by omega)).trans hw1
  have HB := Lib.hid (hb1.trans (hb2.mono (by omega)))
  have HL1 := Lib.hid ((h.below HB.out).more HB.out.size)
  have HL2 := Lib.hid ((h2.below HB.out).more HB.out.size)
  rw [hW] at hY
  clear hb1 hb2 hw1 h h2 hW
  unfold vV
  unfold vK tv at hY hv1 hv2 ⊢
  dsimp only at hY hv1 hv2 ⊢
  rw [hz] at hv2
  obtain ⟨c0, c1, c2', c3, c4, c5⟩ : (Y.cell? ⟨w.heap.size, 0, none⟩ = some (.string (str nm)) ∧ Y.cell? ⟨w.heap.size, 1, none⟩ = some (.int .u8 kd) ∧ Y.cell? ⟨w.heap.size, 2, none⟩ = some (.int .i64 n) ∧ Y.cell? ⟨w.heap.size, 3, none⟩ = some (.string (str tn)) ∧ Y.cell? ⟨w.heap.size, 4, none⟩ = some (.int .i64 wd) ∧ Y.cell? ⟨w.heap.size, 5, none⟩ = some (.slice A fs.length c)) := by
    simp [World.cell?, hv1]
  obtain ⟨d0, d1, d2, d3, d4, d5⟩ : (Y.cell? ⟨w.heap.size + 1, 0, none⟩ = some (.string (str nm)) ∧ Y.cell? ⟨w.heap.size + 1, 1, none⟩ = some (.int .u8 kd) ∧ Y.cell? ⟨w.heap.size + 1, 2, none⟩ = some (.int .i64 n) ∧ Y.cell? ⟨w.heap.size + 1, 3, none⟩ = some (.string (str tn)) ∧ Y.cell? ⟨w.heap.size + 1, 4, none⟩ = some (.int .i64 wd) ∧ Y.cell? ⟨w.heap.size + 1, 5, none⟩ = some (.slice A2 fs.length c2)) := by
    simp [World.cell?, hv2]
  clear hv1 hv2
  have hq := str_toList nm
  have hq2 := str_toList tn
  go_enter Tryz.func26, Tryz.ntmps26
  go_wp2_with fail
  rw [← hY]
  clear hY
  go_loopw [5] (fun i wr => ∃ k : Nat, k ≤ fs.length ∧ i = .int .i64 k ∧ Hid (Below Y.heap.size Y wr)) (fun i _ => fs.length - (intOf i).toNat)
  case atStart => exact ⟨0, by omega, rfl, Below.refl _ _⟩
  case round =>
    obtain ⟨k, hk, rfl, hB⟩ := hrel
    have c5x := (hB.out.cell (p := ⟨w.heap.size, 5, none⟩) (by dsimp only; omega)).trans c5
    have d5x := (hB.out.cell (p := ⟨w.heap.size + 1, 5, none⟩) (by dsimp only; omega)).trans d5
    by_cases hlt : k < fs.length
    · obtain ⟨g, o, rfl, hg, x0⟩ := eS_at (HL1.out.below hB.out) hlt
      obtain ⟨g', o', rfl, hg', y0⟩ := eS_at (HL2.out.below hB.out) hlt
      have hq3 := str_toList fs[k]
      generalize fs[k] = x at *
      go_wp2_with fail
      go_quiet (fail)
      have hbq := below_draws (B := wr.heap.size) (w := wr) nq
      have HBX := Lib.hid (hB.out.trans (hbq.mono hB.out.size))
      clear hbq
      go_wp2_with fail
      go_roundw
      case rel => exact ⟨k + 1, by omega, by go_num, HBX⟩
      case measure => simp [intOf]; omega
    · obtain rfl : k = fs.length := by omega
      go_wp2_with fail
      go_ret
      exact ⟨rfl, HB.out.trans (hB.out.mono HB.out.size)⟩
end Go.Proofs.YtbkfkdiadeaooaaGreat

namespace Go.Proofs.YtbkfkdiadeaooaaGreat
open Go Go.RowKit

theorem sameVar_b (p q : Pv) (he : p.d = q.d) (w : World) (hn : p.d.fs.length ≤ 1099511627776) (h : VL w w.heap.size p) (h2 : VL w w.heap.size q) :
    Calls Tryz.prog 26 #[vV p, vV q] w (BoolR true w) := by
  obtain ⟨⟨nm, kd, n, tn, wd, fs⟩, A, c⟩ := p
  obtain ⟨d, A2, c2⟩ := q
  dsimp only at he
  subst he
  exact sameVar_any nm kd n tn wd fs A A2 c c2 w hn h.1 h2.1
theorem map_at {α β : Type} {f : α → β} {l m : List α} (he : l.map f = m.map f) {k : Nat} (h : k < l.length) (h2 : k < m.length) : f l[k] = f m[k] := by
  have h1 : (l.map f)[k]? = (m.map f)[k]? := by rw [he]
  rw [List.getElem?_map, List.getElem?_map, List.getElem?_eq_getElem h, List.getElem?_eq_getElem h2] at h1
  simpa using h1
theorem map_len {α β : Type} {f : α → β} {l m : List α} (he : l.map f = m.map f) : l.length = m.length := by
  have := congrArg List.length he
  simpa using this

set_option maxRecDepth 100000 in
set_option maxHeartbeats 8000000 in
theorem same9_any (A A2 : Option Addr) (c c2 : Nat) (ps qs : List Pp) (w : World) (he : ps.map Pp.d = qs.map Pp.d) (hl : ps.length ≤ 1099511627776) (hs : ∀ p ∈ ps, SmP p ∧ p.vs.length ≤ 1099511627776 ∧ p.ss.length ≤ 1099511627776 ∧ ∀ v ∈ p.vs, v.d.fs.length ≤ 1099511627776) (h : TL w w.heap.size A ps) (h2 : TL w w.heap.size A2 qs) :
    Calls Tryz.prog 8 #[.slice A ps.length c, .slice A2 qs.length c2] w (BoolR true w) := by
  have hlen : ps.length = qs.length := map_len he
  rw [← hlen]
  have HE := Lib.hid he
  have HLN := Lib.hid hlen
  have HS := Lib.hid hs
  clear he hlen hs
  go_enter Tryz.func8, Tryz.ntmps8
  go_wp2
  go_loopw [5] (fun i wr => ∃ k : Nat, k ≤ ps.length ∧ i = .int .i64 k ∧ Hid (Below w.heap.size w wr)) (fun i _ => ps.length - (intOf i).toNat)
  case atStart => exact ⟨0, by omega, rfl, Below.refl _ _⟩
  case round =>
    obtain ⟨k, hk, rfl, hB⟩ := hrel
    by_cases hlt : k < ps.length
    · have hlt2 : k < qs.length := by have := HLN.out; omega
      obtain ⟨g, o, rfl, hg, c0, c1, c2', c3, c4⟩ := eL_at (h.1.below hB.out) hlt
      obtain ⟨g', o', rfl, hg', d0, d1, d2, d3, d4⟩ := eL_at (h2.1.below hB.out) hlt2
      have hsp := map_at HE.out hlt hlt2
      have HM1 := Lib.hid (h.2 _ (List.getElem_mem hlt))
      have HM2 := Lib.hid (h2.2 _ (List.getElem_mem hlt2))
      have HSM := Lib.hid (HS.out _ (List.getElem_mem hlt))
      generalize ps[k] = p at *
      generalize qs[k] = q at *
      obtain ⟨nm, fr, tt, vs, vA, vc, ss, sA, sc⟩ := p
      obtain ⟨qnm, qfr, qtt, ws, wA, wc, rs, rA, rc⟩ := q
      simp only [Pp.d, Plc.mk.injEq] at hsp
      obtain ⟨rfl, rfl, rfl, hev, hes⟩ := hsp
      have HEV := Lib.hid hev
      have HES := Lib.hid hes
      have hvn := HSM.out.2.1
      have hsn := HSM.out.2.2.1
      dsimp only at c0 c1 c2' c3 c4 d0 d1 d2 d3 d4 hvn hsn
      rw [← map_len hev] at d3
      rw [← map_len hes] at d4
      clear hev hes
      have hq := str_toList nm
      have hwr := hB.out.size
      go_wp2_with fail
      go_quiet (fail)
      have hbq := below_draws (B := wr.heap.size) (w := wr) nq
      have HBQ := Lib.hid (hB.out.trans (hbq.mono hB.out.size))
      clear hbq
      go_wp2_with fail
      go_loopw [6] (fun i wx => ∃ j : Nat, j ≤ vs.length ∧ i = .int .i64 j ∧ Hid (Below w.heap.size w wx)) (fun i _ => vs.length - (intOf i).toNat)
      case atStart => exact ⟨0, by omega, rfl, HBQ⟩
      case round =>
        obtain ⟨j, hj, rfl, hBx⟩ := hrel
        have c3x := (hBx.out.cell (p := ⟨g, o + k * 5 + 3, none⟩) hg).trans ((hB.out.cell (p := ⟨g, o + k * 5 + 3, none⟩) hg).symm.trans c3)
        have d3x := (hBx.out.cell (p := ⟨g', o' + k * 5 + 3, none⟩) hg').trans ((hB.out.cell (p := ⟨g', o' + k * 5 + 3, none⟩) hg').symm.trans d3)
        by_cases hjlt : j < vs.length
        · have hjlt2 : j < ws.length := by have := map_len HEV.out; omega
          obtain ⟨gv, ov, rfl, hgv, x0, x1, x2, x3, x4, x5⟩ := eV_at (HM1.out.v.below hBx.out) hjlt
          obtain ⟨gw, ow, rfl, hgw, y0, y1, y2, y3, y4, y5⟩ := eV_at (HM2.out.v.below hBx.out) hjlt2
          have hdd := map_at HEV.out hjlt hjlt2
          have HSA := Lib.hid (sameVar_b (vs[j]) (ws[j]) hdd wr.drew (HSM.out.2.2.2 _ (List.getElem_mem hjlt)) (((HM1.out.vs _ (List.getElem_mem hjlt)).below hBx.out.drew).more hBx.out.size) (((HM2.out.vs _ (List.getElem_mem hjlt2)).below hBx.out.drew).more hBx.out.size))
          dsimp only at x0 x1 x2 x3 x4 x5 y0 y1 y2 y3 y4 y5
          generalize vs[j] = x at *
          generalize ws[j] = y at *
          obtain ⟨⟨xnm, xkd, xn, xtn, xwd, xfs⟩, xA, xc⟩ := x
          obtain ⟨yd, yA, yc⟩ := y
          dsimp only at hdd
          subst hdd
          unfold vV at HSA
          unfold vK tv at HSA
          dsimp only at HSA x0 x1 x2 x3 x4 x5 y0 y1 y2 y3 y4 y5
          have hwx := hBx.out.size
          go_wp2
          refine wp_region_held_drew (S := fun W9 => (W9.cell? ⟨g, o + k * 5 + 3, none⟩ = some (.slice (some ⟨gv, ov, none⟩) vs.length vc)) ∧ (W9.cell? ⟨g', o' + k * 5 + 3, none⟩ = some (.slice (some ⟨gw, ow, none⟩) vs.length wc)) ∧ (W9.cell? ⟨gv, ov + j * 6, none⟩ = some (.string (str xnm)) ∧ W9.cell? ⟨gv, ov + j * 6 + 1, none⟩ = some (.int .u8 xkd) ∧ W9.cell? ⟨gv, ov + j * 6 + 2, none⟩ = some (.int .i64 xn) ∧ W9.cell? ⟨gv, ov + j * 6 + 3, none⟩ = some (.string (str xtn)) ∧ W9.cell? ⟨gv, ov + j * 6 + 4, none⟩ = some (.int .i64 xwd) ∧ W9.cell? ⟨gv, ov + j * 6 + 5, none⟩ = some (.slice xA xfs.length xc)) ∧ (W9.cell? ⟨gw, ow + j * 6, none⟩ = some (.string (str xnm)) ∧ W9.cell? ⟨gw, ow + j * 6 + 1, none⟩ = some (.int .u8 xkd) ∧ W9.cell? ⟨gw, ow + j * 6 + 2, none⟩ = some (.int .i64 xn) ∧ W9.cell? ⟨gw, ow + j * 6 + 3, none⟩ = some (.string (str xtn)) ∧ W9.cell? ⟨gw, ow + j * 6 + 4, none⟩ = some (.int .i64 xwd) ∧ W9.cell? ⟨gw, ow + j * 6 + 5, none⟩ = some (.slice yA xfs.length yc))) (by kernel_rfl) (⟨c3x, d3x, ⟨x0, x1, x2, x3, x4, x5⟩, ⟨y0, y1, y2, y3, y4, y5⟩⟩) (fun hHeld => ?_)
          refine heldTake (i := 0) (d := some 96) (v := ?_) rfl rfl (by kernel_rfl) (by kernel_rfl) (by kernel_rfl) (fun _ _ _ h => h) (by kernel_rfl) ?hyq_1 (by assumption) ?restq_1
          case hyq_1 => (intro W9 hSw; (try dsimp only at hSw); go_simp; try (with_reducible rfl))
          (try simp only [Act.put, List.setIfInBounds_toArray, List.set_cons_zero, List.set_cons_succ])
          refine heldTake (i := 1) (d := some 97) (v := ?_) rfl rfl (by kernel_rfl) (by kernel_rfl) (by kernel_rfl) (fun _ _ _ h => h) (by kernel_rfl) ?hyq_2 (by assumption) ?restq_2
          case hyq_2 => (intro W9 hSw; (try dsimp only at hSw); go_simp; try (with_reducible rfl))
          (try simp only [Act.put, List.setIfInBounds_toArray, List.set_cons_zero, List.set_cons_succ])
          refine heldTake (i := 2) (d := some 98) (v := ?_) rfl rfl (by kernel_rfl) (by kernel_rfl) (by kernel_rfl) (fun _ _ _ h => h) (by kernel_rfl) ?hyq_3 (by assumption) ?restq_3
          case hyq_3 => (intro W9 hSw; (try dsimp only at hSw); go_simp; try (with_reducible rfl))
          (try simp only [Act.put, List.setIfInBounds_toArray, List.set_cons_zero, List.set_cons_succ])
          refine heldTake (i := 3) (d := some 99) (v := ?_) rfl rfl (by kernel_rfl) (by kernel_rfl) (by kernel_rfl) (fun _ _ _ h => h) (by kernel_rfl) ?hyq_4 (by assumption) ?restq_4
          case hyq_4 => (intro W9 hSw; (try dsimp only at hSw); go_simp; try (with_reducible rfl))
          (try simp only [Act.put, List.setIfInBounds_toArray, List.set_cons_zero, List.set_cons_succ])
          refine heldTake (i := 4) (d := some 100) (v := ?_) rfl rfl (by kernel_rfl) (by kernel_rfl) (by kernel_rfl) (fun _ _ _ h => h) (by kernel_rfl) ?hyq_5 (by assumption) ?restq_5
          case hyq_5 => (intro W9 hSw; (try dsimp only at hSw); go_simp; try (with_reducible rfl))
          (try simp only [Act.put, List.setIfInBounds_toArray, List.set_cons_zero, List.set_cons_succ])
          refine heldTake (i := 5) (d := some 101) (v := ?_) rfl rfl (by kernel_rfl) (by kernel_rfl) (by kernel_rfl) (fun _ _ _ h => h) (by kernel_rfl) ?hyq_6 (by assumption) ?restq_6
          case hyq_6 => (intro W9 hSw; (try dsimp only at hSw); go_simp; try (with_reducible rfl))
          (try simp only [Act.put, List.setIfInBounds_toArray, List.set_cons_zero, List.set_cons_succ])
          refine heldTake (i := 6) (d := some 102) (v := ?_) rfl rfl (by kernel_rfl) (by kernel_rfl) (by kernel_rfl) (fun _ _ _ h => h) (by kernel_rfl) ?hyq_7 (by assumption) ?restq_7
          case hyq_7 => (intro W9 hSw; (try dsimp only at hSw); go_simp; try (with_reducible rfl))
          (try simp only [Act.put, List.setIfInBounds_toArray, List.set_cons_zero, List.set_cons_succ])
          refine heldTake (i := 7) (d := some 103) (v := ?_) rfl rfl (by kernel_rfl) (by kernel_rfl) (by kernel_rfl) (fun _ _ _ h => h) (by kernel_rfl) ?hyq_8 (by assumption) ?restq_8
          case hyq_8 => (intro W9 hSw; (try dsimp only at hSw); go_simp; try (with_reducible rfl))
          (try simp only [Act.put, List.setIfInBounds_toArray, List.set_cons_zero, List.set_cons_succ])
          refine heldTake (i := 8) (d := some 104) (v := ?_) rfl rfl (by kernel_rfl) (by kernel_rfl) (by kernel_rfl) (fun _ _ _ h => h) (by kernel_rfl) ?hyq_9 (by assumption) ?restq_9
          case hyq_9 => (intro W9 hSw; (try dsimp only at hSw); go_simp; try (with_reducible rfl))
          (try simp only [Act.put, List.setIfInBounds_toArray, List.set_cons_zero, List.set_cons_succ])
          refine heldTake (i := 9) (d := some 105) (v := ?_) rfl rfl (by kernel_rfl) (by kernel_rfl) (by kernel_rfl) (fun _ _ _ h => h) (by kernel_rfl) ?hyq_10 (by assumption) ?restq_10
          case hyq_10 => (intro W9 hSw; (try dsimp only at hSw); go_simp; try (with_reducible rfl))
          (try simp only [Act.put, List.setIfInBounds_toArray, List.set_cons_zero, List.set_cons_succ])
          refine heldTake (i := 10) (d := some 106) (v := ?_) rfl rfl (by kernel_rfl) (by kernel_rfl) (by kernel_rfl) (fun _ _ _ h => h) (by kernel_rfl) ?hyq_11 (by assumption) ?restq_11
          case hyq_11 => (intro W9 hSw; (try dsimp only at hSw); go_simp; try (with_reducible rfl))
          (try simp only [Act.put, List.setIfInBounds_toArray, List.set_cons_zero, List.set_cons_succ])
          refine heldTake (i := 11) (d := some 107) (v := ?_) rfl rfl (by kernel_rfl) (by kernel_rfl) (by kernel_rfl) (fun _ _ _ h => h) (by kernel_rfl) ?hyq_12 (by assumption) ?restq_12
          case hyq_12 => (intro W9 hSw; (try dsimp only at hSw); go_simp; try (with_reducible rfl))
          (try simp only [Act.put, List.setIfInBounds_toArray, List.set_cons_zero, List.set_cons_succ])
          refine heldTake (i := 12) (d := some 108) (v := ?_) rfl rfl (by kernel_rfl) (by kernel_rfl) (by kernel_rfl) (fun _ _ _ h => h) (by kernel_rfl) ?hyq_13 (by assumption) ?restq_13
          case hyq_13 => (intro W9 hSw; (try dsimp only at hSw); go_simp; try (with_reducible rfl))
          (try simp only [Act.put, List.setIfInBounds_toArray, List.set_cons_zero, List.set_cons_succ])
          refine heldTake (i := 13) (d := some 109) (v := ?_) rfl rfl (by kernel_rfl) (by kernel_rfl) (by kernel_rfl) (fun _ _ _ h => h) (by kernel_rfl) ?hyq_14 (by assumption) ?restq_14
          case hyq_14 => (intro W9 hSw; (try dsimp only at hSw); go_simp; try (with_reducible rfl))
          (try simp only [Act.put, List.setIfInBounds_toArray, List.set_cons_zero, List.set_cons_succ])
          refine heldTake (i := 14) (d := some 110) (v := ?_) rfl rfl (by kernel_rfl) (by kernel_rfl) (by kernel_rfl) (fun _ _ _ h => h) (by kernel_rfl) ?hyq_15 (by assumption) ?restq_15
          case hyq_15 => (intro W9 hSw; (try dsimp only at hSw); go_simp; try (with_reducible rfl))
          (try simp only [Act.put, List.setIfInBounds_toArray, List.set_cons_zero, List.set_cons_succ])
          refine heldTake (i := 15) (d := some 111) (v := ?_) rfl rfl (by kernel_rfl) (by kernel_rfl) (by kernel_rfl) (fun _ _ _ h => h) (by kernel_rfl) ?hyq_16 (by assumption) ?restq_16
          case hyq_16 => (intro W9 hSw; (try dsimp only at hSw); go_simp; try (with_reducible rfl))
          (try simp only [Act.put, List.setIfInBounds_toArray, List.set_cons_zero, List.set_cons_succ])
          refine wpAnyH_ready (rs := [16]) (by kernel_rfl) (by simp) ?_
          refine AllReadyH.cons rfl (fun K hK => ?_) AllReadyH.nil
          go_simp
          go_at_call 26
          refine HSA.out.mono ?_
          rintro e9 X ⟨rfl, hbX⟩
          have hbX := below_of_drew hbX
          have hSX : (X.cell? ⟨g, o + k * 5 + 3, none⟩ = some (.slice (some ⟨gv, ov, none⟩) vs.length vc)) ∧ (X.cell? ⟨g', o' + k * 5 + 3, none⟩ = some (.slice (some ⟨gw, ow, none⟩) vs.length wc)) ∧ (X.cell? ⟨gv, ov + j * 6, none⟩ = some (.string (str xnm)) ∧ X.cell? ⟨gv, ov + j * 6 + 1, none⟩ = some (.int .u8 xkd) ∧ X.cell? ⟨gv, ov + j * 6 + 2, none⟩ = some (.int .i64 xn) ∧ X.cell? ⟨gv, ov + j * 6 + 3, none⟩ = some (.string (str xtn)) ∧ X.cell? ⟨gv, ov + j * 6 + 4, none⟩ = some (.int .i64 xwd) ∧ X.cell? ⟨gv, ov + j * 6 + 5, none⟩ = some (.slice xA xfs.length xc)) ∧ (X.cell? ⟨gw, ow + j * 6, none⟩ = some (.string (str xnm)) ∧ X.cell? ⟨gw, ow + j * 6 + 1, none⟩ = some (.int .u8 xkd) ∧ X.cell? ⟨gw, ow + j * 6 + 2, none⟩ = some (.int .i64 xn) ∧ X.cell? ⟨gw, ow + j * 6 + 3, none⟩ = some (.string (str xtn)) ∧ X.cell? ⟨gw, ow + j * 6 + 4, none⟩ = some (.int .i64 xwd) ∧ X.cell? ⟨gw, ow + j * 6 + 5, none⟩ = some (.slice yA xfs.length yc)) := ⟨(hbX.cell (p := ⟨g, o + k * 5 + 3, none⟩) (by dsimp only; omega)).trans c3x, (hbX.cell (p := ⟨g', o' + k * 5 + 3, none⟩) (by dsimp only; omega)).trans d3x, ⟨(hbX.cell (p := ⟨gv, ov + j * 6, none⟩) (by dsimp only; omega)).trans x0, (hbX.cell (p := ⟨gv, ov + j * 6 + 1, none⟩) (by dsimp only; omega)).trans x1, (hbX.cell (p := ⟨gv, ov + j * 6 + 2, none⟩) (by dsimp only; omega)).trans x2, (hbX.cell (p := ⟨gv, ov + j * 6 + 3, none⟩) (by dsimp only; omega)).trans x3, (hbX.cell (p := ⟨gv, ov + j * 6 + 4, none⟩) (by dsimp only; omega)).trans x4, (hbX.cell (p := ⟨gv, ov + j * 6 + 5, none⟩) (by dsimp only; omega)).trans x5⟩, ⟨(hbX.cell (p := ⟨gw, ow + j * 6, none⟩) (by dsimp only; omega)).trans y0, (hbX.cell (p := ⟨gw, ow + j * 6 + 1, none⟩) (by dsimp only; omega)).trans y1, (hbX.cell (p := ⟨gw, ow + j * 6 + 2, none⟩) (by dsimp only; omega)).trans y2, (hbX.cell (p := ⟨gw, ow + j * 6 + 3, none⟩) (by dsimp only; omega)).trans y3, (hbX.cell (p := ⟨gw, ow + j * 6 + 4, none⟩) (by dsimp only; omega)).trans y4, (hbX.cell (p := ⟨gw, ow + j * 6 + 5, none⟩) (by dsimp only; omega)).trans y5⟩⟩
          go_wp2_with fail
          refine hK.out _ _ hSX (fun hHeld => ?_)
          clear hK K
          (try simp only [Act.put, List.setIfInBounds_toArray, List.set_cons_zero, List.set_cons_succ])
          refine heldTake (i := 17) (d := some 113) (v := ?_) rfl rfl (by kernel_rfl) (by kernel_rfl) (by kernel_rfl) (fun _ _ _ h => h) (by kernel_rfl) ?hyq_17 (by assumption) ?restq_17
          case hyq_17 => (intro W9 hSw; (try dsimp only at hSw); go_simp; try (with_reducible rfl))
          (try simp only [Act.put, List.setIfInBounds_toArray, List.set_cons_zero, List.set_cons_succ])
          refine wpAnyH_done (by kernel_rfl) ?_ _
          have HBX := Lib.hid (hBx.out.trans (hbX.mono hwx))
          go_wp2
          go_roundw
          case rel => exact ⟨j + 1, by omega, by go_num, HBX⟩
          case measure => simp [intOf]; omega
        · obtain rfl : j = vs.length := by omega
          have c4x := (hBx.out.cell (p := ⟨g, o + k * 5 + 4, none⟩) hg).trans ((hB.out.cell (p := ⟨g, o + k * 5 + 4, none⟩) hg).symm.trans c4)
          have d4x := (hBx.out.cell (p := ⟨g', o' + k * 5 + 4, none⟩) hg').trans ((hB.out.cell (p := ⟨g', o' + k * 5 + 4, none⟩) hg').symm.trans d4)
          clear c0 c1 c2' c3 c4 d0 d1 d2 d3 d4
          go_wp2_with fail
          go_loopw [7] (fun i wy => ∃ j : Nat, j ≤ ss.length ∧ i = .int .i64 j ∧ Hid (Below w.heap.size w wy)) (fun i _ => ss.length - (intOf i).toNat)
          case atStart => exact ⟨0, by omega, rfl, hBx.out⟩
          case round =>
            obtain ⟨j, hj, rfl, hBy⟩ := hrel
            have c4y := (hBy.out.cell (p := ⟨g, o + k * 5 + 4, none⟩) hg).trans ((hBx.out.cell (p := ⟨g, o + k * 5 + 4, none⟩) hg).symm.trans c4x)
            have d4y := (hBy.out.cell (p := ⟨g', o' + k * 5 + 4, none⟩) hg').trans ((hBx.out.cell (p := ⟨g', o' + k * 5 + 4, none⟩) hg').symm.trans d4x)
            by_cases hjlt : j < ss.length
            · have hjlt2 : j < rs.length := by have := map_len HES.out; omega
              obtain ⟨gv, ov, rfl, hgv, x0⟩ := eR_at (HM1.out.s.below hBy.out) hjlt
              obtain ⟨gw, ow, rfl, hgw, y0⟩ := eR_at (HM2.out.s.below hBy.out) hjlt2
              have hdd := map_at HES.out hjlt hjlt2
              have HSA := Lib.hid (same7_any (ss[j]).A (rs[j]).A (ss[j]).c (rs[j]).c (ss[j]).l (rs[j]).l wr.drew hdd (HSM.out.1 _ (List.getElem_mem hjlt)) (((HM1.out.ss _ (List.getElem_mem hjlt)).1.below hBy.out.drew).more hBy.out.size) (((HM2.out.ss _ (List.getElem_mem hjlt2)).1.below hBy.out.drew).more hBy.out.size))
              generalize ss[j] = x at *
              generalize rs[j] = y at *
              clear hdd
              obtain ⟨xl, xA, xc⟩ := x
              obtain ⟨yl, yA, yc⟩ := y
              dsimp only at x0 y0 HSA
              have hwy := hBy.out.size
              go_wp2
              refine wp_region_held_drew (S := fun W9 => (W9.cell? ⟨g, o + k * 5 + 4, none⟩ = some (.slice (some ⟨gv, ov, none⟩) ss.length sc)) ∧ (W9.cell? ⟨g', o' + k * 5 + 4, none⟩ = some (.slice (some ⟨gw, ow, none⟩) ss.length rc)) ∧ (W9.cell? ⟨gv, ov + j, none⟩ = some (.slice xA xl.length xc)) ∧ (W9.cell? ⟨gw, ow + j, none⟩ = some (.slice yA yl.length yc))) (by kernel_rfl) (⟨c4y, d4y, x0, y0⟩) (fun hHeld => ?_)
              refine heldTake (i := 0) (d := some 124) (v := ?_) rfl rfl (by kernel_rfl) (by kernel_rfl) (by kernel_rfl) (fun _ _ _ h => h) (by kernel_rfl) ?hyq_18 (by assumption) ?restq_18
              case hyq_18 => (intro W9 hSw; (try dsimp only at hSw); go_simp; try (with_reducible rfl))
              (try simp only [Act.put, List.setIfInBounds_toArray, List.set_cons_zero, List.set_cons_succ])
              refine heldTake (i := 1) (d := some 125) (v := ?_) rfl rfl (by kernel_rfl) (by kernel_rfl) (by kernel_rfl) (fun _ _ _ h => h) (by kernel_rfl) ?hyq_19 (by assumption) ?restq_19
              case hyq_19 => (intro W9 hSw; (try dsimp only at hSw); go_simp; try (with_reducible rfl))
              (try simp only [Act.put, List.setIfInBounds_toArray, List.set_cons_zero, List.set_cons_succ])
              refine heldTake (i := 2) (d := some 126) (v := ?_) rfl rfl (by kernel_rfl) (by kernel_rfl) (by kernel_rfl) (fun _ _ _ h => h) (by kernel_rfl) ?hyq_20 (by assumption) ?restq_20
              case hyq_20 => (intro W9 hSw; (try dsimp only at hSw); go_simp; try (with_reducible rfl))
              (try simp only [Act.put, List.setIfInBounds_toArray, List.set_cons_zero, List.set_cons_succ])
              refine heldTake (i := 3) (d := some 127) (v := ?_) rfl rfl (by kernel_rfl) (by kernel_rfl) (by kernel_rfl) (fun _ _ _ h => h) (by kernel_rfl) ?hyq_21 (by assumption) ?restq_21
              case hyq_21 => (intro W9 hSw; (try dsimp only at hSw); go_simp; try (with_reducible rfl))
              (try simp only [Act.put, List.setIfInBounds_toArray, List.set_cons_zero, List.set_cons_succ])
              refine heldTake (i := 4) (d := some 128) (v := ?_) rfl rfl (by kernel_rfl) (by kernel_rfl) (by kernel_rfl) (fun _ _ _ h => h) (by kernel_rfl) ?hyq_22 (by assumption) ?restq_22
              case hyq_22 => (intro W9 hSw; (try dsimp only at hSw); go_simp; try (with_reducible rfl))
              (try simp only [Act.put, List.setIfInBounds_toArray, List.set_cons_zero, List.set_cons_succ])
              refine heldTake (i := 5) (d := some 129) (v := ?_) rfl rfl (by kernel_rfl) (by kernel_rfl) (by kernel_rfl) (fun _ _ _ h => h) (by kernel_rfl) ?hyq_23 (by assumption) ?restq_23
              case hyq_23 => (intro W9 hSw; (try dsimp only at hSw); go_simp; try (with_reducible rfl))
              (try simp only [Act.put, List.setIfInBounds_toArray, List.set_cons_zero, List.set_cons_succ])
              refine heldTake (i := 6) (d := some 130) (v := ?_) rfl rfl (by kernel_rfl) (by kernel_rfl) (by kernel_rfl) (fun _ _ _ h => h) (by kernel_rfl) ?hyq_24 (by assumption) ?restq_24
              case hyq_24 => (intro W9 hSw; (try dsimp only at hSw); go_simp; try (with_reducible rfl))
              (try simp only [Act.put, List.setIfInBounds_toArray, List.set_cons_zero, List.set_cons_succ])
              refine heldTake (i := 7) (d := some 131) (v := ?_) rfl rfl (by kernel_rfl) (by kernel_rfl) (by kernel_rfl) (fun _ _ _ h => h) (by kernel_rfl) ?hyq_25 (by assumption) ?restq_25
              case hyq_25 => (intro W9 hSw; (try dsimp only at hSw); go_simp; try (with_reducible rfl))
              (try simp only [Act.put, List.setIfInBounds_toArray, List.set_cons_zero, List.set_cons_succ])
              refine heldTake (i := 8) (d := some 132) (v := ?_) rfl rfl (by kernel_rfl) (by kernel_rfl) (by kernel_rfl) (fun _ _ _ h => h) (by kernel_rfl) ?hyq_26 (by assumption) ?restq_26
              case hyq_26 => (intro W9 hSw; (try dsimp only at hSw); go_simp; try (with_reducible rfl))
              (try simp only [Act.put, List.setIfInBounds_toArray, List.set_cons_zero, List.set_cons_succ])
              refine heldTake (i := 9) (d := some 133) (v := ?_) rfl rfl (by kernel_rfl) (by kernel_rfl) (by kernel_rfl) (fun _ _ _ h => h) (by kernel_rfl) ?hyq_27 (by assumption) ?restq_27
              case hyq_27 => (intro W9 hSw; (try dsimp only at hSw); go_simp; try (with_reducible rfl))
              (try simp only [Act.put, List.setIfInBounds_toArray, List.set_cons_zero, List.set_cons_succ])
              refine heldTake (i := 10) (d := some 134) (v := ?_) rfl rfl (by kernel_rfl) (by kernel_rfl) (by kernel_rfl) (fun _ _ _ h => h) (by kernel_rfl) ?hyq_28 (by assumption) ?restq_28
              case hyq_28 => (intro W9 hSw; (try dsimp only at hSw); go_simp; try (with_reducible rfl))
              (try simp only [Act.put, List.setIfInBounds_toArray, List.set_cons_zero, List.set_cons_succ])
              refine heldTake (i := 11) (d := some 135) (v := ?_) rfl rfl (by kernel_rfl) (by kernel_rfl) (by kernel_rfl) (fun _ _ _ h => h) (by kernel_rfl) ?hyq_29 (by assumption) ?restq_29
              case hyq_29 => (intro W9 hSw; (try dsimp only at hSw); go_simp; try (with_reducible rfl))
              (try simp only [Act.put, List.setIfInBounds_toArray, List.set_cons_zero, List.set_cons_succ])
              refine heldTake (i := 12) (d := some 136) (v := ?_) rfl rfl (by kernel_rfl) (by kernel_rfl) (by kernel_rfl) (fun _ _ _ h => h) (by kernel_rfl) ?hyq_30 (by assumption) ?restq_30
              case hyq_30 => (intro W9 hSw; (try dsimp only at hSw); go_simp; try (with_reducible rfl))
              (try simp only [Act.put, List.setIfInBounds_toArray, List.set_cons_zero, List.set_cons_succ])
              refine heldTake (i := 13) (d := some 137) (v := ?_) rfl rfl (by kernel_rfl) (by kernel_rfl) (by kernel_rfl) (fun _ _ _ h => h) (by kernel_rfl) ?hyq_31 (by assumption) ?restq_31
              case hyq_31 => (intro W9 hSw; (try dsimp only at hSw); go_simp; try (with_reducible rfl))
              (try simp only [Act.put, List.setIfInBounds_toArray, List.set_cons_zero, List.set_cons_succ])
              refine heldTake (i := 14) (d := some 138) (v := ?_) rfl rfl (by kernel_rfl) (by kernel_rfl) (by kernel_rfl) (fun _ _ _ h => h) (by kernel_rfl) ?hyq_32 (by assumption) ?restq_32
              case hyq_32 => (intro W9 hSw; (try dsimp only at hSw); go_simp; try (with_reducible rfl))
              (try simp only [Act.put, List.setIfInBounds_toArray, List.set_cons_zero, List.set_cons_succ])
              refine heldTake (i := 15) (d := some 139) (v := ?_) rfl rfl (by kernel_rfl) (by kernel_rfl) (by kernel_rfl) (fun _ _ _ h => h) (by kernel_rfl) ?hyq_33 (by assumption) ?restq_33
              case hyq_33 => (intro W9 hSw; (try dsimp only at hSw); go_simp; try (with_reducible rfl))
              (try simp only [Act.put, List.setIfInBounds_toArray, List.set_cons_zero, List.set_cons_succ])
              refine wpAnyH_ready (rs := [16]) (by kernel_rfl) (by simp) ?_
              refine AllReadyH.cons rfl (fun K hK => ?_) AllReadyH.nil
              go_simp
              go_at_call 27
              refine HSA.out.mono ?_
              rintro e9 X ⟨rfl, hbX⟩
              have hbX := below_of_drew hbX
              have hSX : (X.cell? ⟨g, o + k * 5 + 4, none⟩ = some (.slice (some ⟨gv, ov, none⟩) ss.length sc)) ∧ (X.cell? ⟨g', o' + k * 5 + 4, none⟩ = some (.slice (some ⟨gw, ow, none⟩) ss.length rc)) ∧ (X.cell? ⟨gv, ov + j, none⟩ = some (.slice xA xl.length xc)) ∧ (X.cell? ⟨gw, ow + j, none⟩ = some (.slice yA yl.length yc)) := ⟨(hbX.cell (p := ⟨g, o + k * 5 + 4, none⟩) (by dsimp only; omega)).trans c4y, (hbX.cell (p := ⟨g', o' + k * 5 + 4, none⟩) (by dsimp only; omega)).trans d4y, (hbX.cell (p := ⟨gv, ov + j, none⟩) (by dsimp only; omega)).trans x0, (hbX.cell (p := ⟨gw, ow + j, none⟩) (by dsimp only; omega)).trans y0⟩
              go_wp2_with fail
              refine hK.out _ _ hSX (fun hHeld => ?_)
              clear hK K
              (try simp only [Act.put, List.setIfInBounds_toArray, List.set_cons_zero, List.set_cons_succ])
              refine heldTake (i := 17) (d := some 141) (v := ?_) rfl rfl (by kernel_rfl) (by kernel_rfl) (by kernel_rfl) (fun _ _ _ h => h) (by kernel_rfl) ?hyq_34 (by assumption) ?restq_34
              case hyq_34 => (intro W9 hSw; (try dsimp only at hSw); go_simp; try (with_reducible rfl))
              (try simp only [Act.put, List.setIfInBounds_toArray, List.set_cons_zero, List.set_cons_succ])
              refine wpAnyH_done (by kernel_rfl) ?_ _
              have HBX := Lib.hid (hBy.out.trans (hbX.mono hwy))
              go_wp2
              go_roundw
              case rel => exact ⟨j + 1, by omega, by go_num, HBX⟩
              case measure => simp [intOf]; omega
            · obtain rfl : j = ss.length := by omega
              go_wp2_with fail
              go_roundw
              case rel => exact ⟨k + 1, by omega, by go_num, hBy⟩
              case measure => simp [intOf]; omega
    · obtain rfl : k = ps.length := by omega
      go_wp2
      go_ret
      exact ⟨rfl, hB.out⟩
end Go.Proofs.YtbkfkdiadeaooaaGreat
