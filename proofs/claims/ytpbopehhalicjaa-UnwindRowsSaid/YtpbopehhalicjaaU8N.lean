/-
  Contracts of the document's Same (of like ones) and Twin.
-/
import Derived.Test.YtpbopehhalicjaaU8M
namespace Go.Proofs.Ytpbopehhalicjaa
open Go Go.RowKit

set_option maxRecDepth 100000 in
set_option maxHeartbeats 2000000 in
theorem same8_any (A A2 : Option Addr) (c c2 : Nat) (ps qs : List Ps) (w : World) (he : ps.map Ps.sp = qs.map Ps.sp) (hs : Sm ps) (h : SLies w w.heap.size A ps) (h2 : SLies w w.heap.size A2 qs) :
    Calls Try.prog 10 #[.slice A ps.length c, .slice A2 qs.length c2] w (BoolR true w) := by
  have hlen : ps.length = qs.length := by have := congrArg List.length he; simpa using this
  rw [← hlen]
  have HE := Lib.hid he
  have HLN := Lib.hid hlen
  have HSM := Lib.hid hs
  have hls := hs.1
  clear he hlen hs
  go_enter Try.func10, Try.ntmps10
  go_wp2
  go_loopw [5] (fun i wr => ∃ k : Nat, k ≤ ps.length ∧ i = .int .i64 k ∧ Hid (Below w.heap.size w wr)) (fun i _ => ps.length - (intOf i).toNat)
  case atStart => exact ⟨0, by omega, rfl, Below.refl _ _⟩
  case round =>
    obtain ⟨k, hk, rfl, hB⟩ := hrel
    by_cases hlt : k < ps.length
    · have hlt2 : k < qs.length := by have := HLN.out; omega
      obtain ⟨g, o, rfl, hg, c1, c2', c3, c4⟩ := (h.1.below hB.out).at_ hlt
      obtain ⟨g', o', rfl, hg', d1, d2, d3, d4⟩ := (h2.1.below hB.out).at_ hlt2
      have hsp : (ps[k]).sp = (qs[k]).sp := by
        have h1 : (ps.map Ps.sp)[k]? = (qs.map Ps.sp)[k]? := by rw [HE.out]
        rw [List.getElem?_map, List.getElem?_map, List.getElem?_eq_getElem hlt, List.getElem?_eq_getElem hlt2] at h1
        simpa using h1
      have hm1 := (h.2 _ (List.getElem_mem hlt)).below hB.out
      have hm2 := (h2.2 _ (List.getElem_mem hlt2)).below hB.out
      have hal := HSM.out.2 _ (List.getElem_mem hlt)
      have hwr := hB.out.size
      generalize ps[k] = p at *
      generalize qs[k] = q at *
      obtain ⟨pf, pt, pu, pa, pA, pc⟩ := p
      obtain ⟨qf, qt, qu, qa, qA, qc⟩ := q
      simp only [Ps.sp, Sp.mk.injEq] at hsp
      obtain ⟨rfl, rfl, rfl, rfl⟩ := hsp
      have HSA := Lib.hid (sameOne_any pf pt pu pa pA qA pc qc wr.drew hal ((hm1.2.2.more hwr).below (Below.refl _ _).drew) ((hm2.2.2.more hwr).below (Below.refl _ _).drew))
      clear hm1 hm2 hal
      dsimp only at c1 c2' c3 c4 d1 d2 d3 d4
      go_wp2
      refine wp_region_held_drew (S := fun W9 => (W9.cell? ⟨g, o + k * 4, none⟩ = some (.int .i64 pf) ∧ W9.cell? ⟨g, o + k * 4 + 1, none⟩ = some (.int .i64 pt) ∧ W9.cell? ⟨g, o + k * 4 + 2, none⟩ = some (.int .i64 pu) ∧ W9.cell? ⟨g, o + k * 4 + 3, none⟩ = some (.slice pA pa.length pc)) ∧ (W9.cell? ⟨g', o' + k * 4, none⟩ = some (.int .i64 pf) ∧ W9.cell? ⟨g', o' + k * 4 + 1, none⟩ = some (.int .i64 pt) ∧ W9.cell? ⟨g', o' + k * 4 + 2, none⟩ = some (.int .i64 pu) ∧ W9.cell? ⟨g', o' + k * 4 + 3, none⟩ = some (.slice qA pa.length qc))) (by kernel_rfl) (⟨⟨c1, c2', c3, c4⟩, ⟨d1, d2, d3, d4⟩⟩) (fun hHeld => ?_)
      refine heldTake (i := 0) (d := some 17) (v := ?_) rfl rfl (by kernel_rfl) (by kernel_rfl) (by kernel_rfl) (fun _ _ _ h => h) (by kernel_rfl) ?hyq_1 (by assumption) ?restq_1
      case hyq_1 => (intro W9 hSw; (try dsimp only at hSw); go_simp; try (with_reducible rfl))
      (try simp only [Act.put, List.setIfInBounds_toArray, List.set_cons_zero, List.set_cons_succ])
      refine heldTake (i := 1) (d := some 18) (v := ?_) rfl rfl (by kernel_rfl) (by kernel_rfl) (by kernel_rfl) (fun _ _ _ h => h) (by kernel_rfl) ?hyq_2 (by assumption) ?restq_2
      case hyq_2 => (intro W9 hSw; (try dsimp only at hSw); go_simp; try (with_reducible rfl))
      (try simp only [Act.put, List.setIfInBounds_toArray, List.set_cons_zero, List.set_cons_succ])
      refine heldTake (i := 2) (d := some 19) (v := ?_) rfl rfl (by kernel_rfl) (by kernel_rfl) (by kernel_rfl) (fun _ _ _ h => h) (by kernel_rfl) ?hyq_3 (by assumption) ?restq_3
      case hyq_3 => (intro W9 hSw; (try dsimp only at hSw); go_simp; try (with_reducible rfl))
      (try simp only [Act.put, List.setIfInBounds_toArray, List.set_cons_zero, List.set_cons_succ])
      refine heldTake (i := 3) (d := some 20) (v := ?_) rfl rfl (by kernel_rfl) (by kernel_rfl) (by kernel_rfl) (fun _ _ _ h => h) (by kernel_rfl) ?hyq_4 (by assumption) ?restq_4
      case hyq_4 => (intro W9 hSw; (try dsimp only at hSw); go_simp; try (with_reducible rfl))
      (try simp only [Act.put, List.setIfInBounds_toArray, List.set_cons_zero, List.set_cons_succ])
      refine heldTake (i := 4) (d := some 21) (v := ?_) rfl rfl (by kernel_rfl) (by kernel_rfl) (by kernel_rfl) (fun _ _ _ h => h) (by kernel_rfl) ?hyq_5 (by assumption) ?restq_5
      case hyq_5 => (intro W9 hSw; (try dsimp only at hSw); go_simp; try (with_reducible rfl))
      (try simp only [Act.put, List.setIfInBounds_toArray, List.set_cons_zero, List.set_cons_succ])
      refine heldTake (i := 5) (d := some 22) (v := ?_) rfl rfl (by kernel_rfl) (by kernel_rfl) (by kernel_rfl) (fun _ _ _ h => h) (by kernel_rfl) ?hyq_6 (by assumption) ?restq_6
      case hyq_6 => (intro W9 hSw; (try dsimp only at hSw); go_simp; try (with_reducible rfl))
      (try simp only [Act.put, List.setIfInBounds_toArray, List.set_cons_zero, List.set_cons_succ])
      refine heldTake (i := 6) (d := some 23) (v := ?_) rfl rfl (by kernel_rfl) (by kernel_rfl) (by kernel_rfl) (fun _ _ _ h => h) (by kernel_rfl) ?hyq_7 (by assumption) ?restq_7
      case hyq_7 => (intro W9 hSw; (try dsimp only at hSw); go_simp; try (with_reducible rfl))
      (try simp only [Act.put, List.setIfInBounds_toArray, List.set_cons_zero, List.set_cons_succ])
      refine heldTake (i := 7) (d := some 24) (v := ?_) rfl rfl (by kernel_rfl) (by kernel_rfl) (by kernel_rfl) (fun _ _ _ h => h) (by kernel_rfl) ?hyq_8 (by assumption) ?restq_8
      case hyq_8 => (intro W9 hSw; (try dsimp only at hSw); go_simp; try (with_reducible rfl))
      (try simp only [Act.put, List.setIfInBounds_toArray, List.set_cons_zero, List.set_cons_succ])
      refine wpAnyH_ready (rs := [8]) (by kernel_rfl) (by simp) ?_
      refine AllReadyH.cons rfl (fun K hK => ?_) AllReadyH.nil
      go_simp
      go_at_call 21
      refine HSA.out.mono ?_
      rintro e9 X ⟨rfl, hbX⟩
      have hbX := below_of_drew hbX
      have hSX : (X.cell? ⟨g, o + k * 4, none⟩ = some (.int .i64 pf) ∧ X.cell? ⟨g, o + k * 4 + 1, none⟩ = some (.int .i64 pt) ∧ X.cell? ⟨g, o + k * 4 + 2, none⟩ = some (.int .i64 pu) ∧ X.cell? ⟨g, o + k * 4 + 3, none⟩ = some (.slice pA pa.length pc)) ∧ (X.cell? ⟨g', o' + k * 4, none⟩ = some (.int .i64 pf) ∧ X.cell? ⟨g', o' + k * 4 + 1, none⟩ = some (.int .i64 pt) ∧ X.cell? ⟨g', o' + k * 4 + 2, none⟩ = some (.int .i64 pu) ∧ X.cell? ⟨g', o' + k * 4 + 3, none⟩ = some (.slice qA pa.length qc)) := ⟨⟨(hbX.cell (p := ⟨g, o + k * 4, none⟩) (by dsimp only; omega)).trans c1, (hbX.cell (p := ⟨g, o + k * 4 + 1, none⟩) (by dsimp only; omega)).trans c2', (hbX.cell (p := ⟨g, o + k * 4 + 2, none⟩) (by dsimp only; omega)).trans c3, (hbX.cell (p := ⟨g, o + k * 4 + 3, none⟩) (by dsimp only; omega)).trans c4⟩, ⟨(hbX.cell (p := ⟨g', o' + k * 4, none⟩) (by dsimp only; omega)).trans d1, (hbX.cell (p := ⟨g', o' + k * 4 + 1, none⟩) (by dsimp only; omega)).trans d2, (hbX.cell (p := ⟨g', o' + k * 4 + 2, none⟩) (by dsimp only; omega)).trans d3, (hbX.cell (p := ⟨g', o' + k * 4 + 3, none⟩) (by dsimp only; omega)).trans d4⟩⟩
      have HBX := Lib.hid (hB.out.trans (hbX.mono hwr))
      clear hbX
      go_wp2_with fail
      refine hK.out _ _ hSX (fun hHeld => ?_)
      clear hK K
      (try simp only [Act.put, List.setIfInBounds_toArray, List.set_cons_zero, List.set_cons_succ])
      refine heldTake (i := 9) (d := some 26) (v := ?_) rfl rfl (by kernel_rfl) (by kernel_rfl) (by kernel_rfl) (fun _ _ _ h => h) (by kernel_rfl) ?hyq_9 (by assumption) ?restq_9
      case hyq_9 => (intro W9 hSw; (try dsimp only at hSw); go_simp; try (with_reducible rfl))
      (try simp only [Act.put, List.setIfInBounds_toArray, List.set_cons_zero, List.set_cons_succ])
      refine wpAnyH_done (by kernel_rfl) ?_ _
      go_wp2
      go_roundw
      case rel => exact ⟨k + 1, by omega, by go_num, HBX⟩
      case measure => simp [intOf]; omega
    · obtain rfl : k = ps.length := by omega
      go_wp2
      go_ret
      exact ⟨rfl, hB.out⟩

theorem Mn.next {w w' : World} {p : Ps} (h : Mn w w.heap.size p) (hb : Below w.heap.size w w') : Mn w' w'.heap.size p := (h.below hb).more hb.size
def TwinR8 (ps : List Ps) (w : World) (e : Ending) (w' : World) : Prop := ∃ v, e = .returned v ∧ SpOwn w' w.heap.size v (ps.map Ps.sp) ∧ Below w.heap.size w w'
theorem take_sp {ps : List Ps} {k : Nat} (h : k < ps.length) : (ps.map Ps.sp).take (k + 1) = (ps.map Ps.sp).take k ++ [ps[k].sp] := by
  rw [← List.take_append_getElem (by simpa using h), List.getElem_map]

end Go.Proofs.Ytpbopehhalicjaa
