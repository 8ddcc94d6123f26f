/-
  Contracts of the document's Same (of like ones) and Twin.
-/
import Derived.Test.YtgpoicbbmaimpaaU8M
namespace Go.Proofs.Ytgpoicbbmaimpaa
open Go Go.RowKit

set_option maxRecDepth 100000 in
set_option maxHeartbeats 2000000 in
theorem same8_any (A A2 : Option Addr) (c c2 : Nat) (ps qs : List Ps) (w : World) (he : ps.map Ps.sp = qs.map Ps.sp) (hs : Sm ps) (h : SLies w w.heap.size A ps) (h2 : SLies w w.heap.size A2 qs) :
    Calls Try.prog 15 #[.slice A ps.length c, .slice A2 qs.length c2] w (BoolR true w) := by
  have hlen : ps.length = qs.length := by have := congrArg List.length he; simpa using this
  rw [← hlen]
  have HE := Lib.hid he
  have HLN := Lib.hid hlen
  have HSM := Lib.hid hs
  have hls := hs.1
  clear he hlen hs
  go_enter Try.func15, Try.ntmps15
  go_wp2
  go_loopw [5] (fun i wr => ∃ k : Nat, k ≤ ps.length ∧ i = .int .i64 k ∧ Hid (Below w.heap.size w wr)) (fun i _ => ps.length - (intOf i).toNat)
  case atStart => exact ⟨0, by omega, rfl, Below.refl _ _⟩
  case round =>
    obtain ⟨k, hk, rfl, hB⟩ := hrel
    by_cases hlt : k < ps.length
    · have hlt2 : k < qs.length := by have := HLN.out; omega
      obtain ⟨g, o, rfl, hg, c1, c2', c3, c4⟩ := (h.1.below hB.out).at_ hlt
      obtain ⟨g', o', rfl, hg', d1, d2, d3, d4⟩ := (h2.1.below hB.out).at_ hlt2
      have hsp : (ps[k]).sp = (qs[k]).sp := by
        have h1 : (ps.map Ps.sp)[k]? = (qs.map Ps.sp)[k]? := by rw [HE.out]
        rw [List.getElem?_map, List.getElem?_map, List.getElem?_eq_getElem hlt, List.getElem?_eq_getElem hlt2] at h1
        simpa using h1
      have hm1 := (h.2 _ (List.getElem_mem hlt)).below hB.out
      have hm2 := (h2.2 _ (List.getElem_mem hlt2)).below hB.out
      have hal := HSM.out.2 _ (List.getElem_mem hlt)
      have hwr := hB.out.size
      generalize ps[k] = p at *
      generalize qs[k] = q at *
      obtain ⟨pf, pt, pu, pa, pA, pc⟩ := p
      obtain ⟨qf, qt, qu, qa, qA, qc⟩ := q
      simp only [Ps.sp, Sp.mk.injEq] at hsp
      obtain ⟨rfl, rfl, rfl, rfl⟩ := hsp
      have HSA := Lib.hid (sameOne_any pf pt pu pa pA qA pc qc wr.drew hal ((hm1.2.2.more hwr).below (Below.refl _ _).drew) ((hm2.2.2.more hwr).below (Below.refl _ _).drew))
      clear hm1 hm2 hal
      dsimp only at c1 c2' c3 c4 d1 d2 d3 d4
      go_wp2
      refine wp_region_held_drew (S := fun W9 => (W9.cell? ⟨g, o + k * 4, none⟩ = some (.int .i64 pf) ∧ W9.cell? ⟨g, o + k * 4 + 1, none⟩ = some (.int .i64 pt) ∧ W9.cell? ⟨g, o + k * 4 + 2, none⟩ = some (.int .i64 pu) ∧ W9.cell? ⟨g, o + k * 4 + 3, none⟩ = some (.slice pA pa.length pc)) ∧ (W9.cell? ⟨g', o' + k * 4, none⟩ = some (.int .i64 pf) ∧ W9.cell? ⟨g', o' + k * 4 + 1, none⟩ = some (.int .i64 pt) ∧ W9.cell? ⟨g', o' + k * 4 + 2, none⟩ = some (.int .i64 pu) ∧ W9.cell? ⟨g', o' + k * 4 + 3, none⟩ = some (.slice qA pa.length qc))) (by kernel_rfl) (⟨⟨c1, c2', c3, c4⟩, ⟨d1, d2, d3, d4⟩⟩) (fun hHeld => ?_)
      refine heldTake (i := 0) (d := some 17) (v := ?_) rfl rfl (by kernel_rfl) (by kernel_rfl) (by kernel_rfl) (fun _ _ _ h => h) (by kernel_rfl) ?hyq_1 (by assumption) ?restq_1
      case hyq_1 => (intro W9 hSw; (try dsimp only at hSw); go_simp; try (with_reducible rfl))
      (try simp only [Act.put, List.setIfInBounds_toArray, List.set_cons_zero, List.set_cons_succ])
      refine heldTake (i := 1) (d := some 18) (v := ?_) rfl rfl (by kernel_rfl) (by kernel_rfl) (by kernel_rfl) (fun _ _ _ h => h) (by kernel_rfl) ?hyq_2 (by assumption) ?restq_2
      case hyq_2 => (intro W9 hSw; (try dsimp only at hSw); go_simp; try (with_reducible rfl))
      (try simp only [Act.put, List.setIfInBounds_toArray, List.set_cons_zero, List.set_cons_succ])
      refine heldTake (i := 2) (d := some 19) (v := ?_) rfl rfl (by kernel_rfl) (by kernel_rfl) (by kernel_rfl) (fun _ _ _ h => h) (by kernel_rfl) ?hyq_3 (by assumption) ?restq_3
      case hyq_3 => (intro W9 hSw; (try dsimp only at hSw); go_simp; try (with_reducible rfl))
      (try simp only [Act.put, List.setIfInBounds_toArray, List.set_cons_zero, List.set_cons_succ])
      refine heldTake (i := 3) (d := some 20) (v := ?_) rfl rfl (by kernel_rfl) (by kernel_rfl) (by kernel_rfl) (fun _ _ _ h => h) (by kernel_rfl) ?hyq_4 (by assumption) ?restq_4
      case hyq_4 => (intro W9 hSw; (try dsimp only at hSw); go_simp; try (with_reducible rfl))
      (try simp only [Act.put, List.setIfInBounds_toArray, List.set_cons_zero, List.set_cons_succ])
      refine heldTake (i := 4) (d := some 21) (v := ?_) rfl rfl (by kernel_rfl) (by kernel_rfl) (by kernel_rfl) (fun _ _ _ h => h) (by kernel_rfl) ?hyq_5 (by assumption) ?restq_5
      case hyq_5 => (intro W9 hSw; (try dsimp only at hSw); go_simp; try (with_reducible rfl))
      (try simp only [Act.put, List.setIfInBounds_toArray, List.set_cons_zero, List.set_cons_succ])
      refine heldTake (i := 5) (d := some 22) (v := ?_) rfl rfl (by kernel_rfl) (by kernel_rfl) (by kernel_rfl) (fun _ _ _ h => h) (by kernel_rfl) ?hyq_6 (by assumption) ?restq_6
      case hyq_6 => (intro W9 hSw; (try dsimp only at hSw); go_simp; try (with_reducible rfl))
      (try simp only [Act.put, List.setIfInBounds_toArray, List.set_cons_zero, List.set_cons_succ])
      refine heldTake (i := 6) (d := some 23) (v := ?_) rfl rfl (by kernel_rfl) (by kernel_rfl) (by kernel_rfl) (fun _ _ _ h => h) (by kernel_rfl) ?hyq_7 (by assumption) ?restq_7
      case hyq_7 => (intro W9 hSw; (try dsimp only at hSw); go_simp; try (with_reducible rfl))
      (try simp only [Act.put, List.setIfInBounds_toArray, List.set_cons_zero, List.set_cons_succ])
      refine heldTake (i := 7) (d := some 24) (v := ?_) rfl rfl (by kernel_rfl) (by kernel_rfl) (by kernel_rfl) (fun _ _ _ h => h) (by kernel_rfl) ?hyq_8 (by assumption) ?restq_8
      case hyq_8 => (intro W9 hSw; (try dsimp only at hSw); go_simp; try (with_reducible rfl))
      (try simp only [Act.put, List.setIfInBounds_toArray, List.set_cons_zero, List.set_cons_succ])
      refine wpAnyH_ready (rs := [8]) (by kernel_rfl) (by simp) ?_
      refine AllReadyH.cons rfl (fun K hK => ?_) AllReadyH.nil
      go_simp
      go_at_call 28
      refine HSA.out.mono ?_
      rintro e9 X ⟨rfl, hbX⟩
      have hbX := below_of_drew hbX
      have hSX : (X.cell? ⟨g, o + k * 4, none⟩ = some (.int .i64 pf) ∧ X.cell? ⟨g, o + k * 4 + 1, none⟩ = some (.int .i64 pt) ∧ X.cell? ⟨g, o + k * 4 + 2, none⟩ = some (.int .i64 pu) ∧ X.cell? ⟨g, o + k * 4 + 3, none⟩ = some (.slice pA pa.length pc)) ∧ (X.cell? ⟨g', o' + k * 4, none⟩ = some (.int .i64 pf) ∧ X.cell? ⟨g', o' + k * 4 + 1, none⟩ = some (.int .i64 pt) ∧ X.cell? ⟨g', o' + k * 4 + 2, none⟩ = some (.int .i64 pu) ∧ X.cell? ⟨g', o' + k * 4 + 3, none⟩ = some (.slice qA pa.length qc)) := ⟨⟨(hbX.cell (p := ⟨g, o + k * 4, none⟩) (by dsimp only; omega)).trans c1, (hbX.cell (p := ⟨g, o + k * 4 + 1, none⟩) (by dsimp only; omega)).trans c2', (hbX.cell (p := ⟨g, o + k * 4 + 2, none⟩) (by dsimp only; omega)).trans c3, (hbX.cell (p := ⟨g, o + k * 4 + 3, none⟩) (by dsimp only; omega)).trans c4⟩, ⟨(hbX.cell (p := ⟨g', o' + k * 4, none⟩) (by dsimp only; omega)).trans d1, (hbX.cell (p := ⟨g', o' + k * 4 + 1, none⟩) (by dsimp only; omega)).trans d2, (hbX.cell (p := ⟨g', o' + k * 4 + 2, none⟩) (by dsimp only; omega)).trans d3, (hbX.cell (p := ⟨g', o' + k * 4 + 3, none⟩) (by dsimp only; omega)).trans d4⟩⟩
      have HBX := Lib.hid (hB.out.trans (hbX.mono hwr))
      clear hbX
      go_wp2_with fail
      refine hK.out _ _ hSX (fun hHeld => ?_)
      clear hK K
      (try simp only [Act.put, List.setIfInBounds_toArray, List.set_cons_zero, List.set_cons_succ])
      refine heldTake (i := 9) (d := some 26) (v := ?_) rfl rfl (by kernel_rfl) (by kernel_rfl) (by kernel_rfl) (fun _ _ _ h => h) (by kernel_rfl) ?hyq_9 (by assumption) ?restq_9
      case hyq_9 => (intro W9 hSw; (try dsimp only at hSw); go_simp; try (with_reducible rfl))
      (try simp only [Act.put, List.setIfInBounds_toArray, List.set_cons_zero, List.set_cons_succ])
      refine wpAnyH_done (by kernel_rfl) ?_ _
      go_wp2
      go_roundw
      case rel => exact ⟨k + 1, by omega, by go_num, HBX⟩
      case measure => simp [intOf]; omega
    · obtain rfl : k = ps.length := by omega
      go_wp2
      go_ret
      exact ⟨rfl, hB.out⟩

theorem Mn.next {w w' : World} {p : Ps} (h : Mn w w.heap.size p) (hb : Below w.heap.size w w') : Mn w' w'.heap.size p := (h.below hb).more hb.size
def TwinR8 (ps : List Ps) (w : World) (e : Ending) (w' : World) : Prop := ∃ v, e = .returned v ∧ SpOwn w' w.heap.size v (ps.map Ps.sp) ∧ Below w.heap.size w w'
theorem take_sp {ps : List Ps} {k : Nat} (h : k < ps.length) : (ps.map Ps.sp).take (k + 1) = (ps.map Ps.sp).take k ++ [ps[k].sp] := by
  rw [← List.take_append_getElem (by simpa using h), List.getElem_map]

set_option maxRecDepth 100000 in
set_option maxHeartbeats 2000000 in
theorem twin8_any (A : Option Addr) (c : Nat) (ps : List Ps) (w : World) (hs : Sm ps) (hn : ps.length ≤ 1000000) (h : SLies w w.heap.size A ps) :
    Calls Try.prog 10 #[.slice A ps.length c] w (TwinR8 ps w) := by
  have HSM := Lib.hid hs.2
  clear hs
  go_enter Try.func10, Try.ntmps10
  go_wp2
  go_loopw [3, 4] (fun v i wr => ∃ k : Nat, k ≤ ps.length ∧ i = .int .i64 k ∧ Hid (SpOwn wr w.heap.size v ((ps.map Ps.sp).take k)) ∧ Hid (Below w.heap.size w wr)) (fun _ i _ => ps.length - (intOf i).toNat)
  case atStart => exact ⟨0, by omega, rfl, SpOwn.nil _ _, Below.refl _ _⟩
  case round =>
    obtain ⟨k, hk, rfl, hO, hB⟩ := hrel
    by_cases hlt : k < ps.length
    · obtain ⟨g, o, rfl, hg, c1, c2, c3, c4⟩ := (h.1.below hB.out).at_ hlt
      have hm1 := (h.2 _ (List.getElem_mem hlt)).below hB.out
      have hal := HSM.out _ (List.getElem_mem hlt)
      have hwr := hB.out.size
      have HT := Lib.hid (take_sp hlt)
      have hln : ((ps.map Ps.sp).take k).length ≤ 1000000 := by rw [List.length_take, List.length_map]; omega
      generalize (ps.map Ps.sp).take k = ls at *
      generalize ps[k] = p at *
      obtain ⟨pf, pt, pu, pa, pA, pc⟩ := p
      dsimp only at c1 c2 c3 c4 hal
      simp only [Ps.sp] at HT
      have hb1 := below_lnew wr (.cells (pK ⟨pf, pt, pu, pa, pA, pc⟩) 48)
      have hb2 := below_lnew (wr.alloc (.cells (pK ⟨pf, pt, pu, pa, pA, pc⟩) 48)) (.cells #[] 50)
      have HX1 := Lib.hid ((spAt_new wr ⟨pf, pt, pu, pa, pA, pc⟩).below hb2 (by simp))
      have HE1 := Lib.hid (lown_empty (wr.alloc (.cells (pK ⟨pf, pt, pu, pa, pA, pc⟩) 48)))
      have HW2 := Lib.hid (hb1.trans (hb2.mono hb1.size))
      have HM2 := Lib.hid (((hm1.more hwr).next hb1).next hb2)
      have hgs : g < wr.heap.size := by omega
      have x1 := (((hb1.cell (p := ⟨g, o + k * 4 + 3, none⟩) hgs).trans c4))
      have x2 := ((hb2.cell (p := ⟨g, o + k * 4 + 3, none⟩) (by simp; omega)).trans x1)
      unfold pK at HX1 HE1 HW2 HM2 x1 x2
      simp only [World.size_alloc] at HE1
      dsimp only at HX1 HE1 HW2 HM2 x1 x2
      clear hb1 hb2 hm1
      go_wp2_with (first
        | (at_builtin
           refine app_locs _ rfl (.tmp 16) (.tmp 21) rfl (wr.heap.size + 1) _ [] rfl HE1.out pA pc _ pa rfl HM2.out.2.1 HM2.out.2.2 (by simp; omega) (by simp) ?_
           intro v5 w5 ho5 hg5
           rw [List.nil_append] at ho5
           have HX5 := Lib.hid (HX1.out.kept8 hg5 (fun e => absurd (Option.some.inj e) (Nat.succ_ne_self _)))
           have HW5 := Lib.hid (HW2.out.grown hg5 (by simp; omega) (fun j e => by cases e; exact Nat.le_succ _))
           obtain ⟨A5, n5, c5, rfl, hn5, _, _, _⟩ := ho5.formN
           have f5 := HX5.out.frozen
           have g5 := HX5.out.at_
           have HX6 := Lib.hid (HX5.out.putA A5 c5 n5 pa hn5.out)
           have HW6 := Lib.hid (HW5.out.setCell (p := ⟨wr.heap.size, 3, none⟩) (Nat.le_refl _) (.slice A5 n5 c5))
           have HL6 := Lib.hid (ho5.set8 (p := ⟨wr.heap.size, 3, none⟩) (.slice A5 n5 c5) (by dsimp only; omega))
           have f0 := HX6.out.fr
           have f1 := HX6.out.to
           have f2 := HX6.out.up
           have f3 := HX6.out.at_
           have hz5 := hg5.size
           simp only [World.size_alloc] at hz5
           rw [hn5.out] at f3
           dsimp only at g5 HX6 f0 f1 f2 f3
           have hb7 := below_lnew (w5.setCell ⟨wr.heap.size, 3, none⟩ (.slice A5 n5 c5)) (.cells #[.int .i64 pf, .int .i64 pt, .int .i64 pu, .slice A5 n5 c5] 48)
           have HS7 := Lib.hid (show SpAt ((w5.setCell ⟨wr.heap.size, 3, none⟩ (.slice A5 n5 c5)).alloc (.cells #[.int .i64 pf, .int .i64 pt, .int .i64 pu, .slice A5 n5 c5] 48)) w5.heap.size ⟨pf, pt, pu, pa, A5, c5⟩ from by
             have := spAt_new (w5.setCell ⟨wr.heap.size, 3, none⟩ (.slice A5 n5 c5)) ⟨pf, pt, pu, pa, A5, c5⟩
             unfold pK at this
             dsimp only at this
             rw [hn5.out, show (w5.setCell ⟨wr.heap.size, 3, none⟩ (.slice A5 n5 c5)).heap.size = w5.heap.size by simp [World.setCell]] at this
             exact this)
           have HW7 := Lib.hid (HW6.out.trans (hb7.mono (by simp [World.setCell]; omega)))
           have HO7 := Lib.hid (hO.out.below HW7.out)
           have HL7 := Lib.hid (show LOwn _ w.heap.size (.slice A5 pa.length c5) pa from by rw [hn5.out]; exact (HL6.out.below hb7).base (by omega))
           have hz7 : w.heap.size ≤ ((w5.setCell ⟨wr.heap.size, 3, none⟩ (.slice A5 n5 c5)).alloc (.cells #[.int .i64 pf, .int .i64 pt, .int .i64 pu, .slice A5 n5 c5] 48)).heap.size := by simp [World.setCell]; omega
           clear hg5 ho5 hb7)
        | (at_builtin
           refine app_sp _ rfl (.tmp 24) (.tmp 26) rfl w.heap.size _ ls rfl HO7.out w5.heap.size 1 ⟨pf, pt, pu, pa, A5, c5⟩ rfl HS7.out HL7.out hln hz7 ?_
           intro v9 w9 ho9 hg9 hk9
           have HB9 := Lib.hid ((hB.out.trans (HW7.out.mono hwr)).grown hg9 hz7 hk9)
           have HO9 := Lib.hid ho9
           clear hg9 hk9 ho9))
      go_roundw
      case rel => exact ⟨k + 1, by omega, by go_num, by rw [HT.out]; exact HO9, HB9⟩
      case measure => simp [intOf]; omega
    · obtain rfl : k = ps.length := by omega
      rw [List.take_of_length_le (by simp)] at hO
      go_wp2
      go_ret
      exact ⟨_, rfl, hO.out, hB.out⟩
end Go.Proofs.Ytgpoicbbmaimpaa
