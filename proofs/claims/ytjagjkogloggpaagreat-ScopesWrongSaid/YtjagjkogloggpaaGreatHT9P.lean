/-
  Merged for a claim: T9P.
-/
import Derived.Laws.Concat
import Derived.Test.YtjagjkogloggpaaGreatHJ26
namespace Go.Proofs.YtjagjkogloggpaaGreat
open Go Go.RowKit

def TbW (w : World) (A : Option Addr) (c : Nat) (ps : List Pp) (A2 : Option Addr) (c2 : Nat) (qs : List Pq) (W : World) : Prop := BkW w none [] A c ps A2 c2 qs none [] W
theorem Below.cell_setCell' {W : World} {g gs o o2 : Nat} {u v : Value} (hne : g ≠ gs) (h : W.cell? ⟨g, o, none⟩ = some v) : (W.setCell ⟨gs, o2, none⟩ u).cell? ⟨g, o, none⟩ = some v :=
  (World.cell?_of_block (Below.heap_setCell W _ u g hne)).trans h
theorem cell_set_off {W : World} {g o o2 : Nat} {u : Value} (hne : o ≠ o2) : (W.setCell ⟨g, o2, none⟩ u).cell? ⟨g, o, none⟩ = W.cell? ⟨g, o, none⟩ := by
  refine World.cell?_setCell_other W _ _ u (fun e => ?_)
  injection e with _ e2
  exact hne e2.symm
theorem own_hasg {α : Type} {K : El α} {w : World} {B g n c : Nat} {xs : List α} (h : K.Own w B (.slice (some ⟨g, 0, none⟩) n c) xs) : HasT w g K.e := h.has g rfl
theorem TbW.next {w W W' : World} {A A2 : Option Addr} {c c2 : Nat} {ps : List Pp} {qs : List Pq} (h : TbW w A c ps A2 c2 qs W) (hb : Below W.heap.size W W') : TbW w A c ps A2 c2 qs W' := BkW.next h hb

/-- after a store into memory that was made since -/
theorem TbW.setH {w w4 W : World} {A A2 : Option Addr} {c c2 : Nat} {ps : List Pp} {qs : List Pq} (h : TbW w A c ps A2 c2 qs w4) (hb : Below w4.heap.size w4 W) {p : Addr} (hp : w4.heap.size ≤ p.block) (u : Value) : TbW w A c ps A2 c2 qs (W.setCell p u) :=
  h.next (hb.setCell hp u)
set_option maxRecDepth 100000 in
set_option maxHeartbeats 16000000 in
theorem scopesWrong_any (A A2 : Option Addr) (c c2 : Nat) (ps : List Pp) (qs : List Pq) (x : Int) (w : World) (hx : 0 ≤ x ∧ x < 65536) (hT : TIn w A c ps A2 c2 qs) :
    Calls Tryz.prog 6 #[.agg #[.slice A ps.length c, .slice A2 qs.length c2], .int .u16 x] w (BoolR true w) := by
  have hb1 := below_lnew w (.cells #[.slice A ps.length c, .slice A2 qs.length c2] 35)
  have hk1 : TbW w A c ps A2 c2 qs (w.alloc (.cells #[.slice A ps.length c, .slice A2 qs.length c2] 35)) :=
    ⟨hb1, by simp, heap_alloc_new w _, (hT.l.below hb1).more hb1.size, (hT.p.below hb1).more hb1.size, Lies.empty _ _ _, Lies.empty _ _ _⟩
  obtain ⟨w1, hw1⟩ : ∃ x, w.alloc (.cells #[.slice A ps.length c, .slice A2 qs.length c2] 35) = x := ⟨_, rfl⟩
  rw [hw1] at hk1
  have K1 := Lib.hid hk1
  obtain ⟨t0, t1⟩ := BkW.cells hk1
  have HX := Lib.hid (show RngP ps from hT.r)
  have HV := Lib.hid (vast9_any A A2 c c2 ps qs w1 hk1.l hk1.u)
  clear hb1 hk1 hT
  go_enter Tryz.func6, Tryz.ntmps6
  go_wp2_with fail
  clear hw1
  refine HV.out.mono ?_
  rintro e w2 ⟨bv, rfl, hb2, hfew⟩
  have K2 := Lib.hid (TbW.next K1.out hb2)
  have HFW := Lib.hid hfew
  clear hb2 hfew HV K1 t0 t1
  obtain ⟨t0, t1⟩ := BkW.cells K2.out
  cases bv with
  | true =>
    go_wp2_with fail
    refine (works9_any _).mono ?_
    rintro e w' ⟨rfl, hb⟩
    go_wp2_with fail
    go_ret
    exact ⟨rfl, (BkW.next K2.out hb).b⟩
  | false =>
    have HG := Lib.hid (HFW.out rfl)
    clear HFW
    have HR := Lib.hid (right9_any A A2 c c2 ps qs w2 HG.out.smT K2.out.l K2.out.u)
    unfold BoolR at HR
    cases hrt : right9 (ps.map Pp.d) (qs.map Pq.d) with
    | false =>
      rw [hrt] at HR
      clear hrt
      go_wp2_with fail
      refine HR.out.mono ?_
      rintro e w3 ⟨rfl, hb3⟩
      have K3 := Lib.hid (TbW.next K2.out hb3)
      clear hb3
      go_wp2_with fail
      refine (works9_any _).mono ?_
      rintro e w' ⟨rfl, hb⟩
      go_wp2_with fail
      go_ret
      exact ⟨rfl, (BkW.next K3.out hb).b⟩
    | true =>
      rw [hrt] at HR
      have HRT := Lib.hid hrt
      clear hrt
      go_wp2_with fail
      refine HR.out.mono ?_
      rintro e w3 ⟨rfl, hb3⟩
      have K3 := Lib.hid (TbW.next K2.out hb3)
      clear hb3 t0 t1 K2 HR
      go_wp2_with fail
      go_loopw [5] (fun k wr => ∃ n : Nat, n ≤ 7 ∧ k = .int .i64 n ∧ Hid (TbW w A c ps A2 c2 qs wr)) (fun k _ => 7 - (intOf k).toNat)
      case atStart => exact ⟨0, by omega, rfl, K3⟩
      case round =>
        obtain ⟨n, hn, rfl, hKL⟩ := hrel
        obtain ⟨w4, rfl⟩ : ∃ x, x = wr := ⟨_, rfl⟩
        clear K3
        obtain ⟨t0, t1⟩ := BkW.cells hKL.out
        by_cases h7 : n < 7
        · go_wp2_with fail
          refine (twin9_any A c ps w4 HG.out.1 HG.out.2.2.1 hKL.out.l).mono ?_
          rintro e w5 ⟨v6, rfl, hm5, hb5⟩
          have K5 := Lib.hid (TbW.next hKL.out hb5)
          have HM5 := Lib.hid hm5
          have HB5 := Lib.hid hb5
          clear hm5 hb5 t0 t1
          obtain ⟨t0, t1⟩ := BkW.cells K5.out
          go_wp2_with fail
          refine (twinPoints_any A2 c2 qs w5 HG.out.2.1 HG.out.2.2.2 K5.out.u).mono ?_
          rintro e w6 ⟨v7, rfl, hm6, hb6⟩
          have K6 := Lib.hid (TbW.next K5.out hb6)
          obtain ⟨ls, l2, he1, he2, hcp⟩ := cpT_of HM5.out hb6 (hm6.base HB5.out.size) (Below.refl _ _)
          have hbw : w4.heap.size ≤ w6.heap.size := Nat.le_trans HB5.out.size hb6.size
          have HBW := Lib.hid hbw
          have HTB := Lib.hid (show TabP ls l2 from ⟨(fewT_like he1 he2 HG.out).smT, RngD.p he1 HX.out.d⟩)
          have hrt : right9 (ls.map Pp.d) (l2.map Pq.d) = true := by rw [he1, he2]; exact HRT.out
          have HR2 := Lib.hid hrt
          have HCP := Lib.hid hcp
          have HB46 := Lib.hid (HB5.out.trans (hb6.mono HB5.out.size))
          clear hm6 hb6 t0 t1 HM5 HB5 K5 hcp he1 he2 hrt hbw
          by_cases hl0 : ls.length = 0
          · obtain rfl : ls = [] := List.eq_nil_of_length_eq_zero hl0
            obtain ⟨A6, c6, rfl, _, _⟩ := HCP.out.tl
            obtain ⟨A7, c7, rfl, _, _⟩ := HCP.out.ul
            go_wp2_with fail
            refine (works9_any _).mono ?_
            rintro e w' ⟨rfl, hb⟩
            go_wp2_with fail
            go_ret
            exact ⟨rfl, (BkW.next K6.out hb).b⟩
          by_cases hl1 : l2.length = 0
          · obtain rfl : l2 = [] := List.eq_nil_of_length_eq_zero hl1
            obtain ⟨A6, c6, rfl, _, _⟩ := HCP.out.tl
            obtain ⟨A7, c7, rfl, _, _⟩ := HCP.out.ul
            have hl0i : (ls.length : Int) ≠ 0 := by omega
            go_wp2_with fail
            refine (works9_any _).mono ?_
            rintro e w' ⟨rfl, hb⟩
            go_wp2_with fail
            go_ret
            exact ⟨rfl, (BkW.next K6.out hb).b⟩
          obtain ⟨g6, c6, rfl, hT6, hg6, hc6, hz6, hlc6⟩ := El.Own.some_ HCP.out.l (by omega)
          obtain ⟨g7, c7, rfl, hT7, hg7, hc7, hz7, hlc7⟩ := El.Own.some_ HCP.out.q (by omega)
          have hl0i : (0 : Int) < ls.length := by omega
          have hl1i : (0 : Int) < l2.length := by omega
          have hl0e : ((ls.length : Int) == 0) = false := beq_eq_false_iff_ne.2 (by omega)
          have hl1e : ((l2.length : Int) == 0) = false := beq_eq_false_iff_ne.2 (by omega)
          obtain ⟨i, hi, hii⟩ : ∃ i : Nat, i < ls.length ∧ Int.tmod x ls.length = (i : Int) := ⟨(Int.tmod x ls.length).toNat, by have := Int.tmod_nonneg (ls.length : Int) hx.1; have := Int.tmod_lt_of_pos x hl0i; omega, by have := Int.tmod_nonneg (ls.length : Int) hx.1; omega⟩
          obtain ⟨j, hj, hjj⟩ : ∃ j : Nat, j < l2.length ∧ Int.tmod x l2.length = (j : Int) := ⟨(Int.tmod x l2.length).toNat, by have := Int.tmod_nonneg (l2.length : Int) hx.1; have := Int.tmod_lt_of_pos x hl1i; omega, by have := Int.tmod_nonneg (l2.length : Int) hx.1; omega⟩
          have p0 : w6.cell? ⟨g6, i * 5, none⟩ = some (.string (str ls[i].nm)) := hc6 i hi 0 _ rfl
          have p2 := hc6 i hi 2 _ rfl
          have p3 := hc6 i hi 3 _ rfl
          have p4 := hc6 i hi 4 _ rfl
          have q0 := hc7 j hj 0 _ rfl
          have q2 := hc7 j hj 2 _ rfl
          have HFZ6 := Lib.hid hz6
          have HFZ7 := Lib.hid hz7
          have HCC6 := Lib.hid hc6
          have HCC7 := Lib.hid hc7
          clear hc6 hc7 hz6 hz7
          simp only [eL, eQ, Nat.add_zero] at p2 p3 p4 q0 q2
          have hn' : n = 0 ∨ n = 1 ∨ n = 2 ∨ n = 3 ∨ n = 4 ∨ n = 5 ∨ n = 6 := by omega
          rcases hn' with hn' | hn' | hn' | hn' | hn' | hn' | hn'
          · as_aux_lemma =>
              subst hn'
              have HPW := Lib.hid (HCP.out.p _ (List.getElem_mem hi))
              have hll : ls[i].ss.length = ls[i].vs.length := by have h := (right_place HR2.out (List.mem_map_of_mem (List.getElem_mem hi))).2.2.2.2.1; simpa only [Pp.d, List.length_map] using h
              by_cases hv0 : ls[i].vs.length = 0
              · go_wp2_with fail
                go_roundw
                case rel => exact ⟨0 + 1, by omega, by go_num, K6⟩
                case measure => simp [intOf]
              · have hvp : 0 < ls[i].ss.length := by omega
                obtain ⟨x, ss, hv⟩ := List.exists_cons_of_ne_nil (List.length_pos_iff.1 hvp)
                obtain ⟨gs, cs, hev, hTs, hgs, _, _, _⟩ := HPW.out.s.some_ hvp
                have hne : g6 ≠ gs := fun e => by subst e; exact absurd (hT6.one hTs) (by decide)
                have hg6z : g6 < w6.heap.size := hT6.lt
                have hTr := (right_place HR2.out (List.mem_map_of_mem (List.getElem_mem hi))).2.1
                have hTr2 := (right_place HR2.out (List.mem_map_of_mem (List.getElem_mem hi))).2.2.1
                have hTr : 0 ≤ ls[i].tt := hTr
                have hTr2 : ls[i].tt ≤ 16777216 := hTr2
                have hve : ((ls[i].vs.length : Int) == 0) = false := beq_eq_false_iff_ne.2 (by omega)
                have p4' : w6.cell? ⟨g6, i * 5 + 4, none⟩ = some (.slice (some ⟨gs, 0, none⟩) ls[i].ss.length cs) := by rw [p4]; exact congrArg some hev
                have p2' : w6.cell? ⟨g6, i * 5 + 2, none⟩ = some (.int .i64 ls[i].tt) := p2
                obtain ⟨T, hTT⟩ : ∃ T, ls[i].tt = T := ⟨_, rfl⟩
                obtain ⟨ns, hns⟩ : ∃ n, ls[i].ss.length = n := ⟨_, rfl⟩
                rw [hTT] at p2' hTr hTr2
                rw [hns] at p4'
                have hnsi : (0 : Int) < ns := by omega
                have hnsn : 0 < ns := by omega
                have HTT := Lib.hid hTT
                have HNS := Lib.hid hns
                have HEV := Lib.hid hev
                have HVV := Lib.hid hv
                have HVP := Lib.hid hvp
                clear p4 p2 hns hev hv hvp hll hTT
                have hw1 : IntKind.i64.wrap (T - 1) = T - 1 := by rw [IntKind.wrap_i64]; omega
                have hw2 : IntKind.i64.wrap (T + 1) = T + 1 := by rw [IntKind.wrap_i64]; omega
                go_wp2_with fail
                refine wp_region_held_drew (S := fun W9 => (W9.cell? ⟨g6, i * 5 + 4, none⟩ = some (.slice (some ⟨gs, 0, none⟩) ns cs) ∧ W9.cell? ⟨g6, i * 5 + 2, none⟩ = some (.int .i64 T))) (by kernel_rfl) (⟨p4', p2'⟩) (fun hHeld => ?_)
                refine heldTake (i := 0) (d := some 64) (v := ?_) rfl rfl (by kernel_rfl) (by kernel_rfl) (by kernel_rfl) (fun _ _ _ h => h) (by kernel_rfl) ?hyq_1 (by assumption) ?restq_1
                case hyq_1 => (intro W9 hSw; (try dsimp only at hSw); go_simp; try (with_reducible rfl))
                (try simp only [Act.put, List.setIfInBounds_toArray, List.set_cons_zero, List.set_cons_succ])
                refine heldTake (i := 1) (d := some 65) (v := ?_) rfl rfl (by kernel_rfl) (by kernel_rfl) (by kernel_rfl) (fun _ _ _ h => h) (by kernel_rfl) ?hyq_2 (by assumption) ?restq_2
                case hyq_2 => (intro W9 hSw; (try dsimp only at hSw); go_simp; try (with_reducible rfl))
                (try simp only [Act.put, List.setIfInBounds_toArray, List.set_cons_zero, List.set_cons_succ])
                refine heldTake (i := 2) (d := some 66) (v := ?_) rfl rfl (by kernel_rfl) (by kernel_rfl) (by kernel_rfl) (fun _ _ _ h => h) (by kernel_rfl) ?hyq_3 (by assumption) ?restq_3
                case hyq_3 => (intro W9 hSw; (try dsimp only at hSw); go_simp; try (with_reducible rfl))
                (try simp only [Act.put, List.setIfInBounds_toArray, List.set_cons_zero, List.set_cons_succ])
                refine heldTake (i := 3) (d := some 67) (v := ?_) rfl rfl (by kernel_rfl) (by kernel_rfl) (by kernel_rfl) (fun _ _ _ h => h) (by kernel_rfl) ?hyq_4 (by assumption) ?restq_4
                case hyq_4 => (intro W9 hSw; (try dsimp only at hSw); go_simp; try (with_reducible rfl))
                (try simp only [Act.put, List.setIfInBounds_toArray, List.set_cons_zero, List.set_cons_succ])
                refine heldTake (i := 4) (d := some 68) (v := ?_) rfl rfl (by kernel_rfl) (by kernel_rfl) (by kernel_rfl) (fun _ _ _ h => h) (by kernel_rfl) ?hyq_5 (by assumption) ?restq_5
                case hyq_5 => (intro W9 hSw; (try dsimp only at hSw); go_simp; try (with_reducible rfl))
                (try simp only [Act.put, List.setIfInBounds_toArray, List.set_cons_zero, List.set_cons_succ])
                refine heldTake (i := 5) (d := some 69) (v := ?_) rfl rfl (by kernel_rfl) (by kernel_rfl) (by kernel_rfl) (fun _ _ _ h => h) (by kernel_rfl) ?hyq_6 (by assumption) ?restq_6
                case hyq_6 => (intro W9 hSw; (try dsimp only at hSw); go_simp; try (with_reducible rfl))
                (try simp only [Act.put, List.setIfInBounds_toArray, List.set_cons_zero, List.set_cons_succ])
                refine heldTake (i := 6) (d := some 70) (v := ?_) rfl rfl (by kernel_rfl) (by kernel_rfl) (by kernel_rfl) (fun _ _ _ h => h) (by kernel_rfl) ?hyq_7 (by assumption) ?restq_7
                case hyq_7 => (intro W9 hSw; (try dsimp only at hSw); go_simp; try (with_reducible rfl))
                (try simp only [Act.put, List.setIfInBounds_toArray, List.set_cons_zero, List.set_cons_succ])
                refine heldTake (i := 7) (d := some 71) (v := ?_) rfl rfl (by kernel_rfl) (by kernel_rfl) (by kernel_rfl) (fun _ _ _ h => h) (by kernel_rfl) ?hyq_8 (by assumption) ?restq_8
                case hyq_8 => (intro W9 hSw; (try dsimp only at hSw); go_simp; try (with_reducible rfl))
                (try simp only [Act.put, List.setIfInBounds_toArray, List.set_cons_zero, List.set_cons_succ])
                refine heldTake (i := 8) (d := some 72) (v := ?_) rfl rfl (by kernel_rfl) (by kernel_rfl) (by kernel_rfl) (fun _ _ _ h => h) (by kernel_rfl) ?hyq_9 (by assumption) ?restq_9
                case hyq_9 => (intro W9 hSw; (try dsimp only at hSw); go_simp; try (with_reducible rfl))
                (try simp only [Act.put, List.setIfInBounds_toArray, List.set_cons_zero, List.set_cons_succ])
                refine heldTake (i := 9) (d := some 73) (v := ?_) rfl rfl (by kernel_rfl) (by kernel_rfl) (by kernel_rfl) (fun _ _ _ h => h) (by kernel_rfl) ?hyq_10 (by assumption) ?restq_10
                case hyq_10 => (intro W9 hSw; (try dsimp only at hSw); go_simp; try (with_reducible rfl))
                (try simp only [Act.put, List.setIfInBounds_toArray, List.set_cons_zero, List.set_cons_succ])
                refine heldTake (i := 10) (d := some 74) (v := ?_) rfl rfl (by kernel_rfl) (by kernel_rfl) (by kernel_rfl) (fun _ _ _ h => h) (by kernel_rfl) ?hyq_11 (by assumption) ?restq_11
                case hyq_11 => (intro W9 hSw; (try dsimp only at hSw); go_simp; try (with_reducible rfl))
                (try simp only [Act.put, List.setIfInBounds_toArray, List.set_cons_zero, List.set_cons_succ])
                refine heldTake (i := 11) (d := some 75) (v := ?_) rfl rfl (by kernel_rfl) (by kernel_rfl) (by kernel_rfl) (fun _ _ _ h => h) (by kernel_rfl) ?hyq_12 (by assumption) ?restq_12
                case hyq_12 => (intro W9 hSw; (try dsimp only at hSw); go_simp; try (with_reducible rfl))
                (try simp only [Act.put, List.setIfInBounds_toArray, List.set_cons_zero, List.set_cons_succ])
                refine heldTake (i := 12) (d := some 76) (v := ?_) rfl rfl (by kernel_rfl) (by kernel_rfl) (by kernel_rfl) (fun _ _ _ h => h) (by kernel_rfl) ?hyq_13 (by assumption) ?restq_13
                case hyq_13 => (intro W9 hSw; (try dsimp only at hSw); go_simp; try (with_reducible rfl))
                (try simp only [Act.put, List.setIfInBounds_toArray, List.set_cons_zero, List.set_cons_succ])
                refine heldTake (i := 13) (d := some 77) (v := ?_) rfl rfl (by kernel_rfl) (by kernel_rfl) (by kernel_rfl) (fun _ _ _ h => h) (by kernel_rfl) ?hyq_14 (by assumption) ?restq_14
                case hyq_14 => (intro W9 hSw; (try dsimp only at hSw); go_simp; try (with_reducible rfl))
                (try simp only [Act.put, List.setIfInBounds_toArray, List.set_cons_zero, List.set_cons_succ])
                refine heldTake (i := 14) (d := some 78) (v := ?_) rfl rfl (by kernel_rfl) (by kernel_rfl) (by kernel_rfl) (fun _ _ _ h => h) (by kernel_rfl) ?hyq_15 (by assumption) ?restq_15
                case hyq_15 => (intro W9 hSw; (try dsimp only at hSw); go_simp; try (with_reducible rfl))
                (try simp only [Act.put, List.setIfInBounds_toArray, List.set_cons_zero, List.set_cons_succ])
                refine heldTake (i := 15) (d := some 79) (v := ?_) rfl rfl (by kernel_rfl) (by kernel_rfl) (by kernel_rfl) (fun _ _ _ h => h) (by kernel_rfl) ?hyq_16 (by assumption) ?restq_16
                case hyq_16 => (intro W9 hSw; (try dsimp only at hSw); go_simp; try (with_reducible rfl))
                (try simp only [Act.put, List.setIfInBounds_toArray, List.set_cons_zero, List.set_cons_succ])
                refine heldTake (i := 16) (d := some 80) (v := ?_) rfl rfl (by kernel_rfl) (by kernel_rfl) (by kernel_rfl) (fun _ _ _ h => h) (by kernel_rfl) ?hyq_17 (by assumption) ?restq_17
                case hyq_17 => (intro W9 hSw; (try dsimp only at hSw); go_simp; try (with_reducible rfl))
                (try simp only [Act.put, List.setIfInBounds_toArray, List.set_cons_zero, List.set_cons_succ])
                refine heldTake (i := 17) (d := some 81) (v := ?_) rfl rfl (by kernel_rfl) (by kernel_rfl) (by kernel_rfl) (fun _ _ _ h => h) (by kernel_rfl) ?hyq_18 (by assumption) ?restq_18
                case hyq_18 => (intro W9 hSw; (try dsimp only at hSw); go_simp; try (with_reducible rfl))
                (try simp only [Act.put, List.setIfInBounds_toArray, List.set_cons_zero, List.set_cons_succ])
                (try simp only [hw1, hw2])
                refine wpAnyH_ready (rs := [18]) (by kernel_rfl) (by simp) ?_
                refine AllReadyH.cons rfl (fun K hK => ?_) AllReadyH.nil
                go_simp
                have hbX := (below_lnew w6 (.cells #[.int .u8 1, .int .i64 0] 53)).drew
                have hcX : (w6.alloc (.cells #[.int .u8 1, .int .i64 0] 53)).drew.heap[w6.heap.size]? = _ := heap_alloc_new w6 (.cells #[.int .u8 1, .int .i64 0] 53)
                have hzX : (w6.alloc (.cells #[.int .u8 1, .int .i64 0] 53)).drew.heap.size = w6.heap.size + 1 := by simp [World.drew]
                obtain ⟨X, hX⟩ : ∃ X, (w6.alloc (.cells #[.int .u8 1, .int .i64 0] 53)).drew = X := ⟨_, rfl⟩
                rw [hX] at hbX hcX hzX ⊢
                have hzX' : w6.heap.size < X.heap.size := by omega
                clear hX hzX
                have hSX : (X.cell? ⟨g6, i * 5 + 4, none⟩ = some (.slice (some ⟨gs, 0, none⟩) ns cs) ∧ X.cell? ⟨g6, i * 5 + 2, none⟩ = some (.int .i64 T)) := ⟨(hbX.cell (p := ⟨g6, i * 5 + 4, none⟩) hg6z).trans p4', (hbX.cell (p := ⟨g6, i * 5 + 2, none⟩) hg6z).trans p2'⟩
                refine hK.out _ _ hSX (fun hHeld => ?_)
                clear hK K
                (try simp only [Act.put, List.setIfInBounds_toArray, List.set_cons_zero, List.set_cons_succ])
                refine heldTake (i := 19) (d := some 83) (v := ?_) rfl rfl (by kernel_rfl) (by kernel_rfl) (by kernel_rfl) (fun _ _ _ h => h) (by kernel_rfl) ?hyq_19 (by assumption) ?restq_19
                case hyq_19 => (intro W9 hSw; (try dsimp only at hSw); go_simp; try (with_reducible rfl))
                (try simp only [Act.put, List.setIfInBounds_toArray, List.set_cons_zero, List.set_cons_succ])
                refine wpAnyH_ready (rs := [20]) (by kernel_rfl) (by simp) ?_
                refine AllReadyH.cons rfl (fun K hK => ?_) AllReadyH.nil
                go_simp
                have hbY := below_lnew X (.cells #[.int .i64 (T - 1), .int .i64 (T + 1), .slice (some ⟨w6.heap.size, 0, none⟩) 1 1] 56)
                have hcY := heap_alloc_new X (.cells #[.int .i64 (T - 1), .int .i64 (T + 1), .slice (some ⟨w6.heap.size, 0, none⟩) 1 1] 56)
                obtain ⟨Y, hY⟩ : ∃ Y, X.alloc (.cells #[.int .i64 (T - 1), .int .i64 (T + 1), .slice (some ⟨w6.heap.size, 0, none⟩) 1 1] 56) = Y := ⟨_, rfl⟩
                rw [hY] at hbY hcY ⊢
                clear hY
                have hbXY := hbX.trans (hbY.mono hbX.size)
                have hcX2 := (hbY.block w6.heap.size hzX').trans hcX
                have hSY : (Y.cell? ⟨g6, i * 5 + 4, none⟩ = some (.slice (some ⟨gs, 0, none⟩) ns cs) ∧ Y.cell? ⟨g6, i * 5 + 2, none⟩ = some (.int .i64 T)) := ⟨(hbXY.cell (p := ⟨g6, i * 5 + 4, none⟩) hg6z).trans p4', (hbXY.cell (p := ⟨g6, i * 5 + 2, none⟩) hg6z).trans p2'⟩
                refine hK.out _ _ hSY (fun hHeld => ?_)
                clear hK K
                (try simp only [Act.put, List.setIfInBounds_toArray, List.set_cons_zero, List.set_cons_succ])
                refine heldTake (i := 21) (d := some 85) (v := ?_) rfl rfl (by kernel_rfl) (by kernel_rfl) (by kernel_rfl) (fun _ _ _ h => h) (by kernel_rfl) ?hyq_20 (by assumption) ?restq_20
                case hyq_20 => (intro W9 hSw; (try dsimp only at hSw); go_simp; try (with_reducible rfl))
                (try simp only [Act.put, List.setIfInBounds_toArray, List.set_cons_zero, List.set_cons_succ])
                refine wpAnyH_ready (rs := [22]) (by kernel_rfl) (by simp) ?_
                refine AllReadyH.cons rfl (fun K hK => ?_) AllReadyH.nil
                obtain hev := HEV.out
                obtain hv := HVV.out
                obtain hvp := HVP.out
                obtain hTT := HTT.out
                obtain ⟨p4'Y, p2'Y⟩ := hSY
                have HCPY := Lib.hid (HCP.out.below hbXY)
                have HPY := Lib.hid (HPW.out.below hbXY)
                have hRT : RT Y ⟨[⟨T - 1, T + 1, [⟨1, 0⟩], some ⟨w6.heap.size, 0, none⟩, 1⟩], some ⟨X.heap.size, 0, none⟩, 1⟩ := ⟨⟨el_oneT ePs _ _ hcY, fun q hq => by rw [List.mem_singleton] at hq; subst hq; exact ⟨by simp, by simp, el_oneT eLc _ _ hcX2⟩⟩, by simp, by simp⟩
                have HBD : Hid (Bad9 (Y.setCell ⟨gs, 0, none⟩ (.slice (some ⟨X.heap.size, 0, none⟩) 1 1)) _ _ _ _ _ _) := Lib.hid (HCPY.out.span0 HTB.out HR2.out hi hv (gs := gs) (by rw [hev]; rfl) _ hRT (by rw [hTT]; rfl))
                have KW := Lib.hid (TbW.setH hKL.out (HB46.out.trans (hbXY.mono HBW.out)) (p := ⟨gs, 0, none⟩) hgs (.slice (some ⟨X.heap.size, 0, none⟩) 1 1))
                have z := own_frz HPY.out.s (g := gs) (by rw [hev]; rfl) 0
                have hxc := own_cell HPY.out.s (g := gs) (by rw [hev]; rfl) hvp (f := 0) rfl
                simp only [Nat.zero_mul, Nat.add_zero] at hxc
                go_simp
                have hSZ : ((Y.setCell ⟨gs, 0, none⟩ (.slice (some ⟨X.heap.size, 0, none⟩) 1 1)).cell? ⟨g6, i * 5 + 4, none⟩ = some (.slice (some ⟨gs, 0, none⟩) ns cs) ∧ (Y.setCell ⟨gs, 0, none⟩ (.slice (some ⟨X.heap.size, 0, none⟩) 1 1)).cell? ⟨g6, i * 5 + 2, none⟩ = some (.int .i64 T)) := ⟨(Below.cell_setCell' hne p4'Y), (Below.cell_setCell' hne p2'Y)⟩
                refine hK.out _ _ hSZ (fun hHeld => ?_)
                clear hK K
                (try simp only [Act.put, List.setIfInBounds_toArray, List.set_cons_zero, List.set_cons_succ])
                refine wpAnyH_done (by kernel_rfl) ?_ _
                go_wp2_with fail
                refine HBD.out.put.mono ?_
                rintro e wP ⟨AP, cP, rfl, hbP⟩
                have KP := Lib.hid (TbW.next KW.out hbP)
                have HBP := Lib.hid (HBD.out.next hbP)
                clear hbP HBD KW
                go_wp2_with fail
                refine HBP.out.right.mono ?_
                rintro e wQ ⟨rfl, hbQ⟩
                have KQ := Lib.hid (TbW.next KP.out hbQ)
                clear hbQ HBP KP
                go_wp2_with fail
                go_roundw
                case rel => exact ⟨0 + 1, by omega, by go_num, KQ⟩
                case measure => simp [intOf]
          · as_aux_lemma =>
              subst hn'
              have HQW := Lib.hid (HCP.out.s _ (List.getElem_mem hj))
              have hokq : okQ (ls.map Pp.d) l2[j].d = true := by have h := HR2.out; unfold right9 at h; rw [Bool.and_eq_true, Bool.and_eq_true] at h; exact List.all_eq_true.1 h.2.2 _ (List.mem_map_of_mem (List.getElem_mem hj))
              have hokf : 0 ≤ l2[j].d.fn ∧ l2[j].d.fn < ls.length := by have h := hokq; unfold okQ at h; rw [Bool.and_eq_true] at h; have := of_decide_eq_true h.1; rw [List.length_map] at this; omega
              obtain ⟨F, hF⟩ : ∃ F : Nat, l2[j].d.fn = F := ⟨l2[j].d.fn.toNat, by omega⟩
              have hFl : F < ls.length := by omega
              have hFi : (F : Int) < ls.length := by omega
              have hrise : ∀ x, okQ (ls.map Pp.d) ⟨l2[j].d.fn, l2[j].d.ln, l2[j].d.sc ++ [x]⟩ = (decide (0 ≤ l2[j].d.fn ∧ l2[j].d.fn < (ls.map Pp.d).length ∧ 1 ≤ l2[j].d.ln ∧ l2[j].d.ln ≤ 1048576) && riseB (nvs (ls.map Pp.d) l2[j].d.fn.toNat) (-1) (l2[j].d.sc ++ [x])) := fun x => rfl
              have hscn : l2[j].d.sc.length ≤ 1000000 := by have h := hokq; unfold okQ at h; rw [Bool.and_eq_true] at h; have hv := right_place HR2.out (List.mem_map_of_mem (List.getElem_mem hFl)); have n := nvs_le (ls := ls.map Pp.d) (fun p hp => (right_place HR2.out hp).2.2.2.2.2.1) l2[j].d.fn.toNat; have r := riseB_len h.2 (by omega); omega
              have HHR := Lib.hid hrise
              clear hrise hokq
              have hnvs : nvs (ls.map Pp.d) l2[j].d.fn.toNat = (ls[F].vs.length : Int) := by rw [hF, Int.toNat_natCast]; unfold nvs; rw [List.getElem?_map, List.getElem?_eq_getElem hFl]; simp [Pp.d]
              have hbad : okQ (ls.map Pp.d) ⟨l2[j].d.fn, l2[j].d.ln, l2[j].d.sc ++ [(ls[F].vs.length : Int)]⟩ = false := by rw [HHR.out, hnvs, rise_last (by omega), Bool.and_false]
              have HBAD := Lib.hid hbad
              have q0' : w6.cell? ⟨g7, j * 3, none⟩ = some (.int .i64 (F : Int)) := by rw [← hF]; exact q0
              have HC6' := Lib.hid (HCC6.out F hFl 3 _ rfl)
              have p3F : w6.cell? ⟨g6, F * 5 + 3, none⟩ = some (.slice ls[F].vA ls[F].vs.length ls[F].vc) := HC6'.out
              have q2' : w6.cell? ⟨g7, j * 3 + 2, none⟩ = some (.slice l2[j].A l2[j].d.sc.length l2[j].c) := q2
              obtain ⟨VA, hVA⟩ : ∃ v, ls[F].vA = v := ⟨_, rfl⟩
              obtain ⟨VC, hVC⟩ : ∃ v, ls[F].vc = v := ⟨_, rfl⟩
              obtain ⟨nv, hnv⟩ : ∃ v, ls[F].vs.length = v := ⟨_, rfl⟩
              rw [hVA, hVC, hnv] at p3F
              rw [hnv] at HBAD
              clear hVA hVC hnv hbad hnvs HC6' q0 q2
              obtain ⟨SA, hSA⟩ : ∃ v, l2[j].A = v := ⟨_, rfl⟩
              obtain ⟨SC, hSC⟩ : ∃ v, l2[j].c = v := ⟨_, rfl⟩
              obtain ⟨sn, hsn⟩ : ∃ v, l2[j].d.sc.length = v := ⟨_, rfl⟩
              rw [hSA, hSC, hsn] at q2'
              have HQV := Lib.hid (show qS l2[j] = .slice SA sn SC by unfold qS; rw [hSA, hSC, hsn])
              have HSN := Lib.hid hsn
              clear hSA hSC hsn
              have hg6z : g6 < w6.heap.size := hT6.lt
              have hg7z : g7 < w6.heap.size := hT7.lt
              have HOQ := Lib.hid (show eI.Own w6 w4.heap.size (.slice SA sn SC) l2[j].d.sc by rw [← HQV.out]; exact HQW.out)
              have HF := Lib.hid hF
              clear hF
              go_wp2_with fail
              refine wp_region_held_drew (S := fun W9 => (W9.cell? ⟨g7, j * 3, none⟩ = some (.int .i64 (F : Int)) ∧ W9.cell? ⟨g6, F * 5 + 3, none⟩ = some (.slice VA nv VC))) (by kernel_rfl) (⟨q0', p3F⟩) (fun hHeld => ?_)
              have hbd : Below w6.heap.size w6 w6.drew := (Below.refl _ _).drew
              have q2d := (hbd.cell (p := ⟨g7, j * 3 + 2, none⟩) hg7z).trans q2'
              have hSd : (w6.drew.cell? ⟨g7, j * 3, none⟩ = some (.int .i64 (F : Int)) ∧ w6.drew.cell? ⟨g6, F * 5 + 3, none⟩ = some (.slice VA nv VC)) := ⟨(hbd.cell (p := ⟨g7, j * 3, none⟩) hg7z).trans q0', (hbd.cell (p := ⟨g6, F * 5 + 3, none⟩) hg6z).trans p3F⟩
              generalize w6.drew = Wd at *
              refine heldTake (i := 0) (d := some 88) (v := ?_) rfl rfl (by kernel_rfl) (by kernel_rfl) (by kernel_rfl) (fun _ _ _ h => h) (by kernel_rfl) ?hyq_21 (by assumption) ?restq_21
              case hyq_21 => (intro W9 hSw; (try dsimp only at hSw); go_simp; try (with_reducible rfl))
              (try simp only [Act.put, List.setIfInBounds_toArray, List.set_cons_zero, List.set_cons_succ])
              refine heldTake (i := 1) (d := some 89) (v := ?_) rfl rfl (by kernel_rfl) (by kernel_rfl) (by kernel_rfl) (fun _ _ _ h => h) (by kernel_rfl) ?hyq_22 (by assumption) ?restq_22
              case hyq_22 => (intro W9 hSw; (try dsimp only at hSw); go_simp; try (with_reducible rfl))
              (try simp only [Act.put, List.setIfInBounds_toArray, List.set_cons_zero, List.set_cons_succ])
              refine heldTake (i := 2) (d := some 90) (v := ?_) rfl rfl (by kernel_rfl) (by kernel_rfl) (by kernel_rfl) (fun _ _ _ h => h) (by kernel_rfl) ?hyq_23 (by assumption) ?restq_23
              case hyq_23 => (intro W9 hSw; (try dsimp only at hSw); go_simp; try (with_reducible rfl))
              (try simp only [Act.put, List.setIfInBounds_toArray, List.set_cons_zero, List.set_cons_succ])
              refine heldTake (i := 3) (d := some 91) (v := ?_) rfl rfl (by kernel_rfl) (by kernel_rfl) (by kernel_rfl) (fun _ _ _ h => h) (by kernel_rfl) ?hyq_24 (by assumption) ?restq_24
              case hyq_24 => (intro W9 hSw; (try dsimp only at hSw); go_simp; try (with_reducible rfl))
              (try simp only [Act.put, List.setIfInBounds_toArray, List.set_cons_zero, List.set_cons_succ])
              refine heldTake (i := 4) (d := some 92) (v := ?_) rfl rfl (by kernel_rfl) (by kernel_rfl) (by kernel_rfl) (fun _ _ _ h => h) (by kernel_rfl) ?hyq_25 (by assumption) ?restq_25
              case hyq_25 => (intro W9 hSw; (try dsimp only at hSw); go_simp; try (with_reducible rfl))
              (try simp only [Act.put, List.setIfInBounds_toArray, List.set_cons_zero, List.set_cons_succ])
              refine heldTake (i := 5) (d := some 93) (v := ?_) rfl rfl (by kernel_rfl) (by kernel_rfl) (by kernel_rfl) (fun _ _ _ h => h) (by kernel_rfl) ?hyq_26 (by assumption) ?restq_26
              case hyq_26 => (intro W9 hSw; (try dsimp only at hSw); go_simp; try (with_reducible rfl))
              (try simp only [Act.put, List.setIfInBounds_toArray, List.set_cons_zero, List.set_cons_succ])
              refine heldTake (i := 7) (d := some 95) (v := ?_) rfl rfl (by kernel_rfl) (by kernel_rfl) (by kernel_rfl) (fun _ _ _ h => h) (by kernel_rfl) ?hyq_27 (by assumption) ?restq_27
              case hyq_27 => (intro W9 hSw; (try dsimp only at hSw); go_simp; try (with_reducible rfl))
              (try simp only [Act.put, List.setIfInBounds_toArray, List.set_cons_zero, List.set_cons_succ])
              refine heldTake (i := 8) (d := some 96) (v := ?_) rfl rfl (by kernel_rfl) (by kernel_rfl) (by kernel_rfl) (fun _ _ _ h => h) (by kernel_rfl) ?hyq_28 (by assumption) ?restq_28
              case hyq_28 => (intro W9 hSw; (try dsimp only at hSw); go_simp; try (with_reducible rfl))
              (try simp only [Act.put, List.setIfInBounds_toArray, List.set_cons_zero, List.set_cons_succ])
              refine heldTake (i := 9) (d := some 97) (v := ?_) rfl rfl (by kernel_rfl) (by kernel_rfl) (by kernel_rfl) (fun _ _ _ h => h) (by kernel_rfl) ?hyq_29 (by assumption) ?restq_29
              case hyq_29 => (intro W9 hSw; (try dsimp only at hSw); go_simp; try (with_reducible rfl))
              (try simp only [Act.put, List.setIfInBounds_toArray, List.set_cons_zero, List.set_cons_succ])
              refine heldTake (i := 10) (d := some 98) (v := ?_) rfl rfl (by kernel_rfl) (by kernel_rfl) (by kernel_rfl) (fun _ _ _ h => h) (by kernel_rfl) ?hyq_30 (by assumption) ?restq_30
              case hyq_30 => (intro W9 hSw; (try dsimp only at hSw); go_simp; try (with_reducible rfl))
              (try simp only [Act.put, List.setIfInBounds_toArray, List.set_cons_zero, List.set_cons_succ])
              refine heldTake (i := 11) (d := some 99) (v := ?_) rfl rfl (by kernel_rfl) (by kernel_rfl) (by kernel_rfl) (fun _ _ _ h => h) (by kernel_rfl) ?hyq_31 (by assumption) ?restq_31
              case hyq_31 => (intro W9 hSw; (try dsimp only at hSw); go_simp; try (with_reducible rfl))
              (try simp only [Act.put, List.setIfInBounds_toArray, List.set_cons_zero, List.set_cons_succ])
              refine heldTake (i := 12) (d := some 100) (v := ?_) rfl rfl (by kernel_rfl) (by kernel_rfl) (by kernel_rfl) (fun _ _ _ h => h) (by kernel_rfl) ?hyq_32 (by assumption) ?restq_32
              case hyq_32 => (intro W9 hSw; (try dsimp only at hSw); go_simp; try (with_reducible rfl))
              (try simp only [Act.put, List.setIfInBounds_toArray, List.set_cons_zero, List.set_cons_succ])
              refine heldTake (i := 13) (d := some 101) (v := ?_) rfl rfl (by kernel_rfl) (by kernel_rfl) (by kernel_rfl) (fun _ _ _ h => h) (by kernel_rfl) ?hyq_33 (by assumption) ?restq_33
              case hyq_33 => (intro W9 hSw; (try dsimp only at hSw); go_simp; try (with_reducible rfl))
              (try simp only [Act.put, List.setIfInBounds_toArray, List.set_cons_zero, List.set_cons_succ])
              refine heldTake (i := 14) (d := some 102) (v := ?_) rfl rfl (by kernel_rfl) (by kernel_rfl) (by kernel_rfl) (fun _ _ _ h => h) (by kernel_rfl) ?hyq_34 (by assumption) ?restq_34
              case hyq_34 => (intro W9 hSw; (try dsimp only at hSw); go_simp; try (with_reducible rfl))
              (try simp only [Act.put, List.setIfInBounds_toArray, List.set_cons_zero, List.set_cons_succ])
              refine heldTake (i := 15) (d := some 103) (v := ?_) rfl rfl (by kernel_rfl) (by kernel_rfl) (by kernel_rfl) (fun _ _ _ h => h) (by kernel_rfl) ?hyq_35 (by assumption) ?restq_35
              case hyq_35 => (intro W9 hSw; (try dsimp only at hSw); go_simp; try (with_reducible rfl))
              (try simp only [Act.put, List.setIfInBounds_toArray, List.set_cons_zero, List.set_cons_succ])
              refine heldTake (i := 16) (d := some 104) (v := ?_) rfl rfl (by kernel_rfl) (by kernel_rfl) (by kernel_rfl) (fun _ _ _ h => h) (by kernel_rfl) ?hyq_36 (by assumption) ?restq_36
              case hyq_36 => (intro W9 hSw; (try dsimp only at hSw); go_simp; try (with_reducible rfl))
              (try simp only [Act.put, List.setIfInBounds_toArray, List.set_cons_zero, List.set_cons_succ])
              refine wpAnyH_ready (rs := [6, 17]) (by kernel_rfl) (by simp) ?_
              refine AllReadyH.cons rfl (fun K hK => ?_) (AllReadyH.cons rfl (fun K hK => ?_) AllReadyH.nil)
              · go_simp
                refine hK.out _ _ hSd (fun hHeld => ?_)
                clear hK K
                (try simp only [Act.put, List.setIfInBounds_toArray, List.set_cons_zero, List.set_cons_succ])
                refine wpAnyH_ready (rs := [17]) (by kernel_rfl) (by simp) ?_
                refine AllReadyH.cons rfl (fun K hK => ?_) AllReadyH.nil
                go_simp
                have hbX := hbd.trans ((below_lnew Wd (.cells #[.int .i64 (nv : Int)] 3)).mono hbd.size)
                have hcX := heap_alloc_new Wd (.cells #[.int .i64 (nv : Int)] 3)
                obtain ⟨X, hX⟩ : ∃ X, Wd.alloc (.cells #[.int .i64 (nv : Int)] 3) = X := ⟨_, rfl⟩
                rw [hX] at hbX hcX ⊢
                clear hX
                have q2X := (hbX.cell (p := ⟨g7, j * 3 + 2, none⟩) hg7z).trans q2'
                have hSX : (X.cell? ⟨g7, j * 3, none⟩ = some (.int .i64 (F : Int)) ∧ X.cell? ⟨g6, F * 5 + 3, none⟩ = some (.slice VA nv VC)) := ⟨(hbX.cell (p := ⟨g7, j * 3, none⟩) hg7z).trans q0', (hbX.cell (p := ⟨g6, F * 5 + 3, none⟩) hg6z).trans p3F⟩
                refine hK.out _ _ hSX (fun hHeld => ?_)
                clear hK K
                (try simp only [Act.put, List.setIfInBounds_toArray, List.set_cons_zero, List.set_cons_succ])
                refine wpAnyH_ready (rs := [18]) (by kernel_rfl) (by simp) ?_
                refine AllReadyH.cons rfl (fun K hK => ?_) AllReadyH.nil
                rw [if_pos (by kernel_rfl)]
                have HCPX := Lib.hid (HCP.out.below hbX)
                have HOX := Lib.hid (HOQ.out.below hbX)
                refine El.op_app1 eI X 58 _ _ Tryz.underlying58 int_info rfl (by decide) (by decide) (.tmp 94) (.tmp 105) rfl w4.heap.size _ l2[j].d.sc rfl HOX.out Wd.heap.size 1 ((nv : Int)) rfl 3 hcX hscn (Nat.le_trans HBW.out hbX.size) ?_
                intro v9 Z ho9 hg9
                obtain ⟨A9, n9, c9, rfl, hn9, _, _, _⟩ := ho9.formN
                have hn9' : n9 = l2[j].d.sc.length + 1 := by rw [← hn9.out]; simp
                have hg9' : World.grownBy X Z (qS l2[j]).ownBlock := by rw [HQV.out]; exact hg9
                have hTZ : ButT 3 X Z := ButT.grown hg9 (fun q e => HOX.out.has q e)
                have z := own_frz (HCPX.out.q.but hTZ (by decide)) (g := g7) rfl (j * 3 + 2)
                have hxc := own_cell (HCPX.out.q.but hTZ (by decide)) (g := g7) rfl hj (f := 2) rfl
                simp only [eQ] at hxc
                have hbZ := (HB46.out.trans (hbX.mono HBW.out)).grown hg9 (Nat.le_trans HBW.out hbX.size) (fun q e => (HOX.out.lt q e).1)
                have HBD : Hid (Bad9 (Z.setCell ⟨g7, j * 3 + 2, none⟩ (.slice A9 n9 c9)) _ _ _ _ _ _) := Lib.hid (by have := HCPX.out.scope HTB.out hj (by rw [← hn9']; exact ho9) hg9' hscn HBAD.out; rw [← hn9'] at this; exact this)
                have KW := Lib.hid (TbW.setH hKL.out hbZ (p := ⟨g7, j * 3 + 2, none⟩) hg7 (.slice A9 n9 c9))
                have hSZ : (Z.cell? ⟨g7, j * 3, none⟩ = some (.int .i64 (F : Int)) ∧ Z.cell? ⟨g6, F * 5 + 3, none⟩ = some (.slice VA nv VC)) := ⟨(World.cell?_of_block (hTZ g7 _ (own_hasg HCPX.out.q) (by decide))).trans hSX.1, (World.cell?_of_block (hTZ g6 _ (own_hasg HCPX.out.l) (by decide))).trans hSX.2⟩
                clear hn9 hn9' hg9'
                refine hK.out _ _ hSZ (fun hHeld => ?_)
                clear hK K
                (try simp only [Act.put, List.setIfInBounds_toArray])
                refine heldTake (i := 19) (d := some 107) (v := ?_) rfl rfl (by kernel_rfl) (by kernel_rfl) (by kernel_rfl) (fun _ _ _ h => h) (by kernel_rfl) ?hyq_37 (by assumption) ?restq_37
                case hyq_37 => (intro W9 hSw; (try dsimp only at hSw); go_simp; try (with_reducible rfl))
                (try simp only [Act.put])
                refine heldTake (i := 20) (d := some 108) (v := ?_) rfl rfl (by kernel_rfl) (by kernel_rfl) (by kernel_rfl) (fun _ _ _ h => h) (by kernel_rfl) ?hyq_38 (by assumption) ?restq_38
                case hyq_38 => (intro W9 hSw; (try dsimp only at hSw); go_simp; try (with_reducible rfl))
                (try simp only [Act.put])
                refine wpAnyH_ready (rs := [21]) (by kernel_rfl) (by simp) ?_
                refine AllReadyH.cons rfl (fun K hK => ?_) AllReadyH.nil
                go_simp
                have hSV : ((Z.setCell ⟨g7, j * 3 + 2, none⟩ (.slice A9 n9 c9)).cell? ⟨g7, j * 3, none⟩ = some (.int .i64 (F : Int)) ∧ (Z.setCell ⟨g7, j * 3 + 2, none⟩ (.slice A9 n9 c9)).cell? ⟨g6, F * 5 + 3, none⟩ = some (.slice VA nv VC)) := ⟨(cell_set_off (by omega)).trans hSZ.1, Below.cell_setCell' (fun e => by subst e; exact absurd (hT6.one hT7) (by decide)) hSZ.2⟩
                refine hK.out _ _ hSV (fun hHeld => ?_)
                clear hK K
                (try simp only [Act.put, List.setIfInBounds_toArray, List.set_cons_zero, List.set_cons_succ])
                refine wpAnyH_done (by kernel_rfl) ?_ _
                go_wp2_with fail
                refine HBD.out.put.mono ?_
                rintro e wP ⟨AP, cP, rfl, hbP⟩
                have KP := Lib.hid (TbW.next KW.out hbP)
                have HBP := Lib.hid (HBD.out.next hbP)
                clear hbP HBD KW
                go_wp2_with fail
                refine HBP.out.right.mono ?_
                rintro e wQ ⟨rfl, hbQ⟩
                have KQ := Lib.hid (TbW.next KP.out hbQ)
                clear hbQ HBP KP
                go_wp2_with fail
                go_roundw
                case rel => exact ⟨1 + 1, by omega, by go_num, KQ⟩
                case measure => simp [intOf]
              · go_simp
                have hbX := hbd.trans ((below_lnew Wd (.cells #[.int .i64 (nv : Int)] 3)).mono hbd.size)
                have hcX := heap_alloc_new Wd (.cells #[.int .i64 (nv : Int)] 3)
                obtain ⟨X, hX⟩ : ∃ X, Wd.alloc (.cells #[.int .i64 (nv : Int)] 3) = X := ⟨_, rfl⟩
                rw [hX] at hbX hcX ⊢
                clear hX
                have q2X := (hbX.cell (p := ⟨g7, j * 3 + 2, none⟩) hg7z).trans q2'
                have hSX : (X.cell? ⟨g7, j * 3, none⟩ = some (.int .i64 (F : Int)) ∧ X.cell? ⟨g6, F * 5 + 3, none⟩ = some (.slice VA nv VC)) := ⟨(hbX.cell (p := ⟨g7, j * 3, none⟩) hg7z).trans q0', (hbX.cell (p := ⟨g6, F * 5 + 3, none⟩) hg6z).trans p3F⟩
                refine hK.out _ _ hSX (fun hHeld => ?_)
                clear hK K
                (try simp only [Act.put, List.setIfInBounds_toArray, List.set_cons_zero, List.set_cons_succ])
                refine wpAnyH_ready (rs := [6]) (by kernel_rfl) (by simp) ?_
                refine AllReadyH.cons rfl (fun K hK => ?_) AllReadyH.nil
                go_simp
                refine hK.out _ _ hSX (fun hHeld => ?_)
                clear hK K
                (try simp only [Act.put, List.setIfInBounds_toArray, List.set_cons_zero, List.set_cons_succ])
                refine wpAnyH_ready (rs := [18]) (by kernel_rfl) (by simp) ?_
                refine AllReadyH.cons rfl (fun K hK => ?_) AllReadyH.nil
                rw [if_pos (by kernel_rfl)]
                have HCPX := Lib.hid (HCP.out.below hbX)
                have HOX := Lib.hid (HOQ.out.below hbX)
                refine El.op_app1 eI X 58 _ _ Tryz.underlying58 int_info rfl (by decide) (by decide) (.tmp 94) (.tmp 105) rfl w4.heap.size _ l2[j].d.sc rfl HOX.out Wd.heap.size 1 ((nv : Int)) rfl 3 hcX hscn (Nat.le_trans HBW.out hbX.size) ?_
                intro v9 Z ho9 hg9
                obtain ⟨A9, n9, c9, rfl, hn9, _, _, _⟩ := ho9.formN
                have hn9' : n9 = l2[j].d.sc.length + 1 := by rw [← hn9.out]; simp
                have hg9' : World.grownBy X Z (qS l2[j]).ownBlock := by rw [HQV.out]; exact hg9
                have hTZ : ButT 3 X Z := ButT.grown hg9 (fun q e => HOX.out.has q e)
                have z := own_frz (HCPX.out.q.but hTZ (by decide)) (g := g7) rfl (j * 3 + 2)
                have hxc := own_cell (HCPX.out.q.but hTZ (by decide)) (g := g7) rfl hj (f := 2) rfl
                simp only [eQ] at hxc
                have hbZ := (HB46.out.trans (hbX.mono HBW.out)).grown hg9 (Nat.le_trans HBW.out hbX.size) (fun q e => (HOX.out.lt q e).1)
                have HBD : Hid (Bad9 (Z.setCell ⟨g7, j * 3 + 2, none⟩ (.slice A9 n9 c9)) _ _ _ _ _ _) := Lib.hid (by have := HCPX.out.scope HTB.out hj (by rw [← hn9']; exact ho9) hg9' hscn HBAD.out; rw [← hn9'] at this; exact this)
                have KW := Lib.hid (TbW.setH hKL.out hbZ (p := ⟨g7, j * 3 + 2, none⟩) hg7 (.slice A9 n9 c9))
                have hSZ : (Z.cell? ⟨g7, j * 3, none⟩ = some (.int .i64 (F : Int)) ∧ Z.cell? ⟨g6, F * 5 + 3, none⟩ = some (.slice VA nv VC)) := ⟨(World.cell?_of_block (hTZ g7 _ (own_hasg HCPX.out.q) (by decide))).trans hSX.1, (World.cell?_of_block (hTZ g6 _ (own_hasg HCPX.out.l) (by decide))).trans hSX.2⟩
                clear hn9 hn9' hg9'
                refine hK.out _ _ hSZ (fun hHeld => ?_)
                clear hK K
                (try simp only [Act.put, List.setIfInBounds_toArray])
                refine heldTake (i := 19) (d := some 107) (v := ?_) rfl rfl (by kernel_rfl) (by kernel_rfl) (by kernel_rfl) (fun _ _ _ h => h) (by kernel_rfl) ?hyq_39 (by assumption) ?restq_39
                case hyq_39 => (intro W9 hSw; (try dsimp only at hSw); go_simp; try (with_reducible rfl))
                (try simp only [Act.put])
                refine heldTake (i := 20) (d := some 108) (v := ?_) rfl rfl (by kernel_rfl) (by kernel_rfl) (by kernel_rfl) (fun _ _ _ h => h) (by kernel_rfl) ?hyq_40 (by assumption) ?restq_40
                case hyq_40 => (intro W9 hSw; (try dsimp only at hSw); go_simp; try (with_reducible rfl))
                (try simp only [Act.put])
                refine wpAnyH_ready (rs := [21]) (by kernel_rfl) (by simp) ?_
                refine AllReadyH.cons rfl (fun K hK => ?_) AllReadyH.nil
                go_simp
                have hSV : ((Z.setCell ⟨g7, j * 3 + 2, none⟩ (.slice A9 n9 c9)).cell? ⟨g7, j * 3, none⟩ = some (.int .i64 (F : Int)) ∧ (Z.setCell ⟨g7, j * 3 + 2, none⟩ (.slice A9 n9 c9)).cell? ⟨g6, F * 5 + 3, none⟩ = some (.slice VA nv VC)) := ⟨(cell_set_off (by omega)).trans hSZ.1, Below.cell_setCell' (fun e => by subst e; exact absurd (hT6.one hT7) (by decide)) hSZ.2⟩
                refine hK.out _ _ hSV (fun hHeld => ?_)
                clear hK K
                (try simp only [Act.put, List.setIfInBounds_toArray, List.set_cons_zero, List.set_cons_succ])
                refine wpAnyH_done (by kernel_rfl) ?_ _
                go_wp2_with fail
                refine HBD.out.put.mono ?_
                rintro e wP ⟨AP, cP, rfl, hbP⟩
                have KP := Lib.hid (TbW.next KW.out hbP)
                have HBP := Lib.hid (HBD.out.next hbP)
                clear hbP HBD KW
                go_wp2_with fail
                refine HBP.out.right.mono ?_
                rintro e wQ ⟨rfl, hbQ⟩
                have KQ := Lib.hid (TbW.next KP.out hbQ)
                clear hbQ HBP KP
                go_wp2_with fail
                go_roundw
                case rel => exact ⟨1 + 1, by omega, by go_num, KQ⟩
                case measure => simp [intOf]
          · as_aux_lemma =>
              subst hn'
              have HQW := Lib.hid (HCP.out.s _ (List.getElem_mem hj))
              have hokq : okQ (ls.map Pp.d) l2[j].d = true := by have h := HR2.out; unfold right9 at h; rw [Bool.and_eq_true, Bool.and_eq_true] at h; exact List.all_eq_true.1 h.2.2 _ (List.mem_map_of_mem (List.getElem_mem hj))
              have hokf : 0 ≤ l2[j].d.fn ∧ l2[j].d.fn < ls.length := by have h := hokq; unfold okQ at h; rw [Bool.and_eq_true] at h; have := of_decide_eq_true h.1; rw [List.length_map] at this; omega
              obtain ⟨F, hF⟩ : ∃ F : Nat, l2[j].d.fn = F := ⟨l2[j].d.fn.toNat, by omega⟩
              have hFl : F < ls.length := by omega
              have hFi : (F : Int) < ls.length := by omega
              have hrise : ∀ x, okQ (ls.map Pp.d) ⟨l2[j].d.fn, l2[j].d.ln, l2[j].d.sc ++ [x]⟩ = (decide (0 ≤ l2[j].d.fn ∧ l2[j].d.fn < (ls.map Pp.d).length ∧ 1 ≤ l2[j].d.ln ∧ l2[j].d.ln ≤ 1048576) && riseB (nvs (ls.map Pp.d) l2[j].d.fn.toNat) (-1) (l2[j].d.sc ++ [x])) := fun x => rfl
              have hscn : l2[j].d.sc.length ≤ 1000000 := by have h := hokq; unfold okQ at h; rw [Bool.and_eq_true] at h; have hv := right_place HR2.out (List.mem_map_of_mem (List.getElem_mem hFl)); have n := nvs_le (ls := ls.map Pp.d) (fun p hp => (right_place HR2.out hp).2.2.2.2.2.1) l2[j].d.fn.toNat; have r := riseB_len h.2 (by omega); omega
              have HHR := Lib.hid hrise
              clear hrise hokq
              by_cases hs0 : l2[j].d.sc.length = 0
              · go_wp2_with fail
                go_roundw
                case rel => exact ⟨2 + 1, by omega, by go_num, K6⟩
                case measure => simp [intOf]
              · have hsp : 0 < l2[j].d.sc.length := by omega
                clear hs0
                obtain ⟨gi, ci, hqi, _, _, hci, _, _⟩ := HQW.out.some_ hsp
                obtain ⟨m, hm⟩ : ∃ m, l2[j].d.sc.length = m + 1 := ⟨l2[j].d.sc.length - 1, by omega⟩
                have hml : m < l2[j].d.sc.length := by omega
                obtain ⟨y, hy⟩ : ∃ y, l2[j].d.sc[m] = y := ⟨_, rfl⟩
                have cm : w6.cell? ⟨gi, m, none⟩ = some (.int .i64 y) := by have := hci m hml 0 _ rfl; rw [hy] at this; simpa [eI] using this
                have hsc : l2[j].d.sc = l2[j].d.sc.take m ++ [y] := by have h := List.take_append_getElem hml; rw [hy] at h; rw [h, ← hm, List.take_length]
                have hbad : okQ (ls.map Pp.d) ⟨l2[j].d.fn, l2[j].d.ln, l2[j].d.sc ++ [y]⟩ = false := by rw [HHR.out, hsc, rise_twice, Bool.and_false]
                have HBAD := Lib.hid hbad
                have HOQ := Lib.hid (show eI.Own w6 w4.heap.size (.slice (some ⟨gi, 0, none⟩) l2[j].d.sc.length ci) l2[j].d.sc by rw [← hqi]; exact HQW.out)
                have HQV := Lib.hid hqi
                have q2' : w6.cell? ⟨g7, j * 3 + 2, none⟩ = some (.slice (some ⟨gi, 0, none⟩) l2[j].d.sc.length ci) := by rw [q2]; exact congrArg some hqi
                obtain ⟨sn, hsn⟩ : ∃ v, l2[j].d.sc.length = v := ⟨_, rfl⟩
                rw [hsn] at q2' HOQ HQV hsp hm
                have hgiz : gi < w6.heap.size := (HOQ.out.has gi rfl).lt
                have hg7z : g7 < w6.heap.size := hT7.lt
                have hw : IntKind.i64.wrap ((sn : Int) - 1) = (m : Int) := by have := hscn; rw [hsn] at this; rw [IntKind.wrap_i64]; omega
                have hmi : (m : Int) < sn := by omega
                have hse : ((sn : Int) == 0) = false := beq_eq_false_iff_ne.2 (by omega)
                have hmn : m < sn := by omega
                clear q0 q2 hci hm hml hy hsc hbad hsn hqi hF
                go_wp2_with fail
                refine wp_region_held_drew (S := fun W9 => True) (by kernel_rfl) (trivial) (fun hHeld => ?_)
                have hbd : Below w6.heap.size w6 w6.drew := (Below.refl _ _).drew
                have q2d := (hbd.cell (p := ⟨g7, j * 3 + 2, none⟩) hg7z).trans q2'
                have cd := (hbd.cell (p := ⟨gi, m, none⟩) hgiz).trans cm
                generalize w6.drew = Wd at *
                refine heldTake (i := 0) (d := some 118) (v := ?_) rfl rfl (by kernel_rfl) (by kernel_rfl) (by kernel_rfl) (fun _ _ _ h => h) (by kernel_rfl) ?hyq_41 (by assumption) ?restq_41
                case hyq_41 => (intro W9 hSw; (try dsimp only at hSw); go_simp; try (with_reducible rfl))
                (try simp only [Act.put, List.setIfInBounds_toArray, List.set_cons_zero, List.set_cons_succ])
                refine heldTake (i := 1) (d := some 119) (v := ?_) rfl rfl (by kernel_rfl) (by kernel_rfl) (by kernel_rfl) (fun _ _ _ h => h) (by kernel_rfl) ?hyq_42 (by assumption) ?restq_42
                case hyq_42 => (intro W9 hSw; (try dsimp only at hSw); go_simp; try (with_reducible rfl))
                (try simp only [Act.put, List.setIfInBounds_toArray, List.set_cons_zero, List.set_cons_succ])
                refine heldTake (i := 2) (d := some 120) (v := ?_) rfl rfl (by kernel_rfl) (by kernel_rfl) (by kernel_rfl) (fun _ _ _ h => h) (by kernel_rfl) ?hyq_43 (by assumption) ?restq_43
                case hyq_43 => (intro W9 hSw; (try dsimp only at hSw); go_simp; try (with_reducible rfl))
                (try simp only [Act.put, List.setIfInBounds_toArray, List.set_cons_zero, List.set_cons_succ])
                refine heldTake (i := 3) (d := some 121) (v := ?_) rfl rfl (by kernel_rfl) (by kernel_rfl) (by kernel_rfl) (fun _ _ _ h => h) (by kernel_rfl) ?hyq_44 (by assumption) ?restq_44
                case hyq_44 => (intro W9 hSw; (try dsimp only at hSw); go_simp; try (with_reducible rfl))
                (try simp only [Act.put, List.setIfInBounds_toArray, List.set_cons_zero, List.set_cons_succ])
                refine heldTake (i := 4) (d := some 122) (v := ?_) rfl rfl (by kernel_rfl) (by kernel_rfl) (by kernel_rfl) (fun _ _ _ h => h) (by kernel_rfl) ?hyq_45 (by assumption) ?restq_45
                case hyq_45 => (intro W9 hSw; (try dsimp only at hSw); go_simp; try (with_reducible rfl))
                (try simp only [Act.put, List.setIfInBounds_toArray, List.set_cons_zero, List.set_cons_succ])
                refine heldTake (i := 5) (d := some 123) (v := ?_) rfl rfl (by kernel_rfl) (by kernel_rfl) (by kernel_rfl) (fun _ _ _ h => h) (by kernel_rfl) ?hyq_46 (by assumption) ?restq_46
                case hyq_46 => (intro W9 hSw; (try dsimp only at hSw); go_simp; try (with_reducible rfl))
                (try simp only [Act.put, List.setIfInBounds_toArray, List.set_cons_zero, List.set_cons_succ])
                refine heldTake (i := 7) (d := some 125) (v := ?_) rfl rfl (by kernel_rfl) (by kernel_rfl) (by kernel_rfl) (fun _ _ _ h => h) (by kernel_rfl) ?hyq_47 (by assumption) ?restq_47
                case hyq_47 => (intro W9 hSw; (try dsimp only at hSw); go_simp; try (with_reducible rfl))
                (try simp only [Act.put, List.setIfInBounds_toArray, List.set_cons_zero, List.set_cons_succ])
                refine heldTake (i := 8) (d := some 126) (v := ?_) rfl rfl (by kernel_rfl) (by kernel_rfl) (by kernel_rfl) (fun _ _ _ h => h) (by kernel_rfl) ?hyq_48 (by assumption) ?restq_48
                case hyq_48 => (intro W9 hSw; (try dsimp only at hSw); go_simp; try (with_reducible rfl))
                (try simp only [Act.put, List.setIfInBounds_toArray, List.set_cons_zero, List.set_cons_succ])
                refine heldTake (i := 9) (d := some 127) (v := ?_) rfl rfl (by kernel_rfl) (by kernel_rfl) (by kernel_rfl) (fun _ _ _ h => h) (by kernel_rfl) ?hyq_49 (by assumption) ?restq_49
                case hyq_49 => (intro W9 hSw; (try dsimp only at hSw); go_simp; try (with_reducible rfl))
                (try simp only [Act.put, List.setIfInBounds_toArray, List.set_cons_zero, List.set_cons_succ])
                refine heldTake (i := 10) (d := some 128) (v := ?_) rfl rfl (by kernel_rfl) (by kernel_rfl) (by kernel_rfl) (fun _ _ _ h => h) (by kernel_rfl) ?hyq_50 (by assumption) ?restq_50
                case hyq_50 => (intro W9 hSw; (try dsimp only at hSw); go_simp; try (with_reducible rfl))
                (try simp only [Act.put, List.setIfInBounds_toArray, List.set_cons_zero, List.set_cons_succ])
                refine heldTake (i := 12) (d := some 130) (v := ?_) rfl rfl (by kernel_rfl) (by kernel_rfl) (by kernel_rfl) (fun _ _ _ h => h) (by kernel_rfl) ?hyq_51 (by assumption) ?restq_51
                case hyq_51 => (intro W9 hSw; (try dsimp only at hSw); go_simp; try (with_reducible rfl))
                (try simp only [Act.put, List.setIfInBounds_toArray, List.set_cons_zero, List.set_cons_succ])
                refine heldTake (i := 13) (d := some 131) (v := ?_) rfl rfl (by kernel_rfl) (by kernel_rfl) (by kernel_rfl) (fun _ _ _ h => h) (by kernel_rfl) ?hyq_52 (by assumption) ?restq_52
                case hyq_52 => (intro W9 hSw; (try dsimp only at hSw); go_simp; try (with_reducible rfl))
                (try simp only [Act.put, List.setIfInBounds_toArray, List.set_cons_zero, List.set_cons_succ])
                refine heldTake (i := 14) (d := some 132) (v := ?_) rfl rfl (by kernel_rfl) (by kernel_rfl) (by kernel_rfl) (fun _ _ _ h => h) (by kernel_rfl) ?hyq_53 (by assumption) ?restq_53
                case hyq_53 => (intro W9 hSw; (try dsimp only at hSw); go_simp; try (with_reducible rfl))
                (try simp only [Act.put, List.setIfInBounds_toArray, List.set_cons_zero, List.set_cons_succ])
                refine heldTake (i := 15) (d := some 133) (v := ?_) rfl rfl (by kernel_rfl) (by kernel_rfl) (by kernel_rfl) (fun _ _ _ h => h) (by kernel_rfl) ?hyq_54 (by assumption) ?restq_54
                case hyq_54 => (intro W9 hSw; (try dsimp only at hSw); go_simp; try (with_reducible rfl))
                (try simp only [Act.put, List.setIfInBounds_toArray, List.set_cons_zero, List.set_cons_succ])
                refine wpAnyH_ready (rs := [6, 11, 16]) (by kernel_rfl) (by simp) ?_
                refine AllReadyH.cons rfl (fun K hK => ?_) (AllReadyH.cons rfl (fun K hK => ?_) (AllReadyH.cons rfl (fun K hK => ?_) AllReadyH.nil))
                · go_simp
                  refine hK.out _ _ trivial (fun hHeld => ?_)
                  clear hK K
                  (try simp only [Act.put, List.setIfInBounds_toArray, List.set_cons_zero, List.set_cons_succ])
                  refine wpAnyH_ready (rs := [11, 16]) (by kernel_rfl) (by simp) ?_
                  refine AllReadyH.cons rfl (fun K hK => ?_) (AllReadyH.cons rfl (fun K hK => ?_) AllReadyH.nil)
                  · go_simp
                    refine hK.out _ _ trivial (fun hHeld => ?_)
                    clear hK K
                    (try simp only [Act.put, List.setIfInBounds_toArray, List.set_cons_zero, List.set_cons_succ])
                    refine wpAnyH_ready (rs := [16]) (by kernel_rfl) (by simp) ?_
                    refine AllReadyH.cons rfl (fun K hK => ?_) AllReadyH.nil
                    go_simp
                    refine hK.out _ _ trivial (fun hHeld => ?_)
                    clear hK K
                    (try simp only [Act.put, List.setIfInBounds_toArray, List.set_cons_zero, List.set_cons_succ])
                    refine heldTake (i := 17) (d := some 135) (v := ?_) rfl rfl (by kernel_rfl) (by kernel_rfl) (by kernel_rfl) (fun _ _ _ h => h) (by kernel_rfl) ?hyq_55 (by assumption) ?restq_55
                    case hyq_55 => (intro W9 hSw; (try dsimp only at hSw); go_simp; try (with_reducible rfl))
                    (try simp only [Act.put, List.setIfInBounds_toArray, List.set_cons_zero, List.set_cons_succ])
                    refine heldTake (i := 18) (d := some 136) (v := ?_) rfl rfl (by kernel_rfl) (by kernel_rfl) (by kernel_rfl) (fun _ _ _ h => h) (by kernel_rfl) ?hyq_56 (by assumption) ?restq_56
                    case hyq_56 => (intro W9 hSw; (try dsimp only at hSw); go_simp; try (with_reducible rfl))
                    (try simp only [Act.put, List.setIfInBounds_toArray, List.set_cons_zero, List.set_cons_succ])
                    (try simp only [hw])
                    refine heldTake (i := 19) (d := some 137) (v := ?_) rfl rfl (by kernel_rfl) (by kernel_rfl) (by kernel_rfl) (fun _ _ _ h => h) (by kernel_rfl) ?hyq_57 (by assumption) ?restq_57
                    case hyq_57 => (intro W9 hSw; (try dsimp only at hSw); go_simp; try (with_reducible rfl))
                    (try simp only [Act.put, List.setIfInBounds_toArray, List.set_cons_zero, List.set_cons_succ])
                    refine wpAnyH_ready (rs := [20]) (by kernel_rfl) (by simp) ?_
                    refine AllReadyH.cons rfl (fun K hK => ?_) AllReadyH.nil
                    go_simp
                    refine hK.out _ _ trivial (fun hHeld => ?_)
                    clear hK K
                    (try simp only [Act.put, List.setIfInBounds_toArray, List.set_cons_zero, List.set_cons_succ])
                    refine wpAnyH_ready (rs := [21]) (by kernel_rfl) (by simp) ?_
                    refine AllReadyH.cons rfl (fun K hK => ?_) AllReadyH.nil
                    go_simp
                    have hbX := hbd.trans ((below_lnew Wd (.cells #[.int .i64 y] 3)).mono hbd.size)
                    have hcX := heap_alloc_new Wd (.cells #[.int .i64 y] 3)
                    obtain ⟨X, hX⟩ : ∃ X, Wd.alloc (.cells #[.int .i64 y] 3) = X := ⟨_, rfl⟩
                    rw [hX] at hbX hcX ⊢
                    clear hX
                    have q2X := (hbX.cell (p := ⟨g7, j * 3 + 2, none⟩) hg7z).trans q2'
                    refine hK.out _ _ trivial (fun hHeld => ?_)
                    clear hK K
                    (try simp only [Act.put, List.setIfInBounds_toArray, List.set_cons_zero, List.set_cons_succ])
                    refine wpAnyH_ready (rs := [22]) (by kernel_rfl) (by simp) ?_
                    refine AllReadyH.cons rfl (fun K hK => ?_) AllReadyH.nil
                    rw [if_pos (by kernel_rfl)]
                    have HCPX := Lib.hid (HCP.out.below hbX)
                    have HOX := Lib.hid (HOQ.out.below hbX)
                    refine El.op_app1 eI X 58 _ _ Tryz.underlying58 int_info rfl (by decide) (by decide) (.tmp 124) (.tmp 139) rfl w4.heap.size _ l2[j].d.sc rfl HOX.out Wd.heap.size 1 (y) rfl 3 hcX hscn (Nat.le_trans HBW.out hbX.size) ?_
                    intro v9 Z ho9 hg9
                    obtain ⟨A9, n9, c9, rfl, hn9, _, _, _⟩ := ho9.formN
                    have hn9' : n9 = l2[j].d.sc.length + 1 := by rw [← hn9.out]; simp
                    have hg9' : World.grownBy X Z (qS l2[j]).ownBlock := by rw [HQV.out]; exact hg9
                    have hTZ : ButT 3 X Z := ButT.grown hg9 (fun q e => HOX.out.has q e)
                    have z := own_frz (HCPX.out.q.but hTZ (by decide)) (g := g7) rfl (j * 3 + 2)
                    have hxc := own_cell (HCPX.out.q.but hTZ (by decide)) (g := g7) rfl hj (f := 2) rfl
                    simp only [eQ] at hxc
                    have hbZ := (HB46.out.trans (hbX.mono HBW.out)).grown hg9 (Nat.le_trans HBW.out hbX.size) (fun q e => (HOX.out.lt q e).1)
                    have HBD : Hid (Bad9 (Z.setCell ⟨g7, j * 3 + 2, none⟩ (.slice A9 n9 c9)) _ _ _ _ _ _) := Lib.hid (by have := HCPX.out.scope HTB.out hj (by rw [← hn9']; exact ho9) hg9' hscn HBAD.out; rw [← hn9'] at this; exact this)
                    have KW := Lib.hid (TbW.setH hKL.out hbZ (p := ⟨g7, j * 3 + 2, none⟩) hg7 (.slice A9 n9 c9))
                    clear hn9 hn9' hg9'
                    refine hK.out _ _ trivial (fun hHeld => ?_)
                    clear hK K
                    (try simp only [Act.put, List.setIfInBounds_toArray])
                    refine heldTake (i := 23) (d := some 141) (v := ?_) rfl rfl (by kernel_rfl) (by kernel_rfl) (by kernel_rfl) (fun _ _ _ h => h) (by kernel_rfl) ?hyq_58 (by assumption) ?restq_58
                    case hyq_58 => (intro W9 hSw; (try dsimp only at hSw); go_simp; try (with_reducible rfl))
                    (try simp only [Act.put])
                    refine heldTake (i := 24) (d := some 142) (v := ?_) rfl rfl (by kernel_rfl) (by kernel_rfl) (by kernel_rfl) (fun _ _ _ h => h) (by kernel_rfl) ?hyq_59 (by assumption) ?restq_59
                    case hyq_59 => (intro W9 hSw; (try dsimp only at hSw); go_simp; try (with_reducible rfl))
                    (try simp only [Act.put])
                    refine wpAnyH_ready (rs := [25]) (by kernel_rfl) (by simp) ?_
                    refine AllReadyH.cons rfl (fun K hK => ?_) AllReadyH.nil
                    go_simp
                    refine hK.out _ _ trivial (fun hHeld => ?_)
                    clear hK K
                    (try simp only [Act.put, List.setIfInBounds_toArray, List.set_cons_zero, List.set_cons_succ])
                    refine wpAnyH_done (by kernel_rfl) ?_ _
                    go_wp2_with fail
                    refine HBD.out.put.mono ?_
                    rintro e wP ⟨AP, cP, rfl, hbP⟩
                    have KP := Lib.hid (TbW.next KW.out hbP)
                    have HBP := Lib.hid (HBD.out.next hbP)
                    clear hbP HBD KW
                    go_wp2_with fail
                    refine HBP.out.right.mono ?_
                    rintro e wQ ⟨rfl, hbQ⟩
                    have KQ := Lib.hid (TbW.next KP.out hbQ)
                    clear hbQ HBP KP
                    go_wp2_with fail
                    go_roundw
                    case rel => exact ⟨2 + 1, by omega, by go_num, KQ⟩
                    case measure => simp [intOf]
                  · go_simp
                    refine hK.out _ _ trivial (fun hHeld => ?_)
                    clear hK K
                    (try simp only [Act.put, List.setIfInBounds_toArray, List.set_cons_zero, List.set_cons_succ])
                    refine heldTake (i := 17) (d := some 135) (v := ?_) rfl rfl (by kernel_rfl) (by kernel_rfl) (by kernel_rfl) (fun _ _ _ h => h) (by kernel_rfl) ?hyq_60 (by assumption) ?restq_60
                    case hyq_60 => (intro W9 hSw; (try dsimp only at hSw); go_simp; try (with_reducible rfl))
                    (try simp only [Act.put, List.setIfInBounds_toArray, List.set_cons_zero, List.set_cons_succ])
                    refine heldTake (i := 18) (d := some 136) (v := ?_) rfl rfl (by kernel_rfl) (by kernel_rfl) (by kernel_rfl) (fun _ _ _ h => h) (by kernel_rfl) ?hyq_61 (by assumption) ?restq_61
                    case hyq_61 => (intro W9 hSw; (try dsimp only at hSw); go_simp; try (with_reducible rfl))
                    (try simp only [Act.put, List.setIfInBounds_toArray, List.set_cons_zero, List.set_cons_succ])
                    (try simp only [hw])
                    refine wpAnyH_ready (rs := [11]) (by kernel_rfl) (by simp) ?_
                    refine AllReadyH.cons rfl (fun K hK => ?_) AllReadyH.nil
                    go_simp
                    refine hK.out _ _ trivial (fun hHeld => ?_)
                    clear hK K
                    (try simp only [Act.put, List.setIfInBounds_toArray, List.set_cons_zero, List.set_cons_succ])
                    refine heldTake (i := 19) (d := some 137) (v := ?_) rfl rfl (by kernel_rfl) (by kernel_rfl) (by kernel_rfl) (fun _ _ _ h => h) (by kernel_rfl) ?hyq_62 (by assumption) ?restq_62
                    case hyq_62 => (intro W9 hSw; (try dsimp only at hSw); go_simp; try (with_reducible rfl))
                    (try simp only [Act.put, List.setIfInBounds_toArray, List.set_cons_zero, List.set_cons_succ])
                    refine wpAnyH_ready (rs := [20]) (by kernel_rfl) (by simp) ?_
                    refine AllReadyH.cons rfl (fun K hK => ?_) AllReadyH.nil
                    go_simp
                    refine hK.out _ _ trivial (fun hHeld => ?_)
                    clear hK K
                    (try simp only [Act.put, List.setIfInBounds_toArray, List.set_cons_zero, List.set_cons_succ])
                    refine wpAnyH_ready (rs := [21]) (by kernel_rfl) (by simp) ?_
                    refine AllReadyH.cons rfl (fun K hK => ?_) AllReadyH.nil
                    go_simp
                    have hbX := hbd.trans ((below_lnew Wd (.cells #[.int .i64 y] 3)).mono hbd.size)
                    have hcX := heap_alloc_new Wd (.cells #[.int .i64 y] 3)
                    obtain ⟨X, hX⟩ : ∃ X, Wd.alloc (.cells #[.int .i64 y] 3) = X := ⟨_, rfl⟩
                    rw [hX] at hbX hcX ⊢
                    clear hX
                    have q2X := (hbX.cell (p := ⟨g7, j * 3 + 2, none⟩) hg7z).trans q2'
                    refine hK.out _ _ trivial (fun hHeld => ?_)
                    clear hK K
                    (try simp only [Act.put, List.setIfInBounds_toArray, List.set_cons_zero, List.set_cons_succ])
                    refine wpAnyH_ready (rs := [22]) (by kernel_rfl) (by simp) ?_
                    refine AllReadyH.cons rfl (fun K hK => ?_) AllReadyH.nil
                    rw [if_pos (by kernel_rfl)]
                    have HCPX := Lib.hid (HCP.out.below hbX)
                    have HOX := Lib.hid (HOQ.out.below hbX)
                    refine El.op_app1 eI X 58 _ _ Tryz.underlying58 int_info rfl (by decide) (by decide) (.tmp 124) (.tmp 139) rfl w4.heap.size _ l2[j].d.sc rfl HOX.out Wd.heap.size 1 (y) rfl 3 hcX hscn (Nat.le_trans HBW.out hbX.size) ?_
                    intro v9 Z ho9 hg9
                    obtain ⟨A9, n9, c9, rfl, hn9, _, _, _⟩ := ho9.formN
                    have hn9' : n9 = l2[j].d.sc.length + 1 := by rw [← hn9.out]; simp
                    have hg9' : World.grownBy X Z (qS l2[j]).ownBlock := by rw [HQV.out]; exact hg9
                    have hTZ : ButT 3 X Z := ButT.grown hg9 (fun q e => HOX.out.has q e)
                    have z := own_frz (HCPX.out.q.but hTZ (by decide)) (g := g7) rfl (j * 3 + 2)
                    have hxc := own_cell (HCPX.out.q.but hTZ (by decide)) (g := g7) rfl hj (f := 2) rfl
                    simp only [eQ] at hxc
                    have hbZ := (HB46.out.trans (hbX.mono HBW.out)).grown hg9 (Nat.le_trans HBW.out hbX.size) (fun q e => (HOX.out.lt q e).1)
                    have HBD : Hid (Bad9 (Z.setCell ⟨g7, j * 3 + 2, none⟩ (.slice A9 n9 c9)) _ _ _ _ _ _) := Lib.hid (by have := HCPX.out.scope HTB.out hj (by rw [← hn9']; exact ho9) hg9' hscn HBAD.out; rw [← hn9'] at this; exact this)
                    have KW := Lib.hid (TbW.setH hKL.out hbZ (p := ⟨g7, j * 3 + 2, none⟩) hg7 (.slice A9 n9 c9))
                    clear hn9 hn9' hg9'
                    refine hK.out _ _ trivial (fun hHeld => ?_)
                    clear hK K
                    (try simp only [Act.put, List.setIfInBounds_toArray])
                    refine heldTake (i := 23) (d := some 141) (v := ?_) rfl rfl (by kernel_rfl) (by kernel_rfl) (by kernel_rfl) (fun _ _ _ h => h) (by kernel_rfl) ?hyq_63 (by assumption) ?restq_63
                    case hyq_63 => (intro W9 hSw; (try dsimp only at hSw); go_simp; try (with_reducible rfl))
                    (try simp only [Act.put])
                    refine heldTake (i := 24) (d := some 142) (v := ?_) rfl rfl (by kernel_rfl) (by kernel_rfl) (by kernel_rfl) (fun _ _ _ h => h) (by kernel_rfl) ?hyq_64 (by assumption) ?restq_64
                    case hyq_64 => (intro W9 hSw; (try dsimp only at hSw); go_simp; try (with_reducible rfl))
                    (try simp only [Act.put])
                    refine wpAnyH_ready (rs := [25]) (by kernel_rfl) (by simp) ?_
                    refine AllReadyH.cons rfl (fun K hK => ?_) AllReadyH.nil
                    go_simp
                    refine hK.out _ _ trivial (fun hHeld => ?_)
                    clear hK K
                    (try simp only [Act.put, List.setIfInBounds_toArray, List.set_cons_zero, List.set_cons_succ])
                    refine wpAnyH_done (by kernel_rfl) ?_ _
                    go_wp2_with fail
                    refine HBD.out.put.mono ?_
                    rintro e wP ⟨AP, cP, rfl, hbP⟩
                    have KP := Lib.hid (TbW.next KW.out hbP)
                    have HBP := Lib.hid (HBD.out.next hbP)
                    clear hbP HBD KW
                    go_wp2_with fail
                    refine HBP.out.right.mono ?_
                    rintro e wQ ⟨rfl, hbQ⟩
                    have KQ := Lib.hid (TbW.next KP.out hbQ)
                    clear hbQ HBP KP
                    go_wp2_with fail
                    go_roundw
                    case rel => exact ⟨2 + 1, by omega, by go_num, KQ⟩
                    case measure => simp [intOf]
                · go_simp
                  refine hK.out _ _ trivial (fun hHeld => ?_)
                  clear hK K
                  (try simp only [Act.put, List.setIfInBounds_toArray, List.set_cons_zero, List.set_cons_succ])
                  refine wpAnyH_ready (rs := [6, 16]) (by kernel_rfl) (by simp) ?_
                  refine AllReadyH.cons rfl (fun K hK => ?_) (AllReadyH.cons rfl (fun K hK => ?_) AllReadyH.nil)
                  · go_simp
                    refine hK.out _ _ trivial (fun hHeld => ?_)
                    clear hK K
                    (try simp only [Act.put, List.setIfInBounds_toArray, List.set_cons_zero, List.set_cons_succ])
                    refine wpAnyH_ready (rs := [16]) (by kernel_rfl) (by simp) ?_
                    refine AllReadyH.cons rfl (fun K hK => ?_) AllReadyH.nil
                    go_simp
                    refine hK.out _ _ trivial (fun hHeld => ?_)
                    clear hK K
                    (try simp only [Act.put, List.setIfInBounds_toArray, List.set_cons_zero, List.set_cons_succ])
                    refine heldTake (i := 17) (d := some 135) (v := ?_) rfl rfl (by kernel_rfl) (by kernel_rfl) (by kernel_rfl) (fun _ _ _ h => h) (by kernel_rfl) ?hyq_65 (by assumption) ?restq_65
                    case hyq_65 => (intro W9 hSw; (try dsimp only at hSw); go_simp; try (with_reducible rfl))
                    (try simp only [Act.put, List.setIfInBounds_toArray, List.set_cons_zero, List.set_cons_succ])
                    refine heldTake (i := 18) (d := some 136) (v := ?_) rfl rfl (by kernel_rfl) (by kernel_rfl) (by kernel_rfl) (fun _ _ _ h => h) (by kernel_rfl) ?hyq_66 (by assumption) ?restq_66
                    case hyq_66 => (intro W9 hSw; (try dsimp only at hSw); go_simp; try (with_reducible rfl))
                    (try simp only [Act.put, List.setIfInBounds_toArray, List.set_cons_zero, List.set_cons_succ])
                    (try simp only [hw])
                    refine heldTake (i := 19) (d := some 137) (v := ?_) rfl rfl (by kernel_rfl) (by kernel_rfl) (by kernel_rfl) (fun _ _ _ h => h) (by kernel_rfl) ?hyq_67 (by assumption) ?restq_67
                    case hyq_67 => (intro W9 hSw; (try dsimp only at hSw); go_simp; try (with_reducible rfl))
                    (try simp only [Act.put, List.setIfInBounds_toArray, List.set_cons_zero, List.set_cons_succ])
                    refine wpAnyH_ready (rs := [20]) (by kernel_rfl) (by simp) ?_
                    refine AllReadyH.cons rfl (fun K hK => ?_) AllReadyH.nil
                    go_simp
                    refine hK.out _ _ trivial (fun hHeld => ?_)
                    clear hK K
                    (try simp only [Act.put, List.setIfInBounds_toArray, List.set_cons_zero, List.set_cons_succ])
                    refine wpAnyH_ready (rs := [21]) (by kernel_rfl) (by simp) ?_
                    refine AllReadyH.cons rfl (fun K hK => ?_) AllReadyH.nil
                    go_simp
                    have hbX := hbd.trans ((below_lnew Wd (.cells #[.int .i64 y] 3)).mono hbd.size)
                    have hcX := heap_alloc_new Wd (.cells #[.int .i64 y] 3)
                    obtain ⟨X, hX⟩ : ∃ X, Wd.alloc (.cells #[.int .i64 y] 3) = X := ⟨_, rfl⟩
                    rw [hX] at hbX hcX ⊢
                    clear hX
                    have q2X := (hbX.cell (p := ⟨g7, j * 3 + 2, none⟩) hg7z).trans q2'
                    refine hK.out _ _ trivial (fun hHeld => ?_)
                    clear hK K
                    (try simp only [Act.put, List.setIfInBounds_toArray, List.set_cons_zero, List.set_cons_succ])
                    refine wpAnyH_ready (rs := [22]) (by kernel_rfl) (by simp) ?_
                    refine AllReadyH.cons rfl (fun K hK => ?_) AllReadyH.nil
                    rw [if_pos (by kernel_rfl)]
                    have HCPX := Lib.hid (HCP.out.below hbX)
                    have HOX := Lib.hid (HOQ.out.below hbX)
                    refine El.op_app1 eI X 58 _ _ Tryz.underlying58 int_info rfl (by decide) (by decide) (.tmp 124) (.tmp 139) rfl w4.heap.size _ l2[j].d.sc rfl HOX.out Wd.heap.size 1 (y) rfl 3 hcX hscn (Nat.le_trans HBW.out hbX.size) ?_
                    intro v9 Z ho9 hg9
                    obtain ⟨A9, n9, c9, rfl, hn9, _, _, _⟩ := ho9.formN
                    have hn9' : n9 = l2[j].d.sc.length + 1 := by rw [← hn9.out]; simp
                    have hg9' : World.grownBy X Z (qS l2[j]).ownBlock := by rw [HQV.out]; exact hg9
                    have hTZ : ButT 3 X Z := ButT.grown hg9 (fun q e => HOX.out.has q e)
                    have z := own_frz (HCPX.out.q.but hTZ (by decide)) (g := g7) rfl (j * 3 + 2)
                    have hxc := own_cell (HCPX.out.q.but hTZ (by decide)) (g := g7) rfl hj (f := 2) rfl
                    simp only [eQ] at hxc
                    have hbZ := (HB46.out.trans (hbX.mono HBW.out)).grown hg9 (Nat.le_trans HBW.out hbX.size) (fun q e => (HOX.out.lt q e).1)
                    have HBD : Hid (Bad9 (Z.setCell ⟨g7, j * 3 + 2, none⟩ (.slice A9 n9 c9)) _ _ _ _ _ _) := Lib.hid (by have := HCPX.out.scope HTB.out hj (by rw [← hn9']; exact ho9) hg9' hscn HBAD.out; rw [← hn9'] at this; exact this)
                    have KW := Lib.hid (TbW.setH hKL.out hbZ (p := ⟨g7, j * 3 + 2, none⟩) hg7 (.slice A9 n9 c9))
                    clear hn9 hn9' hg9'
                    refine hK.out _ _ trivial (fun hHeld => ?_)
                    clear hK K
                    (try simp only [Act.put, List.setIfInBounds_toArray])
                    refine heldTake (i := 23) (d := some 141) (v := ?_) rfl rfl (by kernel_rfl) (by kernel_rfl) (by kernel_rfl) (fun _ _ _ h => h) (by kernel_rfl) ?hyq_68 (by assumption) ?restq_68
                    case hyq_68 => (intro W9 hSw; (try dsimp only at hSw); go_simp; try (with_reducible rfl))
                    (try simp only [Act.put])
                    refine heldTake (i := 24) (d := some 142) (v := ?_) rfl rfl (by kernel_rfl) (by kernel_rfl) (by kernel_rfl) (fun _ _ _ h => h) (by kernel_rfl) ?hyq_69 (by assumption) ?restq_69
                    case hyq_69 => (intro W9 hSw; (try dsimp only at hSw); go_simp; try (with_reducible rfl))
                    (try simp only [Act.put])
                    refine wpAnyH_ready (rs := [25]) (by kernel_rfl) (by simp) ?_
                    refine AllReadyH.cons rfl (fun K hK => ?_) AllReadyH.nil
                    go_simp
                    refine hK.out _ _ trivial (fun hHeld => ?_)
                    clear hK K
                    (try simp only [Act.put, List.setIfInBounds_toArray, List.set_cons_zero, List.set_cons_succ])
                    refine wpAnyH_done (by kernel_rfl) ?_ _
                    go_wp2_with fail
                    refine HBD.out.put.mono ?_
                    rintro e wP ⟨AP, cP, rfl, hbP⟩
                    have KP := Lib.hid (TbW.next KW.out hbP)
                    have HBP := Lib.hid (HBD.out.next hbP)
                    clear hbP HBD KW
                    go_wp2_with fail
                    refine HBP.out.right.mono ?_
                    rintro e wQ ⟨rfl, hbQ⟩
                    have KQ := Lib.hid (TbW.next KP.out hbQ)
                    clear hbQ HBP KP
                    go_wp2_with fail
                    go_roundw
                    case rel => exact ⟨2 + 1, by omega, by go_num, KQ⟩
                    case measure => simp [intOf]
                  · go_simp
                    refine hK.out _ _ trivial (fun hHeld => ?_)
                    clear hK K
                    (try simp only [Act.put, List.setIfInBounds_toArray, List.set_cons_zero, List.set_cons_succ])
                    refine heldTake (i := 17) (d := some 135) (v := ?_) rfl rfl (by kernel_rfl) (by kernel_rfl) (by kernel_rfl) (fun _ _ _ h => h) (by kernel_rfl) ?hyq_70 (by assumption) ?restq_70
                    case hyq_70 => (intro W9 hSw; (try dsimp only at hSw); go_simp; try (with_reducible rfl))
                    (try simp only [Act.put, List.setIfInBounds_toArray, List.set_cons_zero, List.set_cons_succ])
                    refine heldTake (i := 18) (d := some 136) (v := ?_) rfl rfl (by kernel_rfl) (by kernel_rfl) (by kernel_rfl) (fun _ _ _ h => h) (by kernel_rfl) ?hyq_71 (by assumption) ?restq_71
                    case hyq_71 => (intro W9 hSw; (try dsimp only at hSw); go_simp; try (with_reducible rfl))
                    (try simp only [Act.put, List.setIfInBounds_toArray, List.set_cons_zero, List.set_cons_succ])
                    (try simp only [hw])
                    refine heldTake (i := 19) (d := some 137) (v := ?_) rfl rfl (by kernel_rfl) (by kernel_rfl) (by kernel_rfl) (fun _ _ _ h => h) (by kernel_rfl) ?hyq_72 (by assumption) ?restq_72
                    case hyq_72 => (intro W9 hSw; (try dsimp only at hSw); go_simp; try (with_reducible rfl))
                    (try simp only [Act.put, List.setIfInBounds_toArray, List.set_cons_zero, List.set_cons_succ])
                    refine wpAnyH_ready (rs := [6, 20]) (by kernel_rfl) (by simp) ?_
                    refine AllReadyH.cons rfl (fun K hK => ?_) (AllReadyH.cons rfl (fun K hK => ?_) AllReadyH.nil)
                    · go_simp
                      refine hK.out _ _ trivial (fun hHeld => ?_)
                      clear hK K
                      (try simp only [Act.put, List.setIfInBounds_toArray, List.set_cons_zero, List.set_cons_succ])
                      refine wpAnyH_ready (rs := [20]) (by kernel_rfl) (by simp) ?_
                      refine AllReadyH.cons rfl (fun K hK => ?_) AllReadyH.nil
                      go_simp
                      refine hK.out _ _ trivial (fun hHeld => ?_)
                      clear hK K
                      (try simp only [Act.put, List.setIfInBounds_toArray, List.set_cons_zero, List.set_cons_succ])
                      refine wpAnyH_ready (rs := [21]) (by kernel_rfl) (by simp) ?_
                      refine AllReadyH.cons rfl (fun K hK => ?_) AllReadyH.nil
                      go_simp
                      have hbX := hbd.trans ((below_lnew Wd (.cells #[.int .i64 y] 3)).mono hbd.size)
                      have hcX := heap_alloc_new Wd (.cells #[.int .i64 y] 3)
                      obtain ⟨X, hX⟩ : ∃ X, Wd.alloc (.cells #[.int .i64 y] 3) = X := ⟨_, rfl⟩
                      rw [hX] at hbX hcX ⊢
                      clear hX
                      have q2X := (hbX.cell (p := ⟨g7, j * 3 + 2, none⟩) hg7z).trans q2'
                      refine hK.out _ _ trivial (fun hHeld => ?_)
                      clear hK K
                      (try simp only [Act.put, List.setIfInBounds_toArray, List.set_cons_zero, List.set_cons_succ])
                      refine wpAnyH_ready (rs := [22]) (by kernel_rfl) (by simp) ?_
                      refine AllReadyH.cons rfl (fun K hK => ?_) AllReadyH.nil
                      rw [if_pos (by kernel_rfl)]
                      have HCPX := Lib.hid (HCP.out.below hbX)
                      have HOX := Lib.hid (HOQ.out.below hbX)
                      refine El.op_app1 eI X 58 _ _ Tryz.underlying58 int_info rfl (by decide) (by decide) (.tmp 124) (.tmp 139) rfl w4.heap.size _ l2[j].d.sc rfl HOX.out Wd.heap.size 1 (y) rfl 3 hcX hscn (Nat.le_trans HBW.out hbX.size) ?_
                      intro v9 Z ho9 hg9
                      obtain ⟨A9, n9, c9, rfl, hn9, _, _, _⟩ := ho9.formN
                      have hn9' : n9 = l2[j].d.sc.length + 1 := by rw [← hn9.out]; simp
                      have hg9' : World.grownBy X Z (qS l2[j]).ownBlock := by rw [HQV.out]; exact hg9
                      have hTZ : ButT 3 X Z := ButT.grown hg9 (fun q e => HOX.out.has q e)
                      have z := own_frz (HCPX.out.q.but hTZ (by decide)) (g := g7) rfl (j * 3 + 2)
                      have hxc := own_cell (HCPX.out.q.but hTZ (by decide)) (g := g7) rfl hj (f := 2) rfl
                      simp only [eQ] at hxc
                      have hbZ := (HB46.out.trans (hbX.mono HBW.out)).grown hg9 (Nat.le_trans HBW.out hbX.size) (fun q e => (HOX.out.lt q e).1)
                      have HBD : Hid (Bad9 (Z.setCell ⟨g7, j * 3 + 2, none⟩ (.slice A9 n9 c9)) _ _ _ _ _ _) := Lib.hid (by have := HCPX.out.scope HTB.out hj (by rw [← hn9']; exact ho9) hg9' hscn HBAD.out; rw [← hn9'] at this; exact this)
                      have KW := Lib.hid (TbW.setH hKL.out hbZ (p := ⟨g7, j * 3 + 2, none⟩) hg7 (.slice A9 n9 c9))
                      clear hn9 hn9' hg9'
                      refine hK.out _ _ trivial (fun hHeld => ?_)
                      clear hK K
                      (try simp only [Act.put, List.setIfInBounds_toArray])
                      refine heldTake (i := 23) (d := some 141) (v := ?_) rfl rfl (by kernel_rfl) (by kernel_rfl) (by kernel_rfl) (fun _ _ _ h => h) (by kernel_rfl) ?hyq_73 (by assumption) ?restq_73
                      case hyq_73 => (intro W9 hSw; (try dsimp only at hSw); go_simp; try (with_reducible rfl))
                      (try simp only [Act.put])
                      refine heldTake (i := 24) (d := some 142) (v := ?_) rfl rfl (by kernel_rfl) (by kernel_rfl) (by kernel_rfl) (fun _ _ _ h => h) (by kernel_rfl) ?hyq_74 (by assumption) ?restq_74
                      case hyq_74 => (intro W9 hSw; (try dsimp only at hSw); go_simp; try (with_reducible rfl))
                      (try simp only [Act.put])
                      refine wpAnyH_ready (rs := [25]) (by kernel_rfl) (by simp) ?_
                      refine AllReadyH.cons rfl (fun K hK => ?_) AllReadyH.nil
                      go_simp
                      refine hK.out _ _ trivial (fun hHeld => ?_)
                      clear hK K
                      (try simp only [Act.put, List.setIfInBounds_toArray, List.set_cons_zero, List.set_cons_succ])
                      refine wpAnyH_done (by kernel_rfl) ?_ _
                      go_wp2_with fail
                      refine HBD.out.put.mono ?_
                      rintro e wP ⟨AP, cP, rfl, hbP⟩
                      have KP := Lib.hid (TbW.next KW.out hbP)
                      have HBP := Lib.hid (HBD.out.next hbP)
                      clear hbP HBD KW
                      go_wp2_with fail
                      refine HBP.out.right.mono ?_
                      rintro e wQ ⟨rfl, hbQ⟩
                      have KQ := Lib.hid (TbW.next KP.out hbQ)
                      clear hbQ HBP KP
                      go_wp2_with fail
                      go_roundw
                      case rel => exact ⟨2 + 1, by omega, by go_num, KQ⟩
                      case measure => simp [intOf]
                    · go_simp
                      refine hK.out _ _ trivial (fun hHeld => ?_)
                      clear hK K
                      (try simp only [Act.put, List.setIfInBounds_toArray, List.set_cons_zero, List.set_cons_succ])
                      refine wpAnyH_ready (rs := [6, 21]) (by kernel_rfl) (by simp) ?_
                      refine AllReadyH.cons rfl (fun K hK => ?_) (AllReadyH.cons rfl (fun K hK => ?_) AllReadyH.nil)
                      · go_simp
                        refine hK.out _ _ trivial (fun hHeld => ?_)
                        clear hK K
                        (try simp only [Act.put, List.setIfInBounds_toArray, List.set_cons_zero, List.set_cons_succ])
                        refine wpAnyH_ready (rs := [21]) (by kernel_rfl) (by simp) ?_
                        refine AllReadyH.cons rfl (fun K hK => ?_) AllReadyH.nil
                        go_simp
                        have hbX := hbd.trans ((below_lnew Wd (.cells #[.int .i64 y] 3)).mono hbd.size)
                        have hcX := heap_alloc_new Wd (.cells #[.int .i64 y] 3)
                        obtain ⟨X, hX⟩ : ∃ X, Wd.alloc (.cells #[.int .i64 y] 3) = X := ⟨_, rfl⟩
                        rw [hX] at hbX hcX ⊢
                        clear hX
                        have q2X := (hbX.cell (p := ⟨g7, j * 3 + 2, none⟩) hg7z).trans q2'
                        refine hK.out _ _ trivial (fun hHeld => ?_)
                        clear hK K
                        (try simp only [Act.put, List.setIfInBounds_toArray, List.set_cons_zero, List.set_cons_succ])
                        refine wpAnyH_ready (rs := [22]) (by kernel_rfl) (by simp) ?_
                        refine AllReadyH.cons rfl (fun K hK => ?_) AllReadyH.nil
                        rw [if_pos (by kernel_rfl)]
                        have HCPX := Lib.hid (HCP.out.below hbX)
                        have HOX := Lib.hid (HOQ.out.below hbX)
                        refine El.op_app1 eI X 58 _ _ Tryz.underlying58 int_info rfl (by decide) (by decide) (.tmp 124) (.tmp 139) rfl w4.heap.size _ l2[j].d.sc rfl HOX.out Wd.heap.size 1 (y) rfl 3 hcX hscn (Nat.le_trans HBW.out hbX.size) ?_
                        intro v9 Z ho9 hg9
                        obtain ⟨A9, n9, c9, rfl, hn9, _, _, _⟩ := ho9.formN
                        have hn9' : n9 = l2[j].d.sc.length + 1 := by rw [← hn9.out]; simp
                        have hg9' : World.grownBy X Z (qS l2[j]).ownBlock := by rw [HQV.out]; exact hg9
                        have hTZ : ButT 3 X Z := ButT.grown hg9 (fun q e => HOX.out.has q e)
                        have z := own_frz (HCPX.out.q.but hTZ (by decide)) (g := g7) rfl (j * 3 + 2)
                        have hxc := own_cell (HCPX.out.q.but hTZ (by decide)) (g := g7) rfl hj (f := 2) rfl
                        simp only [eQ] at hxc
                        have hbZ := (HB46.out.trans (hbX.mono HBW.out)).grown hg9 (Nat.le_trans HBW.out hbX.size) (fun q e => (HOX.out.lt q e).1)
                        have HBD : Hid (Bad9 (Z.setCell ⟨g7, j * 3 + 2, none⟩ (.slice A9 n9 c9)) _ _ _ _ _ _) := Lib.hid (by have := HCPX.out.scope HTB.out hj (by rw [← hn9']; exact ho9) hg9' hscn HBAD.out; rw [← hn9'] at this; exact this)
                        have KW := Lib.hid (TbW.setH hKL.out hbZ (p := ⟨g7, j * 3 + 2, none⟩) hg7 (.slice A9 n9 c9))
                        clear hn9 hn9' hg9'
                        refine hK.out _ _ trivial (fun hHeld => ?_)
                        clear hK K
                        (try simp only [Act.put, List.setIfInBounds_toArray])
                        refine heldTake (i := 23) (d := some 141) (v := ?_) rfl rfl (by kernel_rfl) (by kernel_rfl) (by kernel_rfl) (fun _ _ _ h => h) (by kernel_rfl) ?hyq_75 (by assumption) ?restq_75
                        case hyq_75 => (intro W9 hSw; (try dsimp only at hSw); go_simp; try (with_reducible rfl))
                        (try simp only [Act.put])
                        refine heldTake (i := 24) (d := some 142) (v := ?_) rfl rfl (by kernel_rfl) (by kernel_rfl) (by kernel_rfl) (fun _ _ _ h => h) (by kernel_rfl) ?hyq_76 (by assumption) ?restq_76
                        case hyq_76 => (intro W9 hSw; (try dsimp only at hSw); go_simp; try (with_reducible rfl))
                        (try simp only [Act.put])
                        refine wpAnyH_ready (rs := [25]) (by kernel_rfl) (by simp) ?_
                        refine AllReadyH.cons rfl (fun K hK => ?_) AllReadyH.nil
                        go_simp
                        refine hK.out _ _ trivial (fun hHeld => ?_)
                        clear hK K
                        (try simp only [Act.put, List.setIfInBounds_toArray, List.set_cons_zero, List.set_cons_succ])
                        refine wpAnyH_done (by kernel_rfl) ?_ _
                        go_wp2_with fail
                        refine HBD.out.put.mono ?_
                        rintro e wP ⟨AP, cP, rfl, hbP⟩
                        have KP := Lib.hid (TbW.next KW.out hbP)
                        have HBP := Lib.hid (HBD.out.next hbP)
                        clear hbP HBD KW
                        go_wp2_with fail
                        refine HBP.out.right.mono ?_
                        rintro e wQ ⟨rfl, hbQ⟩
                        have KQ := Lib.hid (TbW.next KP.out hbQ)
                        clear hbQ HBP KP
                        go_wp2_with fail
                        go_roundw
                        case rel => exact ⟨2 + 1, by omega, by go_num, KQ⟩
                        case measure => simp [intOf]
                      · go_simp
                        have hbX := hbd.trans ((below_lnew Wd (.cells #[.int .i64 y] 3)).mono hbd.size)
                        have hcX := heap_alloc_new Wd (.cells #[.int .i64 y] 3)
                        obtain ⟨X, hX⟩ : ∃ X, Wd.alloc (.cells #[.int .i64 y] 3) = X := ⟨_, rfl⟩
                        rw [hX] at hbX hcX ⊢
                        clear hX
                        have q2X := (hbX.cell (p := ⟨g7, j * 3 + 2, none⟩) hg7z).trans q2'
                        refine hK.out _ _ trivial (fun hHeld => ?_)
                        clear hK K
                        (try simp only [Act.put, List.setIfInBounds_toArray, List.set_cons_zero, List.set_cons_succ])
                        refine wpAnyH_ready (rs := [6]) (by kernel_rfl) (by simp) ?_
                        refine AllReadyH.cons rfl (fun K hK => ?_) AllReadyH.nil
                        go_simp
                        refine hK.out _ _ trivial (fun hHeld => ?_)
                        clear hK K
                        (try simp only [Act.put, List.setIfInBounds_toArray, List.set_cons_zero, List.set_cons_succ])
                        refine wpAnyH_ready (rs := [22]) (by kernel_rfl) (by simp) ?_
                        refine AllReadyH.cons rfl (fun K hK => ?_) AllReadyH.nil
                        rw [if_pos (by kernel_rfl)]
                        have HCPX := Lib.hid (HCP.out.below hbX)
                        have HOX := Lib.hid (HOQ.out.below hbX)
                        refine El.op_app1 eI X 58 _ _ Tryz.underlying58 int_info rfl (by decide) (by decide) (.tmp 124) (.tmp 139) rfl w4.heap.size _ l2[j].d.sc rfl HOX.out Wd.heap.size 1 (y) rfl 3 hcX hscn (Nat.le_trans HBW.out hbX.size) ?_
                        intro v9 Z ho9 hg9
                        obtain ⟨A9, n9, c9, rfl, hn9, _, _, _⟩ := ho9.formN
                        have hn9' : n9 = l2[j].d.sc.length + 1 := by rw [← hn9.out]; simp
                        have hg9' : World.grownBy X Z (qS l2[j]).ownBlock := by rw [HQV.out]; exact hg9
                        have hTZ : ButT 3 X Z := ButT.grown hg9 (fun q e => HOX.out.has q e)
                        have z := own_frz (HCPX.out.q.but hTZ (by decide)) (g := g7) rfl (j * 3 + 2)
                        have hxc := own_cell (HCPX.out.q.but hTZ (by decide)) (g := g7) rfl hj (f := 2) rfl
                        simp only [eQ] at hxc
                        have hbZ := (HB46.out.trans (hbX.mono HBW.out)).grown hg9 (Nat.le_trans HBW.out hbX.size) (fun q e => (HOX.out.lt q e).1)
                        have HBD : Hid (Bad9 (Z.setCell ⟨g7, j * 3 + 2, none⟩ (.slice A9 n9 c9)) _ _ _ _ _ _) := Lib.hid (by have := HCPX.out.scope HTB.out hj (by rw [← hn9']; exact ho9) hg9' hscn HBAD.out; rw [← hn9'] at this; exact this)
                        have KW := Lib.hid (TbW.setH hKL.out hbZ (p := ⟨g7, j * 3 + 2, none⟩) hg7 (.slice A9 n9 c9))
                        clear hn9 hn9' hg9'
                        refine hK.out _ _ trivial (fun hHeld => ?_)
                        clear hK K
                        (try simp only [Act.put, List.setIfInBounds_toArray])
                        refine heldTake (i := 23) (d := some 141) (v := ?_) rfl rfl (by kernel_rfl) (by kernel_rfl) (by kernel_rfl) (fun _ _ _ h => h) (by kernel_rfl) ?hyq_77 (by assumption) ?restq_77
                        case hyq_77 => (intro W9 hSw; (try dsimp only at hSw); go_simp; try (with_reducible rfl))
                        (try simp only [Act.put])
                        refine heldTake (i := 24) (d := some 142) (v := ?_) rfl rfl (by kernel_rfl) (by kernel_rfl) (by kernel_rfl) (fun _ _ _ h => h) (by kernel_rfl) ?hyq_78 (by assumption) ?restq_78
                        case hyq_78 => (intro W9 hSw; (try dsimp only at hSw); go_simp; try (with_reducible rfl))
                        (try simp only [Act.put])
                        refine wpAnyH_ready (rs := [25]) (by kernel_rfl) (by simp) ?_
                        refine AllReadyH.cons rfl (fun K hK => ?_) AllReadyH.nil
                        go_simp
                        refine hK.out _ _ trivial (fun hHeld => ?_)
                        clear hK K
                        (try simp only [Act.put, List.setIfInBounds_toArray, List.set_cons_zero, List.set_cons_succ])
                        refine wpAnyH_done (by kernel_rfl) ?_ _
                        go_wp2_with fail
                        refine HBD.out.put.mono ?_
                        rintro e wP ⟨AP, cP, rfl, hbP⟩
                        have KP := Lib.hid (TbW.next KW.out hbP)
                        have HBP := Lib.hid (HBD.out.next hbP)
                        clear hbP HBD KW
                        go_wp2_with fail
                        refine HBP.out.right.mono ?_
                        rintro e wQ ⟨rfl, hbQ⟩
                        have KQ := Lib.hid (TbW.next KP.out hbQ)
                        clear hbQ HBP KP
                        go_wp2_with fail
                        go_roundw
                        case rel => exact ⟨2 + 1, by omega, by go_num, KQ⟩
                        case measure => simp [intOf]
                · go_simp
                  refine hK.out _ _ trivial (fun hHeld => ?_)
                  clear hK K
                  (try simp only [Act.put, List.setIfInBounds_toArray, List.set_cons_zero, List.set_cons_succ])
                  refine heldTake (i := 17) (d := some 135) (v := ?_) rfl rfl (by kernel_rfl) (by kernel_rfl) (by kernel_rfl) (fun _ _ _ h => h) (by kernel_rfl) ?hyq_79 (by assumption) ?restq_79
                  case hyq_79 => (intro W9 hSw; (try dsimp only at hSw); go_simp; try (with_reducible rfl))
                  (try simp only [Act.put, List.setIfInBounds_toArray, List.set_cons_zero, List.set_cons_succ])
                  refine heldTake (i := 18) (d := some 136) (v := ?_) rfl rfl (by kernel_rfl) (by kernel_rfl) (by kernel_rfl) (fun _ _ _ h => h) (by kernel_rfl) ?hyq_80 (by assumption) ?restq_80
                  case hyq_80 => (intro W9 hSw; (try dsimp only at hSw); go_simp; try (with_reducible rfl))
                  (try simp only [Act.put, List.setIfInBounds_toArray, List.set_cons_zero, List.set_cons_succ])
                  (try simp only [hw])
                  refine wpAnyH_ready (rs := [6, 11]) (by kernel_rfl) (by simp) ?_
                  refine AllReadyH.cons rfl (fun K hK => ?_) (AllReadyH.cons rfl (fun K hK => ?_) AllReadyH.nil)
                  · go_simp
                    refine hK.out _ _ trivial (fun hHeld => ?_)
                    clear hK K
                    (try simp only [Act.put, List.setIfInBounds_toArray, List.set_cons_zero, List.set_cons_succ])
                    refine wpAnyH_ready (rs := [11]) (by kernel_rfl) (by simp) ?_
                    refine AllReadyH.cons rfl (fun K hK => ?_) AllReadyH.nil
                    go_simp
                    refine hK.out _ _ trivial (fun hHeld => ?_)
                    clear hK K
                    (try simp only [Act.put, List.setIfInBounds_toArray, List.set_cons_zero, List.set_cons_succ])
                    refine heldTake (i := 19) (d := some 137) (v := ?_) rfl rfl (by kernel_rfl) (by kernel_rfl) (by kernel_rfl) (fun _ _ _ h => h) (by kernel_rfl) ?hyq_81 (by assumption) ?restq_81
                    case hyq_81 => (intro W9 hSw; (try dsimp only at hSw); go_simp; try (with_reducible rfl))
                    (try simp only [Act.put, List.setIfInBounds_toArray, List.set_cons_zero, List.set_cons_succ])
                    refine wpAnyH_ready (rs := [20]) (by kernel_rfl) (by simp) ?_
                    refine AllReadyH.cons rfl (fun K hK => ?_) AllReadyH.nil
                    go_simp
                    refine hK.out _ _ trivial (fun hHeld => ?_)
                    clear hK K
                    (try simp only [Act.put, List.setIfInBounds_toArray, List.set_cons_zero, List.set_cons_succ])
                    refine wpAnyH_ready (rs := [21]) (by kernel_rfl) (by simp) ?_
                    refine AllReadyH.cons rfl (fun K hK => ?_) AllReadyH.nil
                    go_simp
                    have hbX := hbd.trans ((below_lnew Wd (.cells #[.int .i64 y] 3)).mono hbd.size)
                    have hcX := heap_alloc_new Wd (.cells #[.int .i64 y] 3)
                    obtain ⟨X, hX⟩ : ∃ X, Wd.alloc (.cells #[.int .i64 y] 3) = X := ⟨_, rfl⟩
                    rw [hX] at hbX hcX ⊢
                    clear hX
                    have q2X := (hbX.cell (p := ⟨g7, j * 3 + 2, none⟩) hg7z).trans q2'
                    refine hK.out _ _ trivial (fun hHeld => ?_)
                    clear hK K
                    (try simp only [Act.put, List.setIfInBounds_toArray, List.set_cons_zero, List.set_cons_succ])
                    refine wpAnyH_ready (rs := [22]) (by kernel_rfl) (by simp) ?_
                    refine AllReadyH.cons rfl (fun K hK => ?_) AllReadyH.nil
                    rw [if_pos (by kernel_rfl)]
                    have HCPX := Lib.hid (HCP.out.below hbX)
                    have HOX := Lib.hid (HOQ.out.below hbX)
                    refine El.op_app1 eI X 58 _ _ Tryz.underlying58 int_info rfl (by decide) (by decide) (.tmp 124) (.tmp 139) rfl w4.heap.size _ l2[j].d.sc rfl HOX.out Wd.heap.size 1 (y) rfl 3 hcX hscn (Nat.le_trans HBW.out hbX.size) ?_
                    intro v9 Z ho9 hg9
                    obtain ⟨A9, n9, c9, rfl, hn9, _, _, _⟩ := ho9.formN
                    have hn9' : n9 = l2[j].d.sc.length + 1 := by rw [← hn9.out]; simp
                    have hg9' : World.grownBy X Z (qS l2[j]).ownBlock := by rw [HQV.out]; exact hg9
                    have hTZ : ButT 3 X Z := ButT.grown hg9 (fun q e => HOX.out.has q e)
                    have z := own_frz (HCPX.out.q.but hTZ (by decide)) (g := g7) rfl (j * 3 + 2)
                    have hxc := own_cell (HCPX.out.q.but hTZ (by decide)) (g := g7) rfl hj (f := 2) rfl
                    simp only [eQ] at hxc
                    have hbZ := (HB46.out.trans (hbX.mono HBW.out)).grown hg9 (Nat.le_trans HBW.out hbX.size) (fun q e => (HOX.out.lt q e).1)
                    have HBD : Hid (Bad9 (Z.setCell ⟨g7, j * 3 + 2, none⟩ (.slice A9 n9 c9)) _ _ _ _ _ _) := Lib.hid (by have := HCPX.out.scope HTB.out hj (by rw [← hn9']; exact ho9) hg9' hscn HBAD.out; rw [← hn9'] at this; exact this)
                    have KW := Lib.hid (TbW.setH hKL.out hbZ (p := ⟨g7, j * 3 + 2, none⟩) hg7 (.slice A9 n9 c9))
                    clear hn9 hn9' hg9'
                    refine hK.out _ _ trivial (fun hHeld => ?_)
                    clear hK K
                    (try simp only [Act.put, List.setIfInBounds_toArray])
                    refine heldTake (i := 23) (d := some 141) (v := ?_) rfl rfl (by kernel_rfl) (by kernel_rfl) (by kernel_rfl) (fun _ _ _ h => h) (by kernel_rfl) ?hyq_82 (by assumption) ?restq_82
                    case hyq_82 => (intro W9 hSw; (try dsimp only at hSw); go_simp; try (with_reducible rfl))
                    (try simp only [Act.put])
                    refine heldTake (i := 24) (d := some 142) (v := ?_) rfl rfl (by kernel_rfl) (by kernel_rfl) (by kernel_rfl) (fun _ _ _ h => h) (by kernel_rfl) ?hyq_83 (by assumption) ?restq_83
                    case hyq_83 => (intro W9 hSw; (try dsimp only at hSw); go_simp; try (with_reducible rfl))
                    (try simp only [Act.put])
                    refine wpAnyH_ready (rs := [25]) (by kernel_rfl) (by simp) ?_
                    refine AllReadyH.cons rfl (fun K hK => ?_) AllReadyH.nil
                    go_simp
                    refine hK.out _ _ trivial (fun hHeld => ?_)
                    clear hK K
                    (try simp only [Act.put, List.setIfInBounds_toArray, List.set_cons_zero, List.set_cons_succ])
                    refine wpAnyH_done (by kernel_rfl) ?_ _
                    go_wp2_with fail
                    refine HBD.out.put.mono ?_
                    rintro e wP ⟨AP, cP, rfl, hbP⟩
                    have KP := Lib.hid (TbW.next KW.out hbP)
                    have HBP := Lib.hid (HBD.out.next hbP)
                    clear hbP HBD KW
                    go_wp2_with fail
                    refine HBP.out.right.mono ?_
                    rintro e wQ ⟨rfl, hbQ⟩
                    have KQ := Lib.hid (TbW.next KP.out hbQ)
                    clear hbQ HBP KP
                    go_wp2_with fail
                    go_roundw
                    case rel => exact ⟨2 + 1, by omega, by go_num, KQ⟩
                    case measure => simp [intOf]
                  · go_simp
                    refine hK.out _ _ trivial (fun hHeld => ?_)
                    clear hK K
                    (try simp only [Act.put, List.setIfInBounds_toArray, List.set_cons_zero, List.set_cons_succ])
                    refine heldTake (i := 19) (d := some 137) (v := ?_) rfl rfl (by kernel_rfl) (by kernel_rfl) (by kernel_rfl) (fun _ _ _ h => h) (by kernel_rfl) ?hyq_84 (by assumption) ?restq_84
                    case hyq_84 => (intro W9 hSw; (try dsimp only at hSw); go_simp; try (with_reducible rfl))
                    (try simp only [Act.put, List.setIfInBounds_toArray, List.set_cons_zero, List.set_cons_succ])
                    refine wpAnyH_ready (rs := [6, 20]) (by kernel_rfl) (by simp) ?_
                    refine AllReadyH.cons rfl (fun K hK => ?_) (AllReadyH.cons rfl (fun K hK => ?_) AllReadyH.nil)
                    · go_simp
                      refine hK.out _ _ trivial (fun hHeld => ?_)
                      clear hK K
                      (try simp only [Act.put, List.setIfInBounds_toArray, List.set_cons_zero, List.set_cons_succ])
                      refine wpAnyH_ready (rs := [20]) (by kernel_rfl) (by simp) ?_
                      refine AllReadyH.cons rfl (fun K hK => ?_) AllReadyH.nil
                      go_simp
                      refine hK.out _ _ trivial (fun hHeld => ?_)
                      clear hK K
                      (try simp only [Act.put, List.setIfInBounds_toArray, List.set_cons_zero, List.set_cons_succ])
                      refine wpAnyH_ready (rs := [21]) (by kernel_rfl) (by simp) ?_
                      refine AllReadyH.cons rfl (fun K hK => ?_) AllReadyH.nil
                      go_simp
                      have hbX := hbd.trans ((below_lnew Wd (.cells #[.int .i64 y] 3)).mono hbd.size)
                      have hcX := heap_alloc_new Wd (.cells #[.int .i64 y] 3)
                      obtain ⟨X, hX⟩ : ∃ X, Wd.alloc (.cells #[.int .i64 y] 3) = X := ⟨_, rfl⟩
                      rw [hX] at hbX hcX ⊢
                      clear hX
                      have q2X := (hbX.cell (p := ⟨g7, j * 3 + 2, none⟩) hg7z).trans q2'
                      refine hK.out _ _ trivial (fun hHeld => ?_)
                      clear hK K
                      (try simp only [Act.put, List.setIfInBounds_toArray, List.set_cons_zero, List.set_cons_succ])
                      refine wpAnyH_ready (rs := [22]) (by kernel_rfl) (by simp) ?_
                      refine AllReadyH.cons rfl (fun K hK => ?_) AllReadyH.nil
                      rw [if_pos (by kernel_rfl)]
                      have HCPX := Lib.hid (HCP.out.below hbX)
                      have HOX := Lib.hid (HOQ.out.below hbX)
                      refine El.op_app1 eI X 58 _ _ Tryz.underlying58 int_info rfl (by decide) (by decide) (.tmp 124) (.tmp 139) rfl w4.heap.size _ l2[j].d.sc rfl HOX.out Wd.heap.size 1 (y) rfl 3 hcX hscn (Nat.le_trans HBW.out hbX.size) ?_
                      intro v9 Z ho9 hg9
                      obtain ⟨A9, n9, c9, rfl, hn9, _, _, _⟩ := ho9.formN
                      have hn9' : n9 = l2[j].d.sc.length + 1 := by rw [← hn9.out]; simp
                      have hg9' : World.grownBy X Z (qS l2[j]).ownBlock := by rw [HQV.out]; exact hg9
                      have hTZ : ButT 3 X Z := ButT.grown hg9 (fun q e => HOX.out.has q e)
                      have z := own_frz (HCPX.out.q.but hTZ (by decide)) (g := g7) rfl (j * 3 + 2)
                      have hxc := own_cell (HCPX.out.q.but hTZ (by decide)) (g := g7) rfl hj (f := 2) rfl
                      simp only [eQ] at hxc
                      have hbZ := (HB46.out.trans (hbX.mono HBW.out)).grown hg9 (Nat.le_trans HBW.out hbX.size) (fun q e => (HOX.out.lt q e).1)
                      have HBD : Hid (Bad9 (Z.setCell ⟨g7, j * 3 + 2, none⟩ (.slice A9 n9 c9)) _ _ _ _ _ _) := Lib.hid (by have := HCPX.out.scope HTB.out hj (by rw [← hn9']; exact ho9) hg9' hscn HBAD.out; rw [← hn9'] at this; exact this)
                      have KW := Lib.hid (TbW.setH hKL.out hbZ (p := ⟨g7, j * 3 + 2, none⟩) hg7 (.slice A9 n9 c9))
                      clear hn9 hn9' hg9'
                      refine hK.out _ _ trivial (fun hHeld => ?_)
                      clear hK K
                      (try simp only [Act.put, List.setIfInBounds_toArray])
                      refine heldTake (i := 23) (d := some 141) (v := ?_) rfl rfl (by kernel_rfl) (by kernel_rfl) (by kernel_rfl) (fun _ _ _ h => h) (by kernel_rfl) ?hyq_85 (by assumption) ?restq_85
                      case hyq_85 => (intro W9 hSw; (try dsimp only at hSw); go_simp; try (with_reducible rfl))
                      (try simp only [Act.put])
                      refine heldTake (i := 24) (d := some 142) (v := ?_) rfl rfl (by kernel_rfl) (by kernel_rfl) (by kernel_rfl) (fun _ _ _ h => h) (by kernel_rfl) ?hyq_86 (by assumption) ?restq_86
                      case hyq_86 => (intro W9 hSw; (try dsimp only at hSw); go_simp; try (with_reducible rfl))
                      (try simp only [Act.put])
                      refine wpAnyH_ready (rs := [25]) (by kernel_rfl) (by simp) ?_
                      refine AllReadyH.cons rfl (fun K hK => ?_) AllReadyH.nil
                      go_simp
                      refine hK.out _ _ trivial (fun hHeld => ?_)
                      clear hK K
                      (try simp only [Act.put, List.setIfInBounds_toArray, List.set_cons_zero, List.set_cons_succ])
                      refine wpAnyH_done (by kernel_rfl) ?_ _
                      go_wp2_with fail
                      refine HBD.out.put.mono ?_
                      rintro e wP ⟨AP, cP, rfl, hbP⟩
                      have KP := Lib.hid (TbW.next KW.out hbP)
                      have HBP := Lib.hid (HBD.out.next hbP)
                      clear hbP HBD KW
                      go_wp2_with fail
                      refine HBP.out.right.mono ?_
                      rintro e wQ ⟨rfl, hbQ⟩
                      have KQ := Lib.hid (TbW.next KP.out hbQ)
                      clear hbQ HBP KP
                      go_wp2_with fail
                      go_roundw
                      case rel => exact ⟨2 + 1, by omega, by go_num, KQ⟩
                      case measure => simp [intOf]
                    · go_simp
                      refine hK.out _ _ trivial (fun hHeld => ?_)
                      clear hK K
                      (try simp only [Act.put, List.setIfInBounds_toArray, List.set_cons_zero, List.set_cons_succ])
                      refine wpAnyH_ready (rs := [6, 21]) (by kernel_rfl) (by simp) ?_
                      refine AllReadyH.cons rfl (fun K hK => ?_) (AllReadyH.cons rfl (fun K hK => ?_) AllReadyH.nil)
                      · go_simp
                        refine hK.out _ _ trivial (fun hHeld => ?_)
                        clear hK K
                        (try simp only [Act.put, List.setIfInBounds_toArray, List.set_cons_zero, List.set_cons_succ])
                        refine wpAnyH_ready (rs := [21]) (by kernel_rfl) (by simp) ?_
                        refine AllReadyH.cons rfl (fun K hK => ?_) AllReadyH.nil
                        go_simp
                        have hbX := hbd.trans ((below_lnew Wd (.cells #[.int .i64 y] 3)).mono hbd.size)
                        have hcX := heap_alloc_new Wd (.cells #[.int .i64 y] 3)
                        obtain ⟨X, hX⟩ : ∃ X, Wd.alloc (.cells #[.int .i64 y] 3) = X := ⟨_, rfl⟩
                        rw [hX] at hbX hcX ⊢
                        clear hX
                        have q2X := (hbX.cell (p := ⟨g7, j * 3 + 2, none⟩) hg7z).trans q2'
                        refine hK.out _ _ trivial (fun hHeld => ?_)
                        clear hK K
                        (try simp only [Act.put, List.setIfInBounds_toArray, List.set_cons_zero, List.set_cons_succ])
                        refine wpAnyH_ready (rs := [22]) (by kernel_rfl) (by simp) ?_
                        refine AllReadyH.cons rfl (fun K hK => ?_) AllReadyH.nil
                        rw [if_pos (by kernel_rfl)]
                        have HCPX := Lib.hid (HCP.out.below hbX)
                        have HOX := Lib.hid (HOQ.out.below hbX)
                        refine El.op_app1 eI X 58 _ _ Tryz.underlying58 int_info rfl (by decide) (by decide) (.tmp 124) (.tmp 139) rfl w4.heap.size _ l2[j].d.sc rfl HOX.out Wd.heap.size 1 (y) rfl 3 hcX hscn (Nat.le_trans HBW.out hbX.size) ?_
                        intro v9 Z ho9 hg9
                        obtain ⟨A9, n9, c9, rfl, hn9, _, _, _⟩ := ho9.formN
                        have hn9' : n9 = l2[j].d.sc.length + 1 := by rw [← hn9.out]; simp
                        have hg9' : World.grownBy X Z (qS l2[j]).ownBlock := by rw [HQV.out]; exact hg9
                        have hTZ : ButT 3 X Z := ButT.grown hg9 (fun q e => HOX.out.has q e)
                        have z := own_frz (HCPX.out.q.but hTZ (by decide)) (g := g7) rfl (j * 3 + 2)
                        have hxc := own_cell (HCPX.out.q.but hTZ (by decide)) (g := g7) rfl hj (f := 2) rfl
                        simp only [eQ] at hxc
                        have hbZ := (HB46.out.trans (hbX.mono HBW.out)).grown hg9 (Nat.le_trans HBW.out hbX.size) (fun q e => (HOX.out.lt q e).1)
                        have HBD : Hid (Bad9 (Z.setCell ⟨g7, j * 3 + 2, none⟩ (.slice A9 n9 c9)) _ _ _ _ _ _) := Lib.hid (by have := HCPX.out.scope HTB.out hj (by rw [← hn9']; exact ho9) hg9' hscn HBAD.out; rw [← hn9'] at this; exact this)
                        have KW := Lib.hid (TbW.setH hKL.out hbZ (p := ⟨g7, j * 3 + 2, none⟩) hg7 (.slice A9 n9 c9))
                        clear hn9 hn9' hg9'
                        refine hK.out _ _ trivial (fun hHeld => ?_)
                        clear hK K
                        (try simp only [Act.put, List.setIfInBounds_toArray])
                        refine heldTake (i := 23) (d := some 141) (v := ?_) rfl rfl (by kernel_rfl) (by kernel_rfl) (by kernel_rfl) (fun _ _ _ h => h) (by kernel_rfl) ?hyq_87 (by assumption) ?restq_87
                        case hyq_87 => (intro W9 hSw; (try dsimp only at hSw); go_simp; try (with_reducible rfl))
                        (try simp only [Act.put])
                        refine heldTake (i := 24) (d := some 142) (v := ?_) rfl rfl (by kernel_rfl) (by kernel_rfl) (by kernel_rfl) (fun _ _ _ h => h) (by kernel_rfl) ?hyq_88 (by assumption) ?restq_88
                        case hyq_88 => (intro W9 hSw; (try dsimp only at hSw); go_simp; try (with_reducible rfl))
                        (try simp only [Act.put])
                        refine wpAnyH_ready (rs := [25]) (by kernel_rfl) (by simp) ?_
                        refine AllReadyH.cons rfl (fun K hK => ?_) AllReadyH.nil
                        go_simp
                        refine hK.out _ _ trivial (fun hHeld => ?_)
                        clear hK K
                        (try simp only [Act.put, List.setIfInBounds_toArray, List.set_cons_zero, List.set_cons_succ])
                        refine wpAnyH_done (by kernel_rfl) ?_ _
                        go_wp2_with fail
                        refine HBD.out.put.mono ?_
                        rintro e wP ⟨AP, cP, rfl, hbP⟩
                        have KP := Lib.hid (TbW.next KW.out hbP)
                        have HBP := Lib.hid (HBD.out.next hbP)
                        clear hbP HBD KW
                        go_wp2_with fail
                        refine HBP.out.right.mono ?_
                        rintro e wQ ⟨rfl, hbQ⟩
                        have KQ := Lib.hid (TbW.next KP.out hbQ)
                        clear hbQ HBP KP
                        go_wp2_with fail
                        go_roundw
                        case rel => exact ⟨2 + 1, by omega, by go_num, KQ⟩
                        case measure => simp [intOf]
                      · go_simp
                        have hbX := hbd.trans ((below_lnew Wd (.cells #[.int .i64 y] 3)).mono hbd.size)
                        have hcX := heap_alloc_new Wd (.cells #[.int .i64 y] 3)
                        obtain ⟨X, hX⟩ : ∃ X, Wd.alloc (.cells #[.int .i64 y] 3) = X := ⟨_, rfl⟩
                        rw [hX] at hbX hcX ⊢
                        clear hX
                        have q2X := (hbX.cell (p := ⟨g7, j * 3 + 2, none⟩) hg7z).trans q2'
                        refine hK.out _ _ trivial (fun hHeld => ?_)
                        clear hK K
                        (try simp only [Act.put, List.setIfInBounds_toArray, List.set_cons_zero, List.set_cons_succ])
                        refine wpAnyH_ready (rs := [6]) (by kernel_rfl) (by simp) ?_
                        refine AllReadyH.cons rfl (fun K hK => ?_) AllReadyH.nil
                        go_simp
                        refine hK.out _ _ trivial (fun hHeld => ?_)
                        clear hK K
                        (try simp only [Act.put, List.setIfInBounds_toArray, List.set_cons_zero, List.set_cons_succ])
                        refine wpAnyH_ready (rs := [22]) (by kernel_rfl) (by simp) ?_
                        refine AllReadyH.cons rfl (fun K hK => ?_) AllReadyH.nil
                        rw [if_pos (by kernel_rfl)]
                        have HCPX := Lib.hid (HCP.out.below hbX)
                        have HOX := Lib.hid (HOQ.out.below hbX)
                        refine El.op_app1 eI X 58 _ _ Tryz.underlying58 int_info rfl (by decide) (by decide) (.tmp 124) (.tmp 139) rfl w4.heap.size _ l2[j].d.sc rfl HOX.out Wd.heap.size 1 (y) rfl 3 hcX hscn (Nat.le_trans HBW.out hbX.size) ?_
                        intro v9 Z ho9 hg9
                        obtain ⟨A9, n9, c9, rfl, hn9, _, _, _⟩ := ho9.formN
                        have hn9' : n9 = l2[j].d.sc.length + 1 := by rw [← hn9.out]; simp
                        have hg9' : World.grownBy X Z (qS l2[j]).ownBlock := by rw [HQV.out]; exact hg9
                        have hTZ : ButT 3 X Z := ButT.grown hg9 (fun q e => HOX.out.has q e)
                        have z := own_frz (HCPX.out.q.but hTZ (by decide)) (g := g7) rfl (j * 3 + 2)
                        have hxc := own_cell (HCPX.out.q.but hTZ (by decide)) (g := g7) rfl hj (f := 2) rfl
                        simp only [eQ] at hxc
                        have hbZ := (HB46.out.trans (hbX.mono HBW.out)).grown hg9 (Nat.le_trans HBW.out hbX.size) (fun q e => (HOX.out.lt q e).1)
                        have HBD : Hid (Bad9 (Z.setCell ⟨g7, j * 3 + 2, none⟩ (.slice A9 n9 c9)) _ _ _ _ _ _) := Lib.hid (by have := HCPX.out.scope HTB.out hj (by rw [← hn9']; exact ho9) hg9' hscn HBAD.out; rw [← hn9'] at this; exact this)
                        have KW := Lib.hid (TbW.setH hKL.out hbZ (p := ⟨g7, j * 3 + 2, none⟩) hg7 (.slice A9 n9 c9))
                        clear hn9 hn9' hg9'
                        refine hK.out _ _ trivial (fun hHeld => ?_)
                        clear hK K
                        (try simp only [Act.put, List.setIfInBounds_toArray])
                        refine heldTake (i := 23) (d := some 141) (v := ?_) rfl rfl (by kernel_rfl) (by kernel_rfl) (by kernel_rfl) (fun _ _ _ h => h) (by kernel_rfl) ?hyq_89 (by assumption) ?restq_89
                        case hyq_89 => (intro W9 hSw; (try dsimp only at hSw); go_simp; try (with_reducible rfl))
                        (try simp only [Act.put])
                        refine heldTake (i := 24) (d := some 142) (v := ?_) rfl rfl (by kernel_rfl) (by kernel_rfl) (by kernel_rfl) (fun _ _ _ h => h) (by kernel_rfl) ?hyq_90 (by assumption) ?restq_90
                        case hyq_90 => (intro W9 hSw; (try dsimp only at hSw); go_simp; try (with_reducible rfl))
                        (try simp only [Act.put])
                        refine wpAnyH_ready (rs := [25]) (by kernel_rfl) (by simp) ?_
                        refine AllReadyH.cons rfl (fun K hK => ?_) AllReadyH.nil
                        go_simp
                        refine hK.out _ _ trivial (fun hHeld => ?_)
                        clear hK K
                        (try simp only [Act.put, List.setIfInBounds_toArray, List.set_cons_zero, List.set_cons_succ])
                        refine wpAnyH_done (by kernel_rfl) ?_ _
                        go_wp2_with fail
                        refine HBD.out.put.mono ?_
                        rintro e wP ⟨AP, cP, rfl, hbP⟩
                        have KP := Lib.hid (TbW.next KW.out hbP)
                        have HBP := Lib.hid (HBD.out.next hbP)
                        clear hbP HBD KW
                        go_wp2_with fail
                        refine HBP.out.right.mono ?_
                        rintro e wQ ⟨rfl, hbQ⟩
                        have KQ := Lib.hid (TbW.next KP.out hbQ)
                        clear hbQ HBP KP
                        go_wp2_with fail
                        go_roundw
                        case rel => exact ⟨2 + 1, by omega, by go_num, KQ⟩
                        case measure => simp [intOf]
          · as_aux_lemma =>
              subst hn'
              have z := HFZ7.out (j * 3)
              have HBD : Hid (Bad9 (w6.setCell ⟨g7, j * 3, none⟩ (.int .i64 ls.length)) _ _ _ _ _ _) := Lib.hid (HCP.out.cellQ rfl HTB.out hj (.int .i64 ls.length) ⟨⟨ls.length, l2[j].d.ln, l2[j].d.sc⟩, l2[j].A, l2[j].c⟩ (f := 0) (by omega) rfl ⟨rfl, rfl⟩ (okQ_no (.inr (.inl (by rw [List.length_map]; exact Int.le_refl _)))))
              have KW := Lib.hid (TbW.setH hKL.out HB46.out (p := ⟨g7, j * 3, none⟩) hg7 (.int .i64 ls.length))
              go_wp2_with fail
              refine HBD.out.put.mono ?_
              rintro e wP ⟨AP, cP, rfl, hbP⟩
              have KP := Lib.hid (TbW.next KW.out hbP)
              have HBP := Lib.hid (HBD.out.next hbP)
              clear hbP HBD KW
              go_wp2_with fail
              refine HBP.out.right.mono ?_
              rintro e wQ ⟨rfl, hbQ⟩
              have KQ := Lib.hid (TbW.next KP.out hbQ)
              clear hbQ HBP KP
              go_wp2_with fail
              go_roundw
              case rel => exact ⟨3 + 1, by omega, by go_num, KQ⟩
              case measure => simp [intOf]
          · as_aux_lemma =>
              subst hn'
              have z := HFZ6.out (i * 5)
              have hnl := name_len (right_place HR2.out (List.mem_map_of_mem (List.getElem_mem hi))).2.2.2.1
              have hnl : ls[i].nm.length ≤ 24 := hnl.2
              have hadd : (Op.stringOp .add (str ls[i].nm) ⟨#[45]⟩).run Tryz.prog w6 = .ok (.string (str (ls[i].nm ++ [45]))) w6 := by rw [run_string_add_sum _ _ _ (by rw [str_sz]; simp [ByteArray.size]; omega), str_dash]
              have HBD : Hid (Bad9 (w6.setCell ⟨g6, i * 5, none⟩ (.string (str (ls[i].nm ++ [45])))) _ _ _ _ _ _) := Lib.hid (HCP.out.cellP rfl HTB.out hi (.string (str (ls[i].nm ++ [45]))) ⟨ls[i].nm ++ [45], ls[i].fr, ls[i].tt, ls[i].vs, ls[i].vA, ls[i].vc, ls[i].ss, ls[i].sA, ls[i].sc⟩ (f := 0) (by omega) rfl ⟨⟨rfl, rfl⟩, rfl, rfl⟩ (fun a => okL_nm (name_dash _)))
              have KW := Lib.hid (TbW.setH hKL.out HB46.out (p := ⟨g6, i * 5, none⟩) hg6 (.string (str (ls[i].nm ++ [45]))))
              go_wp2_with fail
              refine HBD.out.put.mono ?_
              rintro e wP ⟨AP, cP, rfl, hbP⟩
              have KP := Lib.hid (TbW.next KW.out hbP)
              have HBP := Lib.hid (HBD.out.next hbP)
              clear hbP HBD KW
              go_wp2_with fail
              refine HBP.out.right.mono ?_
              rintro e wQ ⟨rfl, hbQ⟩
              have KQ := Lib.hid (TbW.next KP.out hbQ)
              clear hbQ HBP KP
              go_wp2_with fail
              go_roundw
              case rel => exact ⟨4 + 1, by omega, by go_num, KQ⟩
              case measure => simp [intOf]
          · as_aux_lemma =>
              subst hn'
              have HPW := Lib.hid (HCP.out.p _ (List.getElem_mem hi))
              by_cases hv0 : ls[i].vs = []
              · have hv1 : ls[i].vs.length = 0 := by rw [hv0]; rfl
                go_wp2_with fail
                go_roundw
                case rel => exact ⟨5 + 1, by omega, by go_num, K6⟩
                case measure => simp [intOf]
              · obtain ⟨x, vs, hv⟩ := List.exists_cons_of_ne_nil hv0
                have hvp : 0 < ls[i].vs.length := by rw [hv]; simp
                obtain ⟨gv, cv, hev, _, hgv, hcv, hzv, _⟩ := HPW.out.v.some_ hvp
                have hwd := words_16 ((right_place HR2.out (List.mem_map_of_mem (List.getElem_mem hi))).2.2.2.2.2.2 x.d (by simp only [Pp.d, hv, List.map_cons]; exact List.mem_cons_self))
                have c4 : w6.cell? ⟨gv, 4, none⟩ = some (.int .i64 x.d.wd) := own_cell HPW.out.v (by rw [hev]; rfl) hvp (f := 4) (by simp only [hv]; rfl)
                have z := hzv 4
                have p3' : w6.cell? ⟨g6, i * 5 + 3, none⟩ = some (.slice (some ⟨gv, 0, none⟩) ls[i].vs.length cv) := by rw [p3]; exact congrArg some hev
                have HBD := Lib.hid (HCP.out.words HTB.out HR2.out hi hv (gv := gv) (by rw [hev]; rfl))
                have KW := Lib.hid (TbW.setH hKL.out HB46.out (p := ⟨gv, 4, none⟩) hgv (.int .i64 (x.d.wd + 1)))
                obtain ⟨nv, hnv⟩ : ∃ n, ls[i].vs.length = n := ⟨_, rfl⟩
                rw [hnv] at p3' hvp
                have hvi : (0 : Int) < nv := by omega
                have hve : ((nv : Int) == 0) = false := beq_eq_false_iff_ne.2 (by omega)
                clear p3 hcv hzv hv hev hnv hv0
                go_wp2_with fail
                refine HBD.out.put.mono ?_
                rintro e wP ⟨AP, cP, rfl, hbP⟩
                have KP := Lib.hid (TbW.next KW.out hbP)
                have HBP := Lib.hid (HBD.out.next hbP)
                clear hbP HBD KW
                go_wp2_with fail
                refine HBP.out.right.mono ?_
                rintro e wQ ⟨rfl, hbQ⟩
                have KQ := Lib.hid (TbW.next KP.out hbQ)
                clear hbQ HBP KP
                go_wp2_with fail
                go_roundw
                case rel => exact ⟨5 + 1, by omega, by go_num, KQ⟩
                case measure => simp [intOf]
          · as_aux_lemma =>
              subst hn'
              have HPW := Lib.hid (HCP.out.p _ (List.getElem_mem hi))
              have hbn := below_lnew w6 (.cells #[.slice none 0 0] 57)
              have hcn := heap_alloc_new w6 (.cells #[.slice none 0 0] 57)
              have HCPn := Lib.hid (HCP.out.below hbn)
              have HPn := Lib.hid (HPW.out.below hbn)
              have HCN := Lib.hid hcn
              have HBN := Lib.hid (HB46.out.trans (hbn.mono HBW.out))
              have hbz : w4.heap.size ≤ (w6.alloc (.cells #[.slice none 0 0] 57)).heap.size := by have := HBW.out; simp; omega
              have hsl : ls[i].ss.length ≤ 1000000 := by have h := right_place HR2.out (List.mem_map_of_mem (List.getElem_mem hi)); have h1 := h.2.2.2.2.1; have h2 := h.2.2.2.2.2.1; simp only [Pp.d, List.length_map] at h1 h2; omega
              clear hbn hcn
              go_wp2_with (at_builtin
                           refine El.app1 eR _ rfl 49 _ _ Tryz.underlying49 spsT_info rfl (by decide) (by decide) (.tmp 186) (.tmp 187) rfl w4.heap.size _ ls[i].ss rfl HPn.out.s w6.heap.size 1 ⟨[], none, 0⟩ rfl 57 HCN.out hsl hbz ?_
                           intro v9 Z ho9 hg9
                           have hg9 : World.grownBy _ Z (psS ls[i]).ownBlock := hg9
                           obtain ⟨A9, n9, c9, rfl, hn9, _, _, _⟩ := ho9.formN
                           have hn9' : n9 = ls[i].ss.length + 1 := by rw [← hn9.out]; simp
                           have z := own_frz (HCPn.out.l.but (ButT.grown hg9 (fun k e => HPn.out.s.has k e)) (by decide)) (g := g6) rfl (i * 5 + 4)
                           have hxc := own_cell (HCPn.out.l.but (ButT.grown hg9 (fun k e => HPn.out.s.has k e)) (by decide)) (g := g6) rfl hi (f := 4) rfl
                           have HBD : Hid (Bad9 (Z.setCell ⟨g6, i * 5 + 4, none⟩ (.slice A9 n9 c9)) _ _ _ _ _ _) := Lib.hid (by have := HCPn.out.more HTB.out HR2.out hi (by rw [← hn9']; exact ho9) hg9; rw [← hn9'] at this; exact this)
                           have hbZ := HBN.out.grown hg9 hbz (fun k e => (HPn.out.s.lt k e).1)
                           have KW := Lib.hid (TbW.setH hKL.out hbZ (p := ⟨g6, i * 5 + 4, none⟩) hg6 (.slice A9 n9 c9))
                           simp only [eL] at hxc
                           clear hn9 hn9' ho9 hg9 hbZ)
              refine HBD.out.put.mono ?_
              rintro e wP ⟨AP, cP, rfl, hbP⟩
              have KP := Lib.hid (TbW.next KW.out hbP)
              have HBP := Lib.hid (HBD.out.next hbP)
              clear hbP HBD KW
              go_wp2_with fail
              refine HBP.out.right.mono ?_
              rintro e wQ ⟨rfl, hbQ⟩
              have KQ := Lib.hid (TbW.next KP.out hbQ)
              clear hbQ HBP KP
              go_wp2_with fail
              go_roundw
              case rel => exact ⟨6 + 1, by omega, by go_num, KQ⟩
              case measure => simp [intOf]
        · obtain rfl : n = 7 := by omega
          go_wp2_with fail
          refine (works9_any _).mono ?_
          rintro e w' ⟨rfl, hb⟩
          go_wp2_with fail
          go_ret
          exact ⟨rfl, (BkW.next hKL.out hb).b⟩
end Go.Proofs.YtjagjkogloggpaaGreat
