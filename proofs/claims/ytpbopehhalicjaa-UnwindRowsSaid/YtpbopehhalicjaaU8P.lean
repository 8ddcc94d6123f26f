/-
  Contract of unwind.Put.
-/
import Derived.Test.YtpbopehhalicjaaU8O
namespace Go.Proofs.Ytpbopehhalicjaa
open Go Go.RowKit

theorem wrapu8 {x : Int} (h0 : 0 ≤ x) (h1 : x < 256) : IntKind.u8.wrap x = x := by rw [IntKind.wrap_u8]; omega
theorem u8_nat {n : Nat} (h : n < 256) : (UInt8.ofNat n).toNat = n := UInt8.toNat_ofNat_of_lt' (by have : UInt8.size = 256 := rfl; omega)
theorem one_lies8 (w : World) (x : UInt8) (z : Int) (hz : z = (x.toNat : Int)) : Lies (w.alloc (.cells #[.int .u8 z] 5)) (w.alloc (.cells #[.int .u8 z] 5)).heap.size (some ⟨w.heap.size, 0, none⟩) [x] :=
  lies_lit w 5 _ _ (by subst hz; rfl)
theorem Lies.next8 {w w' : World} {A : Option Addr} {l : List UInt8} (h : Lies w w.heap.size A l) (hb : Below w.heap.size w w') : Lies w' w'.heap.size A l := (h.below hb).more hb.size
theorem concat_n (g : Nat) (A A2 : Option Addr) (c c2 n2 : Nat) (l l2 : List UInt8) (w : World) (hl : l2.length = n2) (hg : w.heap[g]? = some (.cells #[.slice A l.length c, .slice A2 n2 c2] 22 (0, 0)))
    (hc : A = none → c = 0) (hc2 : A2 = none → c2 = 0) (h : Lies w w.heap.size A l) (h2 : Lies w w.heap.size A2 l2) (hn : l.length ≤ 1099511627776) (hn2 : l2.length ≤ 1099511627776) :
    Calls Try.prog 18 #[.slice (some ⟨g, 0, none⟩) 2 2] w (Made w (l ++ l2)) := by subst hl; exact concat_any g A A2 c c2 l l2 w hg hc hc2 h h2 hn hn2

def ptE (xs : List Sp) : Int := if rightL xs = true then 0 else 1
def ptB (b : List UInt8) (xs : List Sp) : List UInt8 := if rightL xs = true then b ++ ownS xs else []
theorem pt_yes {b : List UInt8} {xs : List Sp} (h : rightL xs = true) : ptE xs = 0 ∧ ptB b xs = b ++ ownS xs := ⟨if_pos h, if_pos h⟩
theorem pt_no {b : List UInt8} {xs : List Sp} (h : rightL xs = false) : ptE xs = 1 ∧ ptB b xs = [] := ⟨if_neg (by rw [h]; decide), if_neg (by rw [h]; decide)⟩
def PutR8 (b : List UInt8) (xs : List Sp) (w : World) (e : Ending) (w' : World) : Prop :=
  ∃ v, e = .returned (.tuple #[v, .int .i64 (ptE xs)]) ∧ Own w' w.heap.size v (ptB b xs) ∧ Below w.heap.size w w'
/-- ahead of an entry -/
structure Ahead (xs : List Sp) (k : Nat) (last : Int) (bs : List UInt8) : Prop where
  prog : bs ++ encA last (xs.drop k) = ownS xs
  ok : okA last (xs.drop k) = true
  lo : 0 ≤ last
  hi : last ≤ 16777216
  len : bs.length ≤ 10 + 200 * k
theorem ahead_start {xs : List Sp} (h : rightL xs = true) : Ahead xs 0 0 (numsB [(xs.length : Int)]) := by
  unfold rightL at h
  rw [Bool.and_eq_true] at h
  refine ⟨by simp [ownS, numsB], h.2, by omega, by omega, ?_⟩
  have := numsB_len [(xs.length : Int)]
  simpa using this
theorem Ahead.step {xs : List Sp} {k : Nat} {last : Int} {bs : List UInt8} (h : Ahead xs k last bs) (hk : k < xs.length) :
    okF last xs[k] ∧ riseL 5 xs[k].a = true ∧ Ahead xs (k + 1) xs[k].t (bs ++ numsB [xs[k].f - last, xs[k].t - xs[k].f, xs[k].u, (xs[k].a.length : Int)] ++ xs[k].a.flatMap encW) := by
  have ho := h.ok
  rw [okA_at hk, Bool.and_eq_true] at ho
  obtain ⟨h1, h2⟩ := okE_of ho.1
  have hl := riseL_len h2 (by omega)
  refine ⟨h1, h2, ?_, ho.2, by have := h.lo; unfold okF at h1; omega, by unfold okF at h1; omega, ?_⟩
  · have hp := h.prog
    rw [List.drop_eq_getElem_cons hk, encA] at hp
    rw [← hp]
    simp [encE, numsB]
  · have h3 := h.len
    have h4 := numsB_len [xs[k].f - last, xs[k].t - xs[k].f, xs[k].u, (xs[k].a.length : Int)]
    have h5 : ∀ l : List Lc, (l.flatMap encW).length ≤ 11 * l.length := by
      intro l
      induction l with
      | nil => simp
      | cons x xs ih =>
        have := size_le false (-x.n)
        rw [List.flatMap_cons, List.length_append, List.length_cons]
        simp only [encW, List.length_cons, nB_len]
        omega
    have := h5 xs[k].a
    rw [List.length_append, List.length_append]
    simp only [List.length_cons, List.length_nil] at h4
    omega
theorem Ahead.last {xs : List Sp} {last : Int} {bs : List UInt8} (h : Ahead xs xs.length last bs) : bs = ownS xs := by
  have := h.prog
  rwa [List.drop_length, encA, List.append_nil] at this
theorem take_W {a : List Lc} {j : Nat} (hj : j < a.length) : (a.take (j + 1)).flatMap encW = (a.take j).flatMap encW ++ encW a[j] := by
  rw [← List.take_append_getElem hj, List.flatMap_append, List.flatMap_singleton]
theorem flatW_len (l : List Lc) : (l.flatMap encW).length ≤ 11 * l.length := by
  induction l with
  | nil => simp
  | cons x xs ih =>
    have := size_le false (-x.n)
    rw [List.flatMap_cons, List.length_append, List.length_cons]
    simp only [encW, List.length_cons, nB_len]
    omega

set_option maxRecDepth 100000 in
set_option maxHeartbeats 8000000 in
theorem put8_any (A A2 : Option Addr) (c c2 : Nat) (b : List UInt8) (ps : List Ps) (w : World) (hc : A = none → c = 0) (hsm : Sm ps) (hbn : b.length ≤ 1000000000) (hL : Lies w w.heap.size A b) (h : SLies w w.heap.size A2 ps) :
    Calls Try.prog 7 #[.slice A b.length c, .slice A2 ps.length c2] w (PutR8 b (ps.map Ps.sp) w) := by
  have HRT := Lib.hid (right8_any A2 c2 ps w hsm h)
  unfold BoolR at HRT
  have hn := hsm.1
  have HSM := Lib.hid hsm.2
  have HL := Lib.hid hL
  have HS := Lib.hid h
  clear hsm hL h
  cases hr : rightL (ps.map Ps.sp) with
  | false =>
    have HE := Lib.hid (pt_no (b := b) hr)
    rw [hr] at HRT
    clear hr
    go_enter Try.func7, Try.ntmps7
    go_wp2_with fail
    refine HRT.out.mono ?_
    rintro e w1 ⟨rfl, hb1⟩
    go_wp2_with fail
    go_ret2
    exact ⟨_, by rw [HE.out.1]; rfl, by rw [HE.out.2]; exact Own.nil _ _, hb1⟩
  | true =>
    have HE := Lib.hid (pt_yes (b := b) hr)
    have HST := Lib.hid (ahead_start hr)
    have hfew : ps.length ≤ 4000 := by
      unfold rightL at hr
      rw [Bool.and_eq_true, decide_eq_true_eq, List.length_map] at hr
      exact hr.1
    rw [hr] at HRT
    rw [List.length_map] at HST
    clear hr
    go_enter Try.func7, Try.ntmps7
    go_wp2_with fail
    refine HRT.out.mono ?_
    rintro e w1 ⟨rfl, hb1⟩
    have hz1 := hb1.size
    have hb2 := below_lnew w1 (.cells #[.int .i64 (ps.length : Int)] 3)
    have HB2 := Lib.hid (hb1.trans (hb2.mono hz1))
    have HP1 := Lib.hid (putv_any w.heap.size (.slice none 0 0) [] w1.heap.size 1 1 [(ps.length : Int)] (w1.alloc (.cells #[.int .i64 (ps.length : Int)] 3)) rfl (Own.nil _ _) (heap_alloc_new _ _) (by simp; omega) (by simp; omega) (by simp) (by simp))
    clear hb1 hb2 HRT
    go_wp2_with fail
    refine HP1.out.mono ?_
    rintro e w3 ⟨v3, rfl, ho3, hg3⟩
    rw [List.nil_append] at ho3
    have HB3 := Lib.hid (HB2.out.grown hg3 HB2.out.size (fun j e => by cases e))
    have HO3 := Lib.hid ho3
    clear ho3 hg3 HP1 HB2
    go_wp2_with fail
    go_loopw [6, 7, 21] (fun v la i wr => ∃ (k : Nat) (last : Int) (bs : List UInt8), k ≤ ps.length ∧ i = .int .i64 k ∧ la = .int .i64 last ∧ Hid (Own wr w.heap.size v bs) ∧ Hid (Ahead (ps.map Ps.sp) k last bs) ∧ Hid (Below w.heap.size w wr)) (fun _ _ i _ => ps.length - (intOf i).toNat)
    case atStart => exact ⟨0, 0, _, by omega, rfl, rfl, HO3, HST, HB3⟩
    case round =>
      obtain ⟨k, last, bs0, hk, rfl, rfl, hv, hA, hB⟩ := hrel
      have hwr := hB.out.size
      clear HB3 HO3 HST
      by_cases hlt : k < ps.length
      · have hstep := hA.out.step (by simpa using hlt)
        rw [List.getElem_map] at hstep
        have hlo := hA.out.lo
        have hhi := hA.out.hi
        have hbl := hA.out.len
        obtain ⟨g, o, rfl, hg, c1, c2', c3, c4⟩ := (HS.out.below hB.out).1.at_ hlt
        have hm1 := HS.out.2 _ (List.getElem_mem hlt)
        clear hA
        generalize ps[k] = p at *
        obtain ⟨pf, pt, pu, pa, pA, pc⟩ := p
        obtain ⟨⟨q1, q2, q3, q4, q5⟩, hrise, hA2⟩ := hstep
        have hal := riseL_len hrise (by omega)
        have HRI := Lib.hid (riseL_mem hrise)
        dsimp only [Ps.sp] at q1 q2 q3 q4 q5 hrise hA2 hal HRI c1 c2' c3 c4
        have HA2 := Lib.hid hA2
        have hb1 := below_lnew wr (.cells (pK ⟨pf, pt, pu, pa, pA, pc⟩) 29)
        have hb2 := below_lnew (wr.alloc (.cells (pK ⟨pf, pt, pu, pa, pA, pc⟩) 29)) (.cells #[.int .i64 (pf - last), .int .i64 (pt - pf), .int .i64 pu, .int .i64 (pa.length : Int)] 3)
        have HX2 := Lib.hid ((spAt_new wr ⟨pf, pt, pu, pa, pA, pc⟩).below hb2 (by simp))
        have HI2 := Lib.hid (show IntsAt _ (wr.heap.size + 1) [pf - last, pt - pf, pu, (pa.length : Int)] from by
          have := heap_alloc_new (wr.alloc (.cells (pK ⟨pf, pt, pu, pa, pA, pc⟩) 29)) (.cells #[.int .i64 (pf - last), .int .i64 (pt - pf), .int .i64 pu, .int .i64 (pa.length : Int)] 3)
          simp only [World.size_alloc] at this
          exact this)
        have HV2 := Lib.hid ((hv.out.below hb1).below hb2)
        have HB2 := Lib.hid ((hB.out.trans (hb1.mono hwr)).trans (hb2.mono (by simp; omega)))
        have HM := Lib.hid hm1
        have hW2 : w.heap.size ≤ ((wr.alloc (.cells (pK ⟨pf, pt, pu, pa, pA, pc⟩) 29)).alloc (.cells #[.int .i64 (pf - last), .int .i64 (pt - pf), .int .i64 pu, .int .i64 (pa.length : Int)] 3)).heap.size := by simp; omega
        have HP := Lib.hid (putv_any w.heap.size _ bs0 (wr.heap.size + 1) 4 4 [pf - last, pt - pf, pu, (pa.length : Int)] _ rfl HV2.out HI2.out hW2 (by simp; omega) (by omega) (by simp))
        unfold pK at HX2 HI2 HV2 HB2 HP hW2
        dsimp only at HX2 HI2 HV2 HB2 HP hW2
        clear hb1 hb2 hA2 hm1 hrise
        go_wp2_with fail
        refine HP.out.mono ?_
        rintro e w4 ⟨v4, rfl, ho4, hg4⟩
        have HX4 := Lib.hid (HX2.out.kept8 hg4 (fun e => HV2.out.no_sp HX2.out e.symm))
        have HB4 := Lib.hid (HB2.out.grown hg4 hW2 (fun j e => (HV2.out.lt j e).1))
        have HO4 := Lib.hid ho4
        have e3 := HX4.out.at_
        have hn4 := numsB_len [pf - last, pt - pf, pu, (pa.length : Int)]
        have hbl4 : (bs0 ++ numsB [pf - last, pt - pf, pu, (pa.length : Int)]).length ≤ 1000000 := by rw [List.length_append]; simp only [List.length_cons, List.length_nil] at hn4; omega
        dsimp only at e3
        clear ho4 hg4 HP HX2 HI2 HV2 HB2 hn4
        generalize bs0 ++ numsB [pf - last, pt - pf, pu, (pa.length : Int)] = bs1 at *
        generalize hgu : wr.heap.size = gu at *
        go_wp2_with fail
        clear e3
        go_loopw [6, 45] (fun v i wi => ∃ j : Nat, j ≤ pa.length ∧ i = .int .i64 j ∧ Hid (Own wi w.heap.size v (bs1 ++ (pa.take j).flatMap encW)) ∧ Hid (SpAt wi gu ⟨pf, pt, pu, pa, pA, pc⟩) ∧ Hid (Below w.heap.size w wi)) (fun _ i _ => pa.length - (intOf i).toNat)
        case atStart => exact ⟨0, by omega, rfl, by simpa [Hid] using HO4.out, HX4, HB4⟩
        case round =>
          obtain ⟨j, hj, rfl, hOW, hSP, hBE⟩ := hrel
          clear HO4 HX4 HB4
          by_cases hlj : j < pa.length
          · obtain ⟨g2, o2, rfl, hg2, d1, d2⟩ := (HM.out.2.2.below hBE.out).at_ hlj
            have hx := HRI.out _ (List.getElem_mem hlj)
            have HTW := Lib.hid (show bs1 ++ (pa.take (j + 1)).flatMap encW = bs1 ++ (pa.take j).flatMap encW ++ [UInt8.ofNat pa[j].k.toNat] ++ numsB [-pa[j].n] by rw [take_W hlj]; simp [encW, numsB])
            have hfl := flatW_len (pa.take j)
            rw [List.length_take] at hfl
            have hbl : (bs1 ++ (pa.take j).flatMap encW).length ≤ 1001000 := by rw [List.length_append]; omega
            clear hfl
            generalize pa[j] = x at *
            generalize bs1 ++ (pa.take j).flatMap encW = bs at *
            obtain ⟨xk, xn⟩ := x
            dsimp only at hx d1 d2 HTW
            have hb1 := below_lnew wr (.cells (cK ⟨xk, xn⟩) 31)
            have HSP0 := Lib.hid (hSP.out.below hb1 hSP.out.lt)
            have HLC0 := Lib.hid (locAt_new wr ⟨xk, xn⟩)
            have HBE0 := Lib.hid (hBE.out.trans (hb1.mono hBE.out.size))
            have HOW0 := Lib.hid (hOW.out.below hb1)
            unfold cK at HSP0 HLC0 HBE0 HOW0
            dsimp only at HSP0 HLC0 HBE0 HOW0
            clear hb1 hSP hBE hOW
            go_wp2_with fail
            obtain ⟨W0, hW0⟩ : ∃ W0, wr.alloc (.cells #[.int .i64 xk, .int .i64 xn] 31) = W0 := ⟨_, rfl⟩
            rw [hW0] at HSP0 HLC0 HBE0 HOW0 ⊢
            generalize hgs : wr.heap.size = gs at *
            clear hW0 d1 d2
            refine wp_region_held_drew (S := fun W9 => (W9.cell? ⟨gs, 0, none⟩ = some (.int .i64 xk) ∧ W9.cell? ⟨gs, 1, none⟩ = some (.int .i64 xn))) (by kernel_rfl) (⟨HLC0.out.kd, HLC0.out.nm⟩) (fun hHeld => ?_)
            refine heldTake (i := 0) (d := some 49) (v := ?_) rfl rfl (by kernel_rfl) (by kernel_rfl) (by kernel_rfl) (fun _ _ _ h => h) (by kernel_rfl) ?hyq_1 (by assumption) ?restq_1
            case hyq_1 => (intro W9 hSw; (try dsimp only at hSw); go_simp; try (with_reducible rfl))
            (try simp only [Act.put, List.setIfInBounds_toArray, List.set_cons_zero, List.set_cons_succ])
            refine heldTake (i := 1) (d := some 50) (v := ?_) rfl rfl (by kernel_rfl) (by kernel_rfl) (by kernel_rfl) (fun _ _ _ h => h) (by kernel_rfl) ?hyq_2 (by assumption) ?restq_2
            case hyq_2 => (intro W9 hSw; (try dsimp only at hSw); go_simp; try (with_reducible rfl))
            (try simp only [Act.put, List.setIfInBounds_toArray, List.set_cons_zero, List.set_cons_succ])
            refine heldTake (i := 2) (d := some 51) (v := ?_) rfl rfl (by kernel_rfl) (by kernel_rfl) (by kernel_rfl) (fun _ _ _ h => h) (by kernel_rfl) ?hyq_3 (by assumption) ?restq_3
            case hyq_3 => (intro W9 hSw; (try dsimp only at hSw); go_simp; try (with_reducible rfl))
            (try simp only [Act.put, List.setIfInBounds_toArray, List.set_cons_zero, List.set_cons_succ])
            refine heldTake (i := 3) (d := some 52) (v := ?_) rfl rfl (by kernel_rfl) (by kernel_rfl) (by kernel_rfl) (fun _ _ _ h => h) (by kernel_rfl) ?hyq_4 (by assumption) ?restq_4
            case hyq_4 => (intro W9 hSw; (try dsimp only at hSw); go_simp; try (with_reducible rfl))
            (try simp only [Act.put, List.setIfInBounds_toArray, List.set_cons_zero, List.set_cons_succ])
            refine heldTake (i := 6) (d := some 55) (v := ?_) rfl rfl (by kernel_rfl) (by kernel_rfl) (by kernel_rfl) (fun _ _ _ h => h) (by kernel_rfl) ?hyq_5 (by assumption) ?restq_5
            case hyq_5 => (intro W9 hSw; (try dsimp only at hSw); go_simp; try (with_reducible rfl))
            (try simp only [Act.put, List.setIfInBounds_toArray, List.set_cons_zero, List.set_cons_succ])
            refine heldTake (i := 7) (d := some 56) (v := ?_) rfl rfl (by kernel_rfl) (by kernel_rfl) (by kernel_rfl) (fun _ _ _ h => h) (by kernel_rfl) ?hyq_6 (by assumption) ?restq_6
            case hyq_6 => (intro W9 hSw; (try dsimp only at hSw); go_simp; try (with_reducible rfl))
            (try simp only [Act.put, List.setIfInBounds_toArray, List.set_cons_zero, List.set_cons_succ])
            refine heldTake (i := 8) (d := some 57) (v := ?_) rfl rfl (by kernel_rfl) (by kernel_rfl) (by kernel_rfl) (fun _ _ _ h => h) (by kernel_rfl) ?hyq_7 (by assumption) ?restq_7
            case hyq_7 => (intro W9 hSw; (try dsimp only at hSw); go_simp; try (with_reducible rfl))
            (try simp only [Act.put, List.setIfInBounds_toArray, List.set_cons_zero, List.set_cons_succ])
            refine wpAnyH_ready (rs := [4, 9]) (by kernel_rfl) (by simp) ?_
            refine AllReadyH.cons rfl (fun K hK => ?_) (AllReadyH.cons rfl (fun K hK => ?_) AllReadyH.nil)
            · have hbY := below_lnew W0 (.cells #[.int .u8 xk] 5)
              have HSP_2 := Lib.hid (HSP0.out.below hbY HSP0.out.lt)
              have HLC_3 := Lib.hid (HLC0.out.below hbY HLC0.out.lt)
              have HBE_4 := Lib.hid (HBE0.out.trans (hbY.mono HBE0.out.size))
              have HOW_5 := Lib.hid (HOW0.out.below hbY)
              have HBY_6 := Lib.hid (one_lies8 W0 (UInt8.ofNat xk.toNat) xk (by rw [u8_nat (by omega)]; omega))
              clear hbY
              go_simp
              (try simp only [wrapu8 (show (0 : Int) ≤ xk by omega) (show xk < 256 by omega), wrap8 (show (-9223372036854775808 : Int) ≤ -xn by omega) (show -xn < 9223372036854775808 by omega)])
              obtain ⟨Y_1, hY⟩ : ∃ Y, W0.alloc (.cells #[.int .u8 xk] 5) = Y := ⟨_, rfl⟩
              rw [hY] at HSP_2 HLC_3 HBE_4 HOW_5 HBY_6 ⊢
              have hS_Y_1 : (Y_1.cell? ⟨gs, 0, none⟩ = some (.int .i64 xk) ∧ Y_1.cell? ⟨gs, 1, none⟩ = some (.int .i64 xn)) := ⟨HLC_3.out.kd, HLC_3.out.nm⟩
              refine hK.out _ _ hS_Y_1 (fun hHeld => ?_)
              clear hY
              clear hK K
              (try simp only [Act.put, List.setIfInBounds_toArray, List.set_cons_zero, List.set_cons_succ])
              refine wpAnyH_ready (rs := [5, 9]) (by kernel_rfl) (by simp) ?_
              refine AllReadyH.cons rfl (fun K hK => ?_) (AllReadyH.cons rfl (fun K hK => ?_) AllReadyH.nil)
              · rw [if_pos (by kernel_rfl)]
                refine op_append Y_1.drew (.tmp 49) (.tmp 53) rfl w.heap.size _ bs rfl HOW_5.out (some ⟨W0.heap.size, 0, none⟩) 1 _ [UInt8.ofNat xk.toNat] rfl (by simp) HBY_6.out (by simp; omega) (by show w.heap.size ≤ Y_1.heap.size; have := HBE_4.out.size; omega) ?_
                intro v5 Z_7 hoZ hgZ hkZ
                replace hgZ := grown_of_drew hgZ
                have HSP_8 := Lib.hid (HSP_2.out.kept8 hgZ (fun e => HOW_5.out.no_sp HSP_2.out e.symm))
                have HLC_9 := Lib.hid (HLC_3.out.kept8 hgZ (HOW_5.out.no_lc HLC_3.out))
                have HBE_10 := Lib.hid (HBE_4.out.grown hgZ HBE_4.out.size (fun j e => (HOW_5.out.lt j e).1))
                have HOW_11 := Lib.hid hoZ
                have hS_Z_7 : (Z_7.cell? ⟨gs, 0, none⟩ = some (.int .i64 xk) ∧ Z_7.cell? ⟨gs, 1, none⟩ = some (.int .i64 xn)) := ⟨HLC_9.out.kd, HLC_9.out.nm⟩
                clear hgZ hkZ hoZ
                refine hK.out _ _ hS_Z_7 (fun hHeld => ?_)
                clear hK K
                (try simp only [Act.put, List.setIfInBounds_toArray])
                refine wpAnyH_ready (rs := [9]) (by kernel_rfl) (by simp) ?_
                refine AllReadyH.cons rfl (fun K hK => ?_) AllReadyH.nil
                have hbY := below_lnew Z_7 (.cells #[.int .i64 (-xn)] 3)
                have HSP_13 := Lib.hid (HSP_8.out.below hbY HSP_8.out.lt)
                have HLC_14 := Lib.hid (HLC_9.out.below hbY HLC_9.out.lt)
                have HBE_15 := Lib.hid (HBE_10.out.trans (hbY.mono HBE_10.out.size))
                have HOW_16 := Lib.hid (HOW_11.out.below hbY)
                have HIN_17 := Lib.hid (show IntsAt (Z_7.alloc (.cells #[.int .i64 (-xn)] 3)) Z_7.heap.size [-xn] from heap_alloc_new _ _)
                clear hbY
                go_simp
                (try simp only [wrapu8 (show (0 : Int) ≤ xk by omega) (show xk < 256 by omega), wrap8 (show (-9223372036854775808 : Int) ≤ -xn by omega) (show -xn < 9223372036854775808 by omega)])
                obtain ⟨Y_12, hY⟩ : ∃ Y, Z_7.alloc (.cells #[.int .i64 (-xn)] 3) = Y := ⟨_, rfl⟩
                rw [hY] at HSP_13 HLC_14 HBE_15 HOW_16 HIN_17 ⊢
                have hS_Y_12 : (Y_12.cell? ⟨gs, 0, none⟩ = some (.int .i64 xk) ∧ Y_12.cell? ⟨gs, 1, none⟩ = some (.int .i64 xn)) := ⟨HLC_14.out.kd, HLC_14.out.nm⟩
                refine hK.out _ _ hS_Y_12 (fun hHeld => ?_)
                clear hY
                clear hK K
                (try simp only [Act.put, List.setIfInBounds_toArray, List.set_cons_zero, List.set_cons_succ])
                refine wpAnyH_ready (rs := [10]) (by kernel_rfl) (by simp) ?_
                refine AllReadyH.cons rfl (fun K hK => ?_) AllReadyH.nil
                go_simp
                go_at_call 17
                refine (putv_any w.heap.size v5 (bs ++ [UInt8.ofNat xk.toNat]) Z_7.heap.size 1 1 [-xn] Y_12 rfl HOW_16.out HIN_17.out (by show w.heap.size ≤ Y_12.heap.size; have := HBE_15.out.size; omega) (by simp; omega) (by simp; omega) (by simp)).mono ?_
                rintro e9 X_18 ⟨v6, rfl, hoX, hgX⟩
                have HSP_19 := Lib.hid (HSP_13.out.kept8 hgX (fun e => HOW_16.out.no_sp HSP_13.out e.symm))
                have HLC_20 := Lib.hid (HLC_14.out.kept8 hgX (HOW_16.out.no_lc HLC_14.out))
                have HBE_21 := Lib.hid (HBE_15.out.grown hgX HBE_15.out.size (fun j e => (HOW_16.out.lt j e).1))
                have HOW_22 := Lib.hid hoX
                have hS_X_18 : (X_18.cell? ⟨gs, 0, none⟩ = some (.int .i64 xk) ∧ X_18.cell? ⟨gs, 1, none⟩ = some (.int .i64 xn)) := ⟨HLC_20.out.kd, HLC_20.out.nm⟩
                clear hgX hoX
                go_wp2_with fail
                refine hK.out _ _ hS_X_18 (fun hHeld => ?_)
                clear hK K
                (try simp only [Act.put, List.setIfInBounds_toArray, List.set_cons_zero, List.set_cons_succ])
                refine heldTake (i := 11) (d := some 6) (v := ?_) rfl rfl (by kernel_rfl) (by kernel_rfl) (by kernel_rfl) (fun _ _ _ h => h) (by kernel_rfl) ?hyq_8 (by assumption) ?restq_8
                case hyq_8 => (intro W9 hSw; (try dsimp only at hSw); go_simp; try (with_reducible rfl))
                (try simp only [Act.put, List.setIfInBounds_toArray, List.set_cons_zero, List.set_cons_succ])
                refine wpAnyH_done (by kernel_rfl) ?_ _
                go_wp2
                go_roundw
                case rel => exact ⟨j + 1, by omega, by go_num, by rw [HTW.out]; exact HOW_22, HSP_19, HBE_21⟩
                case measure => simp [intOf]; omega
              · have hbY := below_lnew Y_1 (.cells #[.int .i64 (-xn)] 3)
                have HSP_24 := Lib.hid (HSP_2.out.below hbY HSP_2.out.lt)
                have HLC_25 := Lib.hid (HLC_3.out.below hbY HLC_3.out.lt)
                have HBE_26 := Lib.hid (HBE_4.out.trans (hbY.mono HBE_4.out.size))
                have HOW_27 := Lib.hid (HOW_5.out.below hbY)
                have HBY_28 := Lib.hid (HBY_6.out.next8 hbY)
                have HIN_29 := Lib.hid (show IntsAt (Y_1.alloc (.cells #[.int .i64 (-xn)] 3)) Y_1.heap.size [-xn] from heap_alloc_new _ _)
                clear hbY
                go_simp
                (try simp only [wrapu8 (show (0 : Int) ≤ xk by omega) (show xk < 256 by omega), wrap8 (show (-9223372036854775808 : Int) ≤ -xn by omega) (show -xn < 9223372036854775808 by omega)])
                obtain ⟨Y_23, hY⟩ : ∃ Y, Y_1.alloc (.cells #[.int .i64 (-xn)] 3) = Y := ⟨_, rfl⟩
                rw [hY] at HSP_24 HLC_25 HBE_26 HOW_27 HBY_28 HIN_29 ⊢
                have hS_Y_23 : (Y_23.cell? ⟨gs, 0, none⟩ = some (.int .i64 xk) ∧ Y_23.cell? ⟨gs, 1, none⟩ = some (.int .i64 xn)) := ⟨HLC_25.out.kd, HLC_25.out.nm⟩
                refine hK.out _ _ hS_Y_23 (fun hHeld => ?_)
                clear hY
                clear hK K
                (try simp only [Act.put, List.setIfInBounds_toArray, List.set_cons_zero, List.set_cons_succ])
                refine wpAnyH_ready (rs := [5]) (by kernel_rfl) (by simp) ?_
                refine AllReadyH.cons rfl (fun K hK => ?_) AllReadyH.nil
                rw [if_pos (by kernel_rfl)]
                refine op_append Y_23.drew (.tmp 49) (.tmp 53) rfl w.heap.size _ bs rfl HOW_27.out (some ⟨W0.heap.size, 0, none⟩) 1 _ [UInt8.ofNat xk.toNat] rfl (by simp) HBY_28.out (by simp; omega) (by show w.heap.size ≤ Y_23.heap.size; have := HBE_26.out.size; omega) ?_
                intro v5 Z_30 hoZ hgZ hkZ
                replace hgZ := grown_of_drew hgZ
                have HSP_31 := Lib.hid (HSP_24.out.kept8 hgZ (fun e => HOW_27.out.no_sp HSP_24.out e.symm))
                have HLC_32 := Lib.hid (HLC_25.out.kept8 hgZ (HOW_27.out.no_lc HLC_25.out))
                have HBE_33 := Lib.hid (HBE_26.out.grown hgZ HBE_26.out.size (fun j e => (HOW_27.out.lt j e).1))
                have HIN_34 := Lib.hid (HIN_29.out.kept hgZ (HOW_27.out.no_ints HIN_29.out))
                have HOW_35 := Lib.hid hoZ
                have hS_Z_30 : (Z_30.cell? ⟨gs, 0, none⟩ = some (.int .i64 xk) ∧ Z_30.cell? ⟨gs, 1, none⟩ = some (.int .i64 xn)) := ⟨HLC_32.out.kd, HLC_32.out.nm⟩
                clear hgZ hkZ hoZ
                refine hK.out _ _ hS_Z_30 (fun hHeld => ?_)
                clear hK K
                (try simp only [Act.put, List.setIfInBounds_toArray])
                refine wpAnyH_ready (rs := [10]) (by kernel_rfl) (by simp) ?_
                refine AllReadyH.cons rfl (fun K hK => ?_) AllReadyH.nil
                go_simp
                go_at_call 17
                refine (putv_any w.heap.size v5 (bs ++ [UInt8.ofNat xk.toNat]) Y_1.heap.size 1 1 [-xn] Z_30 rfl HOW_35.out HIN_34.out (by show w.heap.size ≤ Z_30.heap.size; have := HBE_33.out.size; omega) (by simp; omega) (by simp; omega) (by simp)).mono ?_
                rintro e9 X_36 ⟨v6, rfl, hoX, hgX⟩
                have HSP_37 := Lib.hid (HSP_31.out.kept8 hgX (fun e => HOW_35.out.no_sp HSP_31.out e.symm))
                have HLC_38 := Lib.hid (HLC_32.out.kept8 hgX (HOW_35.out.no_lc HLC_32.out))
                have HBE_39 := Lib.hid (HBE_33.out.grown hgX HBE_33.out.size (fun j e => (HOW_35.out.lt j e).1))
                have HOW_40 := Lib.hid hoX
                have hS_X_36 : (X_36.cell? ⟨gs, 0, none⟩ = some (.int .i64 xk) ∧ X_36.cell? ⟨gs, 1, none⟩ = some (.int .i64 xn)) := ⟨HLC_38.out.kd, HLC_38.out.nm⟩
                clear hgX hoX
                go_wp2_with fail
                refine hK.out _ _ hS_X_36 (fun hHeld => ?_)
                clear hK K
                (try simp only [Act.put, List.setIfInBounds_toArray, List.set_cons_zero, List.set_cons_succ])
                refine heldTake (i := 11) (d := some 6) (v := ?_) rfl rfl (by kernel_rfl) (by kernel_rfl) (by kernel_rfl) (fun _ _ _ h => h) (by kernel_rfl) ?hyq_9 (by assumption) ?restq_9
                case hyq_9 => (intro W9 hSw; (try dsimp only at hSw); go_simp; try (with_reducible rfl))
                (try simp only [Act.put, List.setIfInBounds_toArray, List.set_cons_zero, List.set_cons_succ])
                refine wpAnyH_done (by kernel_rfl) ?_ _
                go_wp2
                go_roundw
                case rel => exact ⟨j + 1, by omega, by go_num, by rw [HTW.out]; exact HOW_40, HSP_37, HBE_39⟩
                case measure => simp [intOf]; omega
            · have hbY := below_lnew W0 (.cells #[.int .i64 (-xn)] 3)
              have HSP_42 := Lib.hid (HSP0.out.below hbY HSP0.out.lt)
              have HLC_43 := Lib.hid (HLC0.out.below hbY HLC0.out.lt)
              have HBE_44 := Lib.hid (HBE0.out.trans (hbY.mono HBE0.out.size))
              have HOW_45 := Lib.hid (HOW0.out.below hbY)
              have HIN_46 := Lib.hid (show IntsAt (W0.alloc (.cells #[.int .i64 (-xn)] 3)) W0.heap.size [-xn] from heap_alloc_new _ _)
              clear hbY
              go_simp
              (try simp only [wrapu8 (show (0 : Int) ≤ xk by omega) (show xk < 256 by omega), wrap8 (show (-9223372036854775808 : Int) ≤ -xn by omega) (show -xn < 9223372036854775808 by omega)])
              obtain ⟨Y_41, hY⟩ : ∃ Y, W0.alloc (.cells #[.int .i64 (-xn)] 3) = Y := ⟨_, rfl⟩
              rw [hY] at HSP_42 HLC_43 HBE_44 HOW_45 HIN_46 ⊢
              have hS_Y_41 : (Y_41.cell? ⟨gs, 0, none⟩ = some (.int .i64 xk) ∧ Y_41.cell? ⟨gs, 1, none⟩ = some (.int .i64 xn)) := ⟨HLC_43.out.kd, HLC_43.out.nm⟩
              refine hK.out _ _ hS_Y_41 (fun hHeld => ?_)
              clear hY
              clear hK K
              (try simp only [Act.put, List.setIfInBounds_toArray, List.set_cons_zero, List.set_cons_succ])
              refine wpAnyH_ready (rs := [4]) (by kernel_rfl) (by simp) ?_
              refine AllReadyH.cons rfl (fun K hK => ?_) AllReadyH.nil
              have hbY := below_lnew Y_41 (.cells #[.int .u8 xk] 5)
              have HSP_48 := Lib.hid (HSP_42.out.below hbY HSP_42.out.lt)
              have HLC_49 := Lib.hid (HLC_43.out.below hbY HLC_43.out.lt)
              have HBE_50 := Lib.hid (HBE_44.out.trans (hbY.mono HBE_44.out.size))
              have HOW_51 := Lib.hid (HOW_45.out.below hbY)
              have HIN_52 := Lib.hid (HIN_46.out.below hbY HIN_46.out.lt)
              have HBY_53 := Lib.hid (one_lies8 Y_41 (UInt8.ofNat xk.toNat) xk (by rw [u8_nat (by omega)]; omega))
              clear hbY
              go_simp
              (try simp only [wrapu8 (show (0 : Int) ≤ xk by omega) (show xk < 256 by omega), wrap8 (show (-9223372036854775808 : Int) ≤ -xn by omega) (show -xn < 9223372036854775808 by omega)])
              obtain ⟨Y_47, hY⟩ : ∃ Y, Y_41.alloc (.cells #[.int .u8 xk] 5) = Y := ⟨_, rfl⟩
              rw [hY] at HSP_48 HLC_49 HBE_50 HOW_51 HBY_53 HIN_52 ⊢
              have hS_Y_47 : (Y_47.cell? ⟨gs, 0, none⟩ = some (.int .i64 xk) ∧ Y_47.cell? ⟨gs, 1, none⟩ = some (.int .i64 xn)) := ⟨HLC_49.out.kd, HLC_49.out.nm⟩
              refine hK.out _ _ hS_Y_47 (fun hHeld => ?_)
              clear hY
              clear hK K
              (try simp only [Act.put, List.setIfInBounds_toArray, List.set_cons_zero, List.set_cons_succ])
              refine wpAnyH_ready (rs := [5]) (by kernel_rfl) (by simp) ?_
              refine AllReadyH.cons rfl (fun K hK => ?_) AllReadyH.nil
              rw [if_pos (by kernel_rfl)]
              refine op_append Y_47.drew (.tmp 49) (.tmp 53) rfl w.heap.size _ bs rfl HOW_51.out (some ⟨Y_41.heap.size, 0, none⟩) 1 _ [UInt8.ofNat xk.toNat] rfl (by simp) HBY_53.out (by simp; omega) (by show w.heap.size ≤ Y_47.heap.size; have := HBE_50.out.size; omega) ?_
              intro v5 Z_54 hoZ hgZ hkZ
              replace hgZ := grown_of_drew hgZ
              have HSP_55 := Lib.hid (HSP_48.out.kept8 hgZ (fun e => HOW_51.out.no_sp HSP_48.out e.symm))
              have HLC_56 := Lib.hid (HLC_49.out.kept8 hgZ (HOW_51.out.no_lc HLC_49.out))
              have HBE_57 := Lib.hid (HBE_50.out.grown hgZ HBE_50.out.size (fun j e => (HOW_51.out.lt j e).1))
              have HIN_58 := Lib.hid (HIN_52.out.kept hgZ (HOW_51.out.no_ints HIN_52.out))
              have HOW_59 := Lib.hid hoZ
              have hS_Z_54 : (Z_54.cell? ⟨gs, 0, none⟩ = some (.int .i64 xk) ∧ Z_54.cell? ⟨gs, 1, none⟩ = some (.int .i64 xn)) := ⟨HLC_56.out.kd, HLC_56.out.nm⟩
              clear hgZ hkZ hoZ
              refine hK.out _ _ hS_Z_54 (fun hHeld => ?_)
              clear hK K
              (try simp only [Act.put, List.setIfInBounds_toArray])
              refine wpAnyH_ready (rs := [10]) (by kernel_rfl) (by simp) ?_
              refine AllReadyH.cons rfl (fun K hK => ?_) AllReadyH.nil
              go_simp
              go_at_call 17
              refine (putv_any w.heap.size v5 (bs ++ [UInt8.ofNat xk.toNat]) W0.heap.size 1 1 [-xn] Z_54 rfl HOW_59.out HIN_58.out (by show w.heap.size ≤ Z_54.heap.size; have := HBE_57.out.size; omega) (by simp; omega) (by simp; omega) (by simp)).mono ?_
              rintro e9 X_60 ⟨v6, rfl, hoX, hgX⟩
              have HSP_61 := Lib.hid (HSP_55.out.kept8 hgX (fun e => HOW_59.out.no_sp HSP_55.out e.symm))
              have HLC_62 := Lib.hid (HLC_56.out.kept8 hgX (HOW_59.out.no_lc HLC_56.out))
              have HBE_63 := Lib.hid (HBE_57.out.grown hgX HBE_57.out.size (fun j e => (HOW_59.out.lt j e).1))
              have HOW_64 := Lib.hid hoX
              have hS_X_60 : (X_60.cell? ⟨gs, 0, none⟩ = some (.int .i64 xk) ∧ X_60.cell? ⟨gs, 1, none⟩ = some (.int .i64 xn)) := ⟨HLC_62.out.kd, HLC_62.out.nm⟩
              clear hgX hoX
              go_wp2_with fail
              refine hK.out _ _ hS_X_60 (fun hHeld => ?_)
              clear hK K
              (try simp only [Act.put, List.setIfInBounds_toArray, List.set_cons_zero, List.set_cons_succ])
              refine heldTake (i := 11) (d := some 6) (v := ?_) rfl rfl (by kernel_rfl) (by kernel_rfl) (by kernel_rfl) (fun _ _ _ h => h) (by kernel_rfl) ?hyq_10 (by assumption) ?restq_10
              case hyq_10 => (intro W9 hSw; (try dsimp only at hSw); go_simp; try (with_reducible rfl))
              (try simp only [Act.put, List.setIfInBounds_toArray, List.set_cons_zero, List.set_cons_succ])
              refine wpAnyH_done (by kernel_rfl) ?_ _
              go_wp2
              go_roundw
              case rel => exact ⟨j + 1, by omega, by go_num, by rw [HTW.out]; exact HOW_64, HSP_61, HBE_63⟩
              case measure => simp [intOf]; omega
          · have hjn : j = pa.length := by omega
            have HF := Lib.hid (show Own wr w.heap.size _ (bs1 ++ pa.flatMap encW) from by have := hOW.out; rw [hjn, List.take_length] at this; exact this)
            have f1 := hSP.out.to
            have hji : (pa.length : Int) ≤ j := by omega
            dsimp only at f1
            clear hjn
            go_wp2_with fail
            go_roundw
            case rel => exact ⟨k + 1, pt, _, by omega, by go_num, rfl, HF, HA2, hBE⟩
            case measure => simp [intOf]; omega
      · have hkn : k = ps.length := by omega
        have h2 : Ahead (ps.map Ps.sp) (ps.map Ps.sp).length last bs0 := by rw [List.length_map, ← hkn]; exact hA.out
        have hol := hA.out.len
        have HF := Lib.hid (show Own wr w.heap.size _ (ownS (ps.map Ps.sp)) from by rw [← h2.last]; exact hv.out)
        rw [h2.last] at hol
        have hki : (ps.length : Int) ≤ k := by omega
        clear h2 hkn hA
        obtain ⟨A3, n3, c3, rfl, hn3, hle, ha3, hl3⟩ := HF.out.formN
        have hb2 := below_lnew wr (.cells #[.slice A b.length c, .slice A3 n3 c3] 22)
        have HKC := Lib.hid (concat_n wr.heap.size A A3 c c3 n3 b (ownS (ps.map Ps.sp)) _ hn3.out (heap_alloc_new wr (.cells #[.slice A b.length c, .slice A3 n3 c3] 22)) hc ha3 (((HL.out.below hB.out).more hwr).next8 hb2) (hl3.next8 hb2) (by omega) (by omega))
        have HB9 := Lib.hid (hB.out.trans (hb2.mono hwr))
        clear hb2 ha3 hl3 hol
        go_wp2_with fail
        refine HKC.out.mono ?_
        rintro e w5 ⟨v5, rfl, ho5, hb5⟩
        go_wp2_with fail
        go_ret2
        exact ⟨v5, by rw [HE.out.1]; rfl, by rw [HE.out.2]; exact ho5.base (by simp; omega), HB9.out.trans (hb5.mono (by simp; omega))⟩
end Go.Proofs.Ytpbopehhalicjaa
