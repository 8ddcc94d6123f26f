/-
  Merged for a claim: S9E, S9F, S9G.
-/
import Derived.Test.YtbkfkdiadeaooaaGreatHS9D
namespace Go.Proofs.YtbkfkdiadeaooaaGreat
open Go Go.RowKit

def okL (a : Int) (p : Plc) : Bool := decide (a ≤ p.fr ∧ p.fr < p.tt ∧ p.tt ≤ 16777216) && (nameB p.nm && holdB p)
def okLs : Int → List Plc → Bool
  | _, [] => true
  | a, p :: l => okL a p && okLs p.tt l
def nvs (ls : List Plc) (k : Nat) : Int := ((ls[k]?).map (fun p => (p.vs.length : Int))).getD 0
def okQ (ls : List Plc) (q : Pnt) : Bool := decide (0 ≤ q.fn ∧ q.fn < ls.length ∧ 1 ≤ q.ln ∧ q.ln ≤ 1048576) && riseB (nvs ls q.fn.toNat) (-1) q.sc
def right9 (ls : List Plc) (qs : List Pnt) : Bool := decide (ls.length ≤ 64 ∧ qs.length ≤ 1000) && (okLs 0 ls && qs.all (okQ ls))
theorem okLs_at {a : Int} {l : List Plc} {k : Nat} (h : k < l.length) : okLs a (l.drop k) = (okL a l[k] && okLs l[k].tt (l.drop (k + 1))) := by
  rw [List.drop_eq_getElem_cons h]; rfl
theorem okL_no {a : Int} {p : Plc} (h : p.fr < a ∨ p.tt ≤ p.fr ∨ 16777216 < p.tt) : okL a p = false := by
  unfold okL; rw [decide_eq_false (by omega), Bool.false_and]
theorem okL_name {a : Int} {p : Plc} (h : a ≤ p.fr ∧ p.fr < p.tt ∧ p.tt ≤ 16777216) : okL a p = (nameB p.nm && holdB p) := by
  unfold okL; rw [decide_eq_true h, Bool.true_and]
theorem okQ_no {ls : List Plc} {q : Pnt} (h : q.fn < 0 ∨ (ls.length : Int) ≤ q.fn ∨ q.ln < 1 ∨ 1048576 < q.ln) : okQ ls q = false := by
  unfold okQ; rw [decide_eq_false (by omega), Bool.false_and]
theorem okQ_in {ls : List Plc} {q : Pnt} (h : 0 ≤ q.fn ∧ q.fn < ls.length ∧ 1 ≤ q.ln ∧ q.ln ≤ 1048576) : okQ ls q = riseB (nvs ls q.fn.toNat) (-1) q.sc := by
  unfold okQ; rw [decide_eq_true h, Bool.true_and]
def SmT (ps : List Pp) (qs : List Pq) : Prop := (∀ p ∈ ps, SmP p) ∧ ∀ q ∈ qs, q.d.sc.length ≤ 1099511627776
def qV (q : Pq) : Value := .agg (qK q)

set_option maxRecDepth 100000 in
set_option maxHeartbeats 4000000 in
theorem right9_any (A A2 : Option Addr) (c c2 : Nat) (ps : List Pp) (qs : List Pq) (w : World) (hs : SmT ps qs) (h : TL w w.heap.size A ps) (h2 : UL w w.heap.size A2 qs) :
    Calls Tryz.prog 20 #[.slice A ps.length c, .slice A2 qs.length c2] w (BoolR (right9 (ps.map Pp.d) (qs.map Pq.d)) w) := by
  have HSm := Lib.hid hs
  clear hs
  by_cases h1 : 64 < ps.length
  · have HR := Lib.hid (show right9 (ps.map Pp.d) (qs.map Pq.d) = false by unfold right9; rw [decide_eq_false (by simp; omega), Bool.false_and])
    have h1i : (64 : Int) < ps.length := by omega
    rw [HR.out]
    clear h h2
    go_enter Tryz.func20, Tryz.ntmps20
    go_wp2
    go_ret
    exact ⟨rfl, Below.refl _ _⟩
  by_cases h3 : 1000 < qs.length
  · have HR := Lib.hid (show right9 (ps.map Pp.d) (qs.map Pq.d) = false by unfold right9; rw [decide_eq_false (by simp; omega), Bool.false_and])
    have h1i : (ps.length : Int) ≤ 64 := by omega
    have h2i : (1000 : Int) < qs.length := by omega
    rw [HR.out]
    clear h h2
    go_enter Tryz.func20, Tryz.ntmps20
    go_wp2
    go_ret
    exact ⟨rfl, Below.refl _ _⟩
  have HR := Lib.hid (show right9 (ps.map Pp.d) (qs.map Pq.d) = (okLs 0 (ps.map Pp.d) && (qs.map Pq.d).all (okQ (ps.map Pp.d))) by unfold right9; rw [decide_eq_true (by simp; omega), Bool.true_and])
  have h1i : (ps.length : Int) ≤ 64 := by omega
  have h2i : (qs.length : Int) ≤ 1000 := by omega
  rw [HR.out]
  clear HR
  obtain ⟨b, hb⟩ : ∃ b, okLs 0 (ps.map Pp.d) = b := ⟨_, rfl⟩
  obtain ⟨b2, hb2⟩ : ∃ b2, (qs.map Pq.d).all (okQ (ps.map Pp.d)) = b2 := ⟨_, rfl⟩
  have H0 := Lib.hid (show b = okLs 0 ((ps.map Pp.d).drop 0) from hb.symm)
  have G0 := Lib.hid (show b2 = (qs.drop 0).all (fun q => okQ (ps.map Pp.d) q.d) by rw [← hb2, List.all_map]; rfl)
  rw [hb, hb2]
  clear hb hb2
  go_enter Tryz.func20, Tryz.ntmps20
  go_wp2_with fail
  go_loopw [5, 20] (fun a i wr => ∃ (k : Nat) (x : Int), k ≤ ps.length ∧ i = .int .i64 k ∧ a = .int .i64 x ∧ Hid (Below w.heap.size w wr) ∧ Hid (b = okLs x ((ps.map Pp.d).drop k))) (fun _ i _ => ps.length - (intOf i).toNat)
  case atStart => exact ⟨0, 0, by omega, rfl, rfl, Below.refl _ _, H0⟩
  case round =>
    obtain ⟨k, x, hk, rfl, rfl, hB, hr⟩ := hrel
    clear H0
    by_cases hlt : k < ps.length
    · have hmk : k < (ps.map Pp.d).length := by simpa using hlt
      obtain ⟨g, o, rfl, hg, x0, x1, x2, x3, x4⟩ := eL_at (h.1.below hB.out) hlt
      have hwz := hB.out.size
      have hpl := Lib.hid ((h.2 _ (List.getElem_mem hlt)).below hB.out)
      have HSP := Lib.hid (HSm.out.1 _ (List.getElem_mem hlt))
      have HE := Lib.hid (hr.out.trans (okLs_at hmk))
      clear hr
      simp only [List.getElem_map] at HE
      generalize ps[k] = p at *
      have hb1 := below_lnew wr (.cells (lK p) 49)
      have HP := Lib.hid (((hpl.out.more hwz).below hb1).more hb1.size)
      have HHO := Lib.hid (holds_any p _ HSP.out HP.out)
      obtain ⟨nm, fr, tt, vs, vA, vc, ss, sA, sc⟩ := p
      have HB1 := Lib.hid (hB.out.trans (hb1.mono hwz))
      unfold lV at HHO
      unfold lK tv at HB1 HP HHO hb1
      dsimp only at HB1 HP HHO hb1 x0 x1 x2 x3 x4
      have HD : Hid (Pp.d ⟨nm, fr, tt, vs, vA, vc, ss, sA, sc⟩ = ⟨nm, fr, tt, vs.map Pv.d, ss.map Rs.d⟩) := rfl
      clear hb1
      by_cases q1 : fr < x
      · have HX := Lib.hid (show b = false by rw [HE.out, okL_no (Or.inl q1), Bool.false_and])
        clear HE HHO HP
        go_wp2_with fail
        go_ret
        exact ⟨by rw [HX.out]; rfl, HB1.out⟩
      by_cases q2 : tt ≤ fr
      · have HX := Lib.hid (show b = false by rw [HE.out, okL_no (Or.inr (Or.inl q2)), Bool.false_and])
        clear HE HHO HP
        go_wp2_with fail
        go_ret
        exact ⟨by rw [HX.out]; rfl, HB1.out⟩
      by_cases q3 : 16777216 < tt
      · have HX := Lib.hid (show b = false by rw [HE.out, okL_no (Or.inr (Or.inr q3)), Bool.false_and])
        clear HE HHO HP
        go_wp2_with fail
        go_ret
        exact ⟨by rw [HX.out]; rfl, HB1.out⟩
      have HE2 := Lib.hid (show b = ((nameB nm && holdB (Pp.d ⟨nm, fr, tt, vs, vA, vc, ss, sA, sc⟩)) && okLs tt ((ps.map Pp.d).drop (k + 1))) by rw [HE.out, okL_name ⟨by show x ≤ fr; omega, by show fr < tt; omega, by show tt ≤ 16777216; omega⟩]; rfl)
      clear HE
      go_upto_region 9 with fail
      obtain ⟨W2, hW2⟩ : ∃ W2, W2 = wr.alloc (.cells #[.string (str nm), .int .i64 fr, .int .i64 tt, .slice vA vs.length vc, .slice sA ss.length sc] 49) := ⟨_, rfl⟩
      rw [← hW2] at HHO HB1 ⊢
      have f0 := heap_alloc_new wr (.cells #[.string (str nm), .int .i64 fr, .int .i64 tt, .slice vA vs.length vc, .slice sA ss.length sc] 49)
      rw [← hW2] at f0
      obtain ⟨v0, v1, v2, v3, v4⟩ : W2.cell? ⟨wr.heap.size, 0, none⟩ = some (.string (str nm)) ∧ W2.cell? ⟨wr.heap.size, 1, none⟩ = some (.int .i64 fr) ∧ W2.cell? ⟨wr.heap.size, 2, none⟩ = some (.int .i64 tt) ∧ W2.cell? ⟨wr.heap.size, 3, none⟩ = some (.slice vA vs.length vc) ∧ W2.cell? ⟨wr.heap.size, 4, none⟩ = some (.slice sA ss.length sc) := by
        simp [World.cell?, f0]
      have hz2 : wr.heap.size < W2.heap.size := by rw [hW2]; simp
      clear hW2 f0 x0 x1 x2 x3 x4
      cases hnm : nameB nm
      · have HX := Lib.hid (show b = false by rw [HE2.out, hnm]; rfl)
        clear HE2 HHO HP
        go_wp2_with (go_at_call 41; refine (isName_any nm _).mono ?_; rintro e9 X ⟨rfl, rfl⟩)
        go_ret
        exact ⟨by rw [HX.out]; rfl, HB1.out⟩
      cases hho : holdB (Pp.d ⟨nm, fr, tt, vs, vA, vc, ss, sA, sc⟩)
      · have HX := Lib.hid (show b = false by rw [HE2.out, hho, Bool.and_false]; rfl)
        clear HE2 HP
        rw [hho] at HHO
        clear hho
        go_wp2_with (first
          | (go_at_call 41; refine (isName_any nm _).mono ?_; rintro e9 X ⟨rfl, rfl⟩)
          | (go_at_call 42; refine HHO.out.mono ?_; rintro e w3 ⟨rfl, hb3⟩))
        go_ret
        exact ⟨by rw [HX.out]; rfl, HB1.out.trans (hb3.mono HB1.out.size)⟩
      · have HX := Lib.hid (show b = okLs tt ((ps.map Pp.d).drop (k + 1)) by rw [HE2.out, hho, hnm]; rfl)
        clear HE2 HP
        rw [hho] at HHO
        clear hho
        go_wp2_with (first
          | (go_at_call 41; refine (isName_any nm _).mono ?_; rintro e9 X ⟨rfl, rfl⟩)
          | (go_at_call 42
             refine HHO.out.mono ?_
             rintro e w3 ⟨rfl, hb3⟩
             have y2 := (hb3.cell (p := ⟨wr.heap.size, 2, none⟩) hz2).trans v2
             have HB3 := Lib.hid (HB1.out.trans (hb3.mono HB1.out.size))
             clear v0 v1 v2 v3 v4 hb3))
        go_roundw
        case rel => exact ⟨k + 1, tt, by omega, by go_num, rfl, HB3, HX⟩
        case measure => simp [intOf]; omega
    · have hki : (ps.length : Int) ≤ k := by omega
      have HX := Lib.hid (show b = true by rw [hr.out, List.drop_eq_nil_of_le (by simp; omega)]; rfl)
      have HXB := HX
      clear hr HX
      go_wp2_with fail
      have HBB := hB
      clear hB
      go_loopw [54] (fun i wx => ∃ j : Nat, j ≤ qs.length ∧ i = .int .i64 j ∧ Hid (Below w.heap.size w wx) ∧ Hid (b2 = (qs.drop j).all (fun q => okQ (ps.map Pp.d) q.d))) (fun i _ => qs.length - (intOf i).toNat)
      case atStart => exact ⟨0, by omega, rfl, HBB, G0⟩
      case round =>
        obtain ⟨j, hj, rfl, hB, hr⟩ := hrel
        clear G0
        by_cases hltj : j < qs.length
        · obtain ⟨g, o, rfl, hg, x0, x1, x2⟩ := eQ_at (h2.1.below hB.out) hltj
          have hwz := hB.out.size
          have hql := Lib.hid ((h2.2 _ (List.getElem_mem hltj)).below hB.out)
          have HQN := Lib.hid (HSm.out.2 _ (List.getElem_mem hltj))
          have HN := Lib.hid (fun hp => all_step hltj hr.out hp)
          have HF := Lib.hid (fun hp => all_stop hltj hr.out hp)
          have HTL := Lib.hid (h.1.below hB.out)
          clear hr
          generalize qs[j] = q at *
          have hb1 := below_lnew wr (.cells (qK q) 55)
          have HQL := Lib.hid (((hql.out.1.more hwz).below hb1).more hb1.size)
          have HTL1 := Lib.hid (HTL.out.below (hb1.mono hwz))
          have HB1 := Lib.hid (hB.out.trans (hb1.mono hwz))
          obtain ⟨⟨fn, ln, qsc⟩, qA, qc⟩ := q
          unfold qK at HQL HTL1 HB1
          dsimp only at HQL HTL1 HB1 HQN HN HF x0 x1 x2
          clear hb1 HTL hql
          by_cases q1 : fn < 0
          · have HX := Lib.hid (HF.out (okQ_no (Or.inl q1)))
            clear HN HF HQL HTL1
            go_wp2_with fail
            go_ret
            exact ⟨by rw [HX.out, Bool.and_false]; rfl, HB1.out⟩
          by_cases q2 : (ps.length : Int) ≤ fn
          · have HX := Lib.hid (HF.out (okQ_no (Or.inr (Or.inl (by simpa using q2)))))
            clear HN HF HQL HTL1
            go_wp2_with fail
            go_ret
            exact ⟨by rw [HX.out, Bool.and_false]; rfl, HB1.out⟩
          by_cases q3 : ln < 1
          · have HX := Lib.hid (HF.out (okQ_no (Or.inr (Or.inr (Or.inl q3)))))
            clear HN HF HQL HTL1
            go_wp2_with fail
            go_ret
            exact ⟨by rw [HX.out, Bool.and_false]; rfl, HB1.out⟩
          by_cases q4 : 1048576 < ln
          · have HX := Lib.hid (HF.out (okQ_no (Or.inr (Or.inr (Or.inr q4)))))
            clear HN HF HQL HTL1
            go_wp2_with fail
            go_ret
            exact ⟨by rw [HX.out, Bool.and_false]; rfl, HB1.out⟩
          obtain ⟨fnn, rfl⟩ : ∃ n : Nat, fn = (n : Int) := ⟨fn.toNat, by omega⟩
          have hfn : fnn < ps.length := by omega
          have hin : okQ (ps.map Pp.d) ⟨(fnn : Int), ln, qsc⟩ = riseB (nvs (ps.map Pp.d) fnn) (-1) qsc := by
            rw [okQ_in ⟨by show (0 : Int) ≤ (fnn : Int); omega, by show (fnn : Int) < _; simp; omega, by show 1 ≤ ln; omega, by show ln ≤ 1048576; omega⟩]
            rfl
          have hnv : nvs (ps.map Pp.d) fnn = ((ps[fnn]'hfn).vs.length : Int) := by
            unfold nvs
            rw [List.getElem?_eq_getElem (by simpa using hfn), List.getElem_map]
            simp [Pp.d]
          rw [hnv] at hin
          rw [hin] at HN HF
          clear hin hnv
          obtain ⟨gp, op, rfl, hgp, _, _, _, y3, _⟩ := eL_at HTL1.out hfn
          generalize ps[fnn] = pp at *
          obtain ⟨_, _, _, pvs, pvA, pvc, _, _, _⟩ := pp
          dsimp only at y3 HN HF
          clear HTL1
          go_upto_region 18 with fail
          obtain ⟨W2, hW2⟩ : ∃ W2, W2 = wr.alloc (.cells #[.int .i64 (fnn : Int), .int .i64 ln, .slice qA qsc.length qc] 55) := ⟨_, rfl⟩
          rw [← hW2] at y3 HQL HB1 ⊢
          have f0 := heap_alloc_new wr (.cells #[.int .i64 (fnn : Int), .int .i64 ln, .slice qA qsc.length qc] 55)
          rw [← hW2] at f0
          obtain ⟨z0, z2⟩ : W2.cell? ⟨wr.heap.size, 0, none⟩ = some (.int .i64 (fnn : Int)) ∧ W2.cell? ⟨wr.heap.size, 2, none⟩ = some (.slice qA qsc.length qc) := by
            simp [World.cell?, f0]
          have zv := y3
          clear hW2 f0 x0 x1 x2 y3
          cases hri : riseB (pvs.length : Int) (-1) qsc
          · have HX := Lib.hid (HF.out hri)
            clear HN HF
            refine wp_region_held_drew (S := fun W9 => (W9.cell? ⟨wr.heap.size, 0, none⟩ = some (.int .i64 (fnn : Int)) ∧ W9.cell? ⟨wr.heap.size, 2, none⟩ = some (.slice qA qsc.length qc)) ∧ W9.cell? ⟨gp, op + fnn * 5 + 3, none⟩ = some (.slice pvA pvs.length pvc)) (by kernel_rfl) (⟨⟨z0, z2⟩, zv⟩) (fun hHeld => ?_)
            refine heldTake (i := 0) (d := some 78) (v := ?_) rfl rfl (by kernel_rfl) (by kernel_rfl) (by kernel_rfl) (fun _ _ _ h => h) (by kernel_rfl) ?hyq_1 (by assumption) ?restq_1
            case hyq_1 => (intro W9 hSw; (try dsimp only at hSw); go_simp; try (with_reducible rfl))
            (try simp only [Act.put, List.setIfInBounds_toArray, List.set_cons_zero, List.set_cons_succ])
            refine heldTake (i := 1) (d := some 79) (v := ?_) rfl rfl (by kernel_rfl) (by kernel_rfl) (by kernel_rfl) (fun _ _ _ h => h) (by kernel_rfl) ?hyq_2 (by assumption) ?restq_2
            case hyq_2 => (intro W9 hSw; (try dsimp only at hSw); go_simp; try (with_reducible rfl))
            (try simp only [Act.put, List.setIfInBounds_toArray, List.set_cons_zero, List.set_cons_succ])
            refine heldTake (i := 2) (d := some 80) (v := ?_) rfl rfl (by kernel_rfl) (by kernel_rfl) (by kernel_rfl) (fun _ _ _ h => h) (by kernel_rfl) ?hyq_3 (by assumption) ?restq_3
            case hyq_3 => (intro W9 hSw; (try dsimp only at hSw); go_simp; try (with_reducible rfl))
            (try simp only [Act.put, List.setIfInBounds_toArray, List.set_cons_zero, List.set_cons_succ])
            refine heldTake (i := 3) (d := some 81) (v := ?_) rfl rfl (by kernel_rfl) (by kernel_rfl) (by kernel_rfl) (fun _ _ _ h => h) (by kernel_rfl) ?hyq_4 (by assumption) ?restq_4
            case hyq_4 => (intro W9 hSw; (try dsimp only at hSw); go_simp; try (with_reducible rfl))
            (try simp only [Act.put, List.setIfInBounds_toArray, List.set_cons_zero, List.set_cons_succ])
            refine heldTake (i := 4) (d := some 82) (v := ?_) rfl rfl (by kernel_rfl) (by kernel_rfl) (by kernel_rfl) (fun _ _ _ h => h) (by kernel_rfl) ?hyq_5 (by assumption) ?restq_5
            case hyq_5 => (intro W9 hSw; (try dsimp only at hSw); go_simp; try (with_reducible rfl))
            (try simp only [Act.put, List.setIfInBounds_toArray, List.set_cons_zero, List.set_cons_succ])
            refine heldTake (i := 5) (d := some 83) (v := ?_) rfl rfl (by kernel_rfl) (by kernel_rfl) (by kernel_rfl) (fun _ _ _ h => h) (by kernel_rfl) ?hyq_6 (by assumption) ?restq_6
            case hyq_6 => (intro W9 hSw; (try dsimp only at hSw); go_simp; try (with_reducible rfl))
            (try simp only [Act.put, List.setIfInBounds_toArray, List.set_cons_zero, List.set_cons_succ])
            refine heldTake (i := 6) (d := some 84) (v := ?_) rfl rfl (by kernel_rfl) (by kernel_rfl) (by kernel_rfl) (fun _ _ _ h => h) (by kernel_rfl) ?hyq_7 (by assumption) ?restq_7
            case hyq_7 => (intro W9 hSw; (try dsimp only at hSw); go_simp; try (with_reducible rfl))
            (try simp only [Act.put, List.setIfInBounds_toArray, List.set_cons_zero, List.set_cons_succ])
            refine heldTake (i := 7) (d := some 85) (v := ?_) rfl rfl (by kernel_rfl) (by kernel_rfl) (by kernel_rfl) (fun _ _ _ h => h) (by kernel_rfl) ?hyq_8 (by assumption) ?restq_8
            case hyq_8 => (intro W9 hSw; (try dsimp only at hSw); go_simp; try (with_reducible rfl))
            (try simp only [Act.put, List.setIfInBounds_toArray, List.set_cons_zero, List.set_cons_succ])
            refine heldTake (i := 8) (d := some 86) (v := ?_) rfl rfl (by kernel_rfl) (by kernel_rfl) (by kernel_rfl) (fun _ _ _ h => h) (by kernel_rfl) ?hyq_9 (by assumption) ?restq_9
            case hyq_9 => (intro W9 hSw; (try dsimp only at hSw); go_simp; try (with_reducible rfl))
            (try simp only [Act.put, List.setIfInBounds_toArray, List.set_cons_zero, List.set_cons_succ])
            refine wpAnyH_ready (rs := [9]) (by kernel_rfl) (by simp) ?_
            refine AllReadyH.cons rfl (fun K hK => ?_) AllReadyH.nil
            go_simp
            go_at_call 43
            refine (rise9_any qA qc qsc _ W2.drew HQN.out HQL.out).mono ?_
            rintro e9 X ⟨rfl, rfl⟩
            go_wp2_with fail
            refine hK.out _ _ (by assumption) (fun hHeld => ?_)
            clear hK K
            (try simp only [Act.put, List.setIfInBounds_toArray, List.set_cons_zero, List.set_cons_succ])
            refine heldTake (i := 10) (d := some 88) (v := ?_) rfl rfl (by kernel_rfl) (by kernel_rfl) (by kernel_rfl) (fun _ _ _ h => h) (by kernel_rfl) ?hyq_10 (by assumption) ?restq_10
            case hyq_10 => (intro W9 hSw; (try dsimp only at hSw); go_simp; try (with_reducible rfl))
            (try simp only [Act.put, List.setIfInBounds_toArray, List.set_cons_zero, List.set_cons_succ])
            refine wpAnyH_done (by kernel_rfl) ?_ _
            go_wp2_with fail
            go_ret
            exact ⟨by rw [HX.out, Bool.and_false]; rfl, HB1.out.drew⟩
          · have HX := Lib.hid (HN.out hri)
            clear HN HF
            refine wp_region_held_drew (S := fun W9 => (W9.cell? ⟨wr.heap.size, 0, none⟩ = some (.int .i64 (fnn : Int)) ∧ W9.cell? ⟨wr.heap.size, 2, none⟩ = some (.slice qA qsc.length qc)) ∧ W9.cell? ⟨gp, op + fnn * 5 + 3, none⟩ = some (.slice pvA pvs.length pvc)) (by kernel_rfl) (⟨⟨z0, z2⟩, zv⟩) (fun hHeld => ?_)
            refine heldTake (i := 0) (d := some 78) (v := ?_) rfl rfl (by kernel_rfl) (by kernel_rfl) (by kernel_rfl) (fun _ _ _ h => h) (by kernel_rfl) ?hyq_11 (by assumption) ?restq_11
            case hyq_11 => (intro W9 hSw; (try dsimp only at hSw); go_simp; try (with_reducible rfl))
            (try simp only [Act.put, List.setIfInBounds_toArray, List.set_cons_zero, List.set_cons_succ])
            refine heldTake (i := 1) (d := some 79) (v := ?_) rfl rfl (by kernel_rfl) (by kernel_rfl) (by kernel_rfl) (fun _ _ _ h => h) (by kernel_rfl) ?hyq_12 (by assumption) ?restq_12
            case hyq_12 => (intro W9 hSw; (try dsimp only at hSw); go_simp; try (with_reducible rfl))
            (try simp only [Act.put, List.setIfInBounds_toArray, List.set_cons_zero, List.set_cons_succ])
            refine heldTake (i := 2) (d := some 80) (v := ?_) rfl rfl (by kernel_rfl) (by kernel_rfl) (by kernel_rfl) (fun _ _ _ h => h) (by kernel_rfl) ?hyq_13 (by assumption) ?restq_13
            case hyq_13 => (intro W9 hSw; (try dsimp only at hSw); go_simp; try (with_reducible rfl))
            (try simp only [Act.put, List.setIfInBounds_toArray, List.set_cons_zero, List.set_cons_succ])
            refine heldTake (i := 3) (d := some 81) (v := ?_) rfl rfl (by kernel_rfl) (by kernel_rfl) (by kernel_rfl) (fun _ _ _ h => h) (by kernel_rfl) ?hyq_14 (by assumption) ?restq_14
            case hyq_14 => (intro W9 hSw; (try dsimp only at hSw); go_simp; try (with_reducible rfl))
            (try simp only [Act.put, List.setIfInBounds_toArray, List.set_cons_zero, List.set_cons_succ])
            refine heldTake (i := 4) (d := some 82) (v := ?_) rfl rfl (by kernel_rfl) (by kernel_rfl) (by kernel_rfl) (fun _ _ _ h => h) (by kernel_rfl) ?hyq_15 (by assumption) ?restq_15
            case hyq_15 => (intro W9 hSw; (try dsimp only at hSw); go_simp; try (with_reducible rfl))
            (try simp only [Act.put, List.setIfInBounds_toArray, List.set_cons_zero, List.set_cons_succ])
            refine heldTake (i := 5) (d := some 83) (v := ?_) rfl rfl (by kernel_rfl) (by kernel_rfl) (by kernel_rfl) (fun _ _ _ h => h) (by kernel_rfl) ?hyq_16 (by assumption) ?restq_16
            case hyq_16 => (intro W9 hSw; (try dsimp only at hSw); go_simp; try (with_reducible rfl))
            (try simp only [Act.put, List.setIfInBounds_toArray, List.set_cons_zero, List.set_cons_succ])
            refine heldTake (i := 6) (d := some 84) (v := ?_) rfl rfl (by kernel_rfl) (by kernel_rfl) (by kernel_rfl) (fun _ _ _ h => h) (by kernel_rfl) ?hyq_17 (by assumption) ?restq_17
            case hyq_17 => (intro W9 hSw; (try dsimp only at hSw); go_simp; try (with_reducible rfl))
            (try simp only [Act.put, List.setIfInBounds_toArray, List.set_cons_zero, List.set_cons_succ])
            refine heldTake (i := 7) (d := some 85) (v := ?_) rfl rfl (by kernel_rfl) (by kernel_rfl) (by kernel_rfl) (fun _ _ _ h => h) (by kernel_rfl) ?hyq_18 (by assumption) ?restq_18
            case hyq_18 => (intro W9 hSw; (try dsimp only at hSw); go_simp; try (with_reducible rfl))
            (try simp only [Act.put, List.setIfInBounds_toArray, List.set_cons_zero, List.set_cons_succ])
            refine heldTake (i := 8) (d := some 86) (v := ?_) rfl rfl (by kernel_rfl) (by kernel_rfl) (by kernel_rfl) (fun _ _ _ h => h) (by kernel_rfl) ?hyq_19 (by assumption) ?restq_19
            case hyq_19 => (intro W9 hSw; (try dsimp only at hSw); go_simp; try (with_reducible rfl))
            (try simp only [Act.put, List.setIfInBounds_toArray, List.set_cons_zero, List.set_cons_succ])
            refine wpAnyH_ready (rs := [9]) (by kernel_rfl) (by simp) ?_
            refine AllReadyH.cons rfl (fun K hK => ?_) AllReadyH.nil
            go_simp
            go_at_call 43
            refine (rise9_any qA qc qsc _ W2.drew HQN.out HQL.out).mono ?_
            rintro e9 X ⟨rfl, rfl⟩
            go_wp2_with fail
            refine hK.out _ _ (by assumption) (fun hHeld => ?_)
            clear hK K
            (try simp only [Act.put, List.setIfInBounds_toArray, List.set_cons_zero, List.set_cons_succ])
            refine heldTake (i := 10) (d := some 88) (v := ?_) rfl rfl (by kernel_rfl) (by kernel_rfl) (by kernel_rfl) (fun _ _ _ h => h) (by kernel_rfl) ?hyq_20 (by assumption) ?restq_20
            case hyq_20 => (intro W9 hSw; (try dsimp only at hSw); go_simp; try (with_reducible rfl))
            (try simp only [Act.put, List.setIfInBounds_toArray, List.set_cons_zero, List.set_cons_succ])
            refine wpAnyH_done (by kernel_rfl) ?_ _
            go_wp2_with fail
            go_roundw
            case rel => exact ⟨j + 1, by omega, by go_num, HB1.out.drew, HX⟩
            case measure => simp [intOf]; omega
        · have hji : (qs.length : Int) ≤ j := by omega
          have HX := Lib.hid (show b2 = true by rw [hr.out, List.drop_eq_nil_of_le (by omega)]; rfl)
          clear hr
          go_wp2_with fail
          go_ret
          exact ⟨by rw [HXB.out, HX.out]; rfl, hB.out⟩
end Go.Proofs.YtbkfkdiadeaooaaGreat

namespace Go.Proofs.YtbkfkdiadeaooaaGreat
open Go Go.RowKit

def inB (pc : Int) (p : Plc) : Bool := decide (p.fr ≤ pc ∧ pc < p.tt)
def inF (pc : Int) : Nat → List Plc → Int × Bool
  | _, [] => (0, false)
  | k, p :: l => if inB pc p = true then ((k : Int), true) else inF pc (k + 1) l
def InR (x : Int × Bool) (w : World) (e : Ending) (w' : World) : Prop := e = .returned (.tuple #[.int .i64 x.1, .bool x.2]) ∧ Below w.heap.size w w'
theorem inF_at {pc : Int} {l : List Plc} {k : Nat} (h : k < l.length) : inF pc k (l.drop k) = if inB pc l[k] = true then ((k : Int), true) else inF pc (k + 1) (l.drop (k + 1)) := by
  rw [List.drop_eq_getElem_cons h]; rfl

set_option maxRecDepth 100000 in
set_option maxHeartbeats 1000000 in
theorem in9_any (A : Option Addr) (c : Nat) (ps : List Pp) (pc : Int) (w : World) (hn : ps.length ≤ 1099511627776) (h : eL.Lies w w.heap.size A ps) :
    Calls Tryz.prog 13 #[.slice A ps.length c, .int .i64 pc] w (InR (inF pc 0 (ps.map Pp.d)) w) := by
  obtain ⟨r, hr0⟩ : ∃ r, inF pc 0 (ps.map Pp.d) = r := ⟨_, rfl⟩
  have H0 := Lib.hid (show r = inF pc 0 ((ps.map Pp.d).drop 0) from hr0.symm)
  rw [hr0]
  clear hr0
  go_enter Tryz.func13, Tryz.ntmps13
  go_wp2_with fail
  go_loopw [10] (fun i wr => ∃ k : Nat, k ≤ ps.length ∧ i = .int .i64 k ∧ Hid (Below w.heap.size w wr) ∧ Hid (r = inF pc k ((ps.map Pp.d).drop k))) (fun i _ => ps.length - (intOf i).toNat)
  case atStart => exact ⟨0, by omega, rfl, Below.refl _ _, H0⟩
  case round =>
    obtain ⟨k, hk, rfl, hB, hr⟩ := hrel
    clear H0
    by_cases hlt : k < ps.length
    · have hmk : k < (ps.map Pp.d).length := by simpa using hlt
      obtain ⟨g, o, rfl, hg, x0, x1, x2, x3, x4⟩ := eL_at (h.below hB.out) hlt
      have HE := Lib.hid (hr.out.trans (inF_at hmk))
      clear hr
      simp only [List.getElem_map] at HE
      generalize ps[k] = p at *
      have HB1 := Lib.hid (hB.out.trans ((below_lnew wr (.cells (lK p) 49)).mono hB.out.size))
      obtain ⟨nm, fr, tt, vs, vA, vc, ss, sA, sc⟩ := p
      unfold lK tv at HB1
      dsimp only at HB1 x0 x1 x2 x3 x4
      by_cases q1 : fr ≤ pc
      · by_cases q2 : pc < tt
        · have HX := Lib.hid (show r = ((k : Int), true) by rw [HE.out, if_pos (show inB pc (Pp.d ⟨nm, fr, tt, vs, vA, vc, ss, sA, sc⟩) = true from decide_eq_true ⟨q1, q2⟩)])
          clear HE
          go_wp2_with fail
          go_ret2
          exact ⟨by rw [HX.out]; rfl, HB1.out⟩
        · have HX := Lib.hid (show r = inF pc (k + 1) ((ps.map Pp.d).drop (k + 1)) by rw [HE.out, if_neg (by unfold inB; simp [Pp.d, q2])])
          clear HE
          go_wp2_with fail
          go_roundw
          case rel => exact ⟨k + 1, by omega, by go_num, HB1, HX⟩
          case measure => simp [intOf]; omega
      · have HX := Lib.hid (show r = inF pc (k + 1) ((ps.map Pp.d).drop (k + 1)) by rw [HE.out, if_neg (by unfold inB; simp [Pp.d, q1])])
        clear HE
        go_wp2_with fail
        go_roundw
        case rel => exact ⟨k + 1, by omega, by go_num, HB1, HX⟩
        case measure => simp [intOf]; omega
    · have hki : (ps.length : Int) ≤ k := by omega
      have HX := Lib.hid (show r = (0, false) by rw [hr.out, List.drop_eq_nil_of_le (by simp; omega)]; rfl)
      clear hr
      go_wp2_with fail
      go_ret2
      exact ⟨by rw [HX.out]; rfl, hB.out⟩
def goB (vs : List Vr) (nm : List UInt8) (k : Int) : Bool := decide (0 ≤ k) && match vs[k.toNat]? with | some v => decide (v.nm = nm) | none => false
def namF (vs : List Vr) (nm : List UInt8) : List Int → Int × Bool → Int × Bool
  | [], s => s
  | k :: l, s => namF vs nm l (if goB vs nm k = true then (k, true) else s)
def nmd (ls : List Plc) (qs : List Pnt) (pt : Int) (nm : List UInt8) : Int × Bool :=
  if pt < 0 then (0, false) else match qs[pt.toNat]? with
    | none => (0, false)
    | some q => if q.fn < 0 then (0, false) else match ls[q.fn.toNat]? with
      | none => (0, false)
      | some p => namF p.vs nm q.sc (0, false)
theorem nmd_neg {ls : List Plc} {qs : List Pnt} {pt : Int} {nm : List UInt8} (h : pt < 0) : nmd ls qs pt nm = (0, false) := by
  unfold nmd; rw [if_pos h]
theorem nmd_far {ls : List Plc} {qs : List Pnt} {pt : Int} {nm : List UInt8} (h0 : 0 ≤ pt) (h : (qs.length : Int) ≤ pt) : nmd ls qs pt nm = (0, false) := by
  unfold nmd; rw [if_neg (by omega), List.getElem?_eq_none (by omega)]
theorem nmd_at {ls : List Plc} {qs : List Pnt} {k : Nat} {nm : List UInt8} (h : k < qs.length) : nmd ls qs (k : Int) nm = if qs[k].fn < 0 then (0, false) else match ls[qs[k].fn.toNat]? with | none => (0, false) | some p => namF p.vs nm qs[k].sc (0, false) := by
  unfold nmd; rw [if_neg (by omega), Int.toNat_natCast, List.getElem?_eq_getElem h]
theorem goB_neg {vs : List Vr} {nm : List UInt8} {k : Int} (h : k < 0) : goB vs nm k = false := by
  unfold goB; rw [decide_eq_false (by omega)]; rfl
theorem goB_far {vs : List Vr} {nm : List UInt8} {k : Int} (h : (vs.length : Int) ≤ k) : goB vs nm k = false := by
  unfold goB; rw [List.getElem?_eq_none (by omega)]; simp
theorem goB_at {vs : List Vr} {nm : List UInt8} {k : Nat} (h : k < vs.length) : goB vs nm (k : Int) = decide (vs[k].nm = nm) := by
  unfold goB; rw [Int.toNat_natCast, List.getElem?_eq_getElem h, decide_eq_true (by omega), Bool.true_and]

end Go.Proofs.YtbkfkdiadeaooaaGreat

namespace Go.Proofs.YtbkfkdiadeaooaaGreat
open Go Go.RowKit

/-- numbers with their values, from the last one on -/
def bwd (l : List Int) : List (Nat × Int) := ((List.range l.length).zip l).reverse
theorem bwd_len (l : List Int) : (bwd l).length = l.length := by simp [bwd]
theorem bwd_at {l : List Int} {k : Nat} (h : k < l.length) : (bwd l)[k]? = some (l.length - 1 - k, l[l.length - 1 - k]) := by
  unfold bwd
  rw [List.getElem?_reverse (by simpa using h)]
  simp only [List.length_zip, List.length_range, Nat.min_self]
  rw [List.getElem?_eq_getElem (by simp; omega), List.getElem_zip, List.getElem_range]
def encB (q : Nat × Int) : Array Value := #[.int .i64 q.1, .int .i64 q.2]
def IntSeq (n0 gf : Nat) (lb : Array Value) (qs : List (Nat × Int)) (w : World) : Prop :=
  SeqC gf lb encB (fun _ => False) (fun k => k < n0) (fun pre x _ => Nxt qs pre x) (fun xs => xs = qs) w

set_option maxRecDepth 100000 in
set_option maxHeartbeats 4000000 in
theorem backward_seq (gb n0 c : Nat) (A : Option Addr) (l : List Int) (w : World) (hgb : gb < w.heap.size) (hc : w.cell? ⟨gb, 0, none⟩ = some (.slice A l.length c)) (hb0 : gb < n0) (hP : eI.Lies w n0 A l) (hn : n0 ≤ w.heap.size) (hsz : l.length ≤ 1099511627776) :
    IntSeq n0 55 #[.pointer (some ⟨gb, 0, none⟩)] (bwd l) w := by
  intro ll J Jx W hz hb hJ hJx hY h0
  have hcW := (hb.cell (p := ⟨gb, 0, none⟩) hgb).trans hc
  have hPW := Lib.hid (hP.below (hb.mono hn))
  have hzw := hb.size
  clear hc hP
  refine callsIn_of_wp Tryz.func55 rfl trivial ?_ rfl
  simp only [Tryz.ntmps55, List.size_toArray, List.length_cons, List.length_nil, Nat.reduceAdd, Nat.reduceSub, Array.replicate_succ, Array.replicate_zero, List.push_toArray, List.append_toArray, List.nil_append, List.cons_append]
  gi_wp2
  gi_loopw [3] (fun i wr => ∃ k : Nat, k ≤ l.length ∧ i = .int .i64 ((k : Int) - 1) ∧ Hid (J ((bwd l).take (l.length - k)) wr) ∧ Hid (eI.Lies wr n0 A l) ∧ Hid (wr.cell? ⟨gb, 0, none⟩ = some (.slice A l.length c)) ∧ n0 ≤ wr.heap.size) (fun i _ => (intOf i + 1).toNat)
  case atStart => exact ⟨l.length, Nat.le_refl _, rfl, by rw [Nat.sub_self]; exact h0, hPW, hcW, by omega⟩
  case round =>
    obtain ⟨k, hk, rfl, hJs, hPs, hcs, hnr⟩ := hrel
    by_cases hlt : 0 < k
    · obtain ⟨i, rfl⟩ : ∃ i, k = i + 1 := ⟨k - 1, by omega⟩
      rw [show (((i + 1 : Nat) : Int) - 1) = (i : Int) by omega]
      have hil : i < l.length := by omega
      obtain ⟨g, o, rfl, hg, c1⟩ := eI_at hPs.out hil
      have hat := bwd_at (l := l) (k := l.length - (i + 1)) (by omega)
      have hta := take_next hat
      rw [show l.length - (i + 1) + 1 = l.length - i by omega] at hta
      have hx : l[l.length - 1 - (l.length - (i + 1))]'(by omega) = l[i] := by congr 1; omega
      rw [hx, show l.length - 1 - (l.length - (i + 1)) = i by omega] at hat hta
      obtain ⟨fn, tmps, assign, body, hy, hR⟩ := hY _ _ wr wr hJs.out (Lets.refl _) (nxt_at hat)
      have HTA := Lib.hid hta
      have hc0 := hcs.out
      clear hta hat hx
      generalize l[i] = x at *
      unfold encB at *
      dsimp only at hy
      gi_wp2
      refine hR.mono ?_
      rintro e W3 (⟨rfl, hJ3, hk3⟩ | ⟨rfl, hJx3⟩)
      · have HB3 := Lib.hid (hk3.old (n := n0) (fun _ h => h) hnr)
        have hz3 := hk3.size
        clear hk3
        gi_wp2
        go_roundw
        case rel => exact ⟨i, by omega, by go_num, by rw [← HTA.out]; exact hJ3, hPs.out.below HB3.out, (HB3.out.cell (p := ⟨gb, 0, none⟩) hb0).trans hc0, by omega⟩
        case measure => simp [intOf]
      · gi_wp2
        refine bodyPost_ret (results_none rfl _ _ _) rfl ?_
        exact ⟨⟨_, rfl⟩, .inr ⟨_, hJx3⟩⟩
    · obtain rfl : k = 0 := by omega
      gi_wp2
      go_end0
      refine ⟨⟨_, rfl⟩, .inl ⟨_, rfl, ?_⟩⟩
      have := hJs.out
      rwa [Nat.sub_zero, ← bwd_len l, List.take_length] at this
set_option maxHeartbeats 1000000 in
theorem backward_any (A : Option Addr) (n c : Nat) (w : World) : Calls Tryz.prog 32 #[.slice A n c] w fun e w' => e = .returned (.func (.func 55) #[] #[.pointer (some ⟨w.heap.size, 0, none⟩)]) ∧ w.alloc (.cells #[.slice A n c] 53) = w' := by
  go_enter Tryz.func32, Tryz.ntmps32
  go_wp2
  go_ret
  exact ⟨rfl, rfl⟩
end Go.Proofs.YtbkfkdiadeaooaaGreat
