/-
  Merged for a claim: T9T.
-/
import Derived.BigQuiet
import Derived.Test.YtbkfkdiadeaooaaGreatHJ21
import Derived.Test.YtbkfkdiadeaooaaGreatHJ12
import Derived.Test.YtbkfkdiadeaooaaGreatHL7P
import Derived.Test.YtbkfkdiadeaooaaGreatHJ18
namespace Go.Proofs.YtbkfkdiadeaooaaGreat
open Go Go.RowKit

def lastT : Int → List Sp → Int
  | l, [] => l
  | _, y :: ys => lastT y.t ys
theorem spans_in : ∀ (xs : List Sp) (a : Int), ((a :: xs.map Sp.t).zip xs).all okS = true → (∀ y ∈ xs, a ≤ y.f ∧ y.t ≤ lastT a xs) ∧ a ≤ lastT a xs
  | [], a, _ => ⟨fun y hy => absurd hy (by simp), Int.le_refl _⟩
  | x :: xs, a, h => by
    have h' : (okS (a, x) && ((x.t :: xs.map Sp.t).zip xs).all okS) = true := h
    rw [Bool.and_eq_true] at h'
    have h1 := h'.1
    unfold okS at h1
    rw [Bool.and_eq_true, Bool.and_eq_true] at h1
    have q1 : a ≤ x.f := of_decide_eq_true h1.1
    have q2 : x.f < x.t := of_decide_eq_true h1.2.1
    obtain ⟨i1, i2⟩ := spans_in xs x.t h'.2
    refine ⟨fun y hy => ?_, by show a ≤ lastT x.t xs; omega⟩
    show a ≤ y.f ∧ y.t ≤ lastT x.t xs
    rcases List.mem_cons.1 hy with rfl | hy
    · exact ⟨q1, i2⟩
    · have := i1 y hy; omega
theorem lastT_get : ∀ (xs : List Sp) (a : Int) (h : 0 < xs.length), lastT a xs = (xs[xs.length - 1]'(by omega)).t
  | [x], a, _ => rfl
  | x :: y :: xs, a, h => by
    have := lastT_get (y :: xs) x.t (by simp)
    show lastT x.t (y :: xs) = _
    rw [this]
    rfl
theorem any_out {x : Sp} {xs : List Sp} {fr tt : Int} (h : rightL (x :: xs) = true) : (x :: xs).any (outB fr tt) = (decide (x.f < fr) || decide (tt < ((x :: xs)[(x :: xs).length - 1]'(by simp)).t)) := by
  unfold rightL prS at h
  rw [Bool.and_eq_true] at h
  have h2 : (okS (0, x) && ((x.t :: xs.map Sp.t).zip xs).all okS) = true := h.2
  rw [Bool.and_eq_true] at h2
  have h1 := h2.1
  unfold okS at h1
  rw [Bool.and_eq_true, Bool.and_eq_true] at h1
  have q2 : x.f < x.t := of_decide_eq_true h1.2.1
  obtain ⟨i1, i2⟩ := spans_in xs x.t h2.2
  rw [← lastT_get (x :: xs) 0 (by simp)]
  show _ = (decide (x.f < fr) || decide (tt < lastT x.t xs))
  by_cases c1 : x.f < fr
  · rw [decide_eq_true c1, Bool.true_or, List.any_cons]
    unfold outB
    rw [decide_eq_true c1, Bool.true_or, Bool.true_or]
  · by_cases c2 : tt < lastT x.t xs
    · rw [decide_eq_true c2, Bool.or_true]
      have hm : ∃ y ∈ x :: xs, y.t = lastT x.t xs := by
        have e := lastT_get (x :: xs) 0 (by simp)
        exact ⟨_, List.getElem_mem (by simp), e.symm⟩
      obtain ⟨y, hy, ey⟩ := hm
      refine List.any_eq_true.2 ⟨y, hy, ?_⟩
      unfold outB
      rw [decide_eq_true (p := tt < y.t) (by omega), Bool.or_true]
    · rw [decide_eq_false c1, decide_eq_false c2, Bool.false_or]
      refine List.any_eq_false.2 fun y hy => ?_
      unfold outB
      rcases List.mem_cons.1 hy with rfl | hy
      · rw [decide_eq_false c1, decide_eq_false (by omega)]; decide
      · have := i1 y hy
        rw [decide_eq_false (by omega), decide_eq_false (by omega)]; decide
theorem vsB_right {fr tt : Int} {v : Vr} {l : List Sp} (h1 : varB v = true) (h2 : rightL l = true) : vsB fr tt (v, l) = !(l.any (outB fr tt)) := by
  unfold vsB; rw [h1, h2, Bool.true_and, Bool.true_and]
/-- a place whose lists and texts are no longer than may be counted -/
def SmPl (p : Pp) : Prop := SmP p ∧ p.nm.length ≤ 4611686018427387903 ∧ p.vs.length ≤ 1099511627776 ∧ p.ss.length ≤ 1099511627776 ∧ ∀ v ∈ p.vs, SmV v.d

set_option maxRecDepth 100000 in
set_option maxHeartbeats 8000000 in
theorem refPlace9_any (p : Pp) (a : Int) (w : World) (hs : SmPl p) (h : PL w w.heap.size p) :
    Calls Tryz.prog 48 #[lV p, .int .i64 a] w (BoolR (okL a p.d) w) := by
  have HO0 := Lib.hid (show okL a p.d = (decide (a ≤ p.fr ∧ p.fr < p.tt ∧ p.tt ≤ 16777216) && (nameB p.nm && holdB p.d)) from rfl)
  have HHN := Lib.hid (fun e => hold_no (p := p.d) e)
  have HHS := Lib.hid (fun e => hold_start (p := p) e)
  have HH := Lib.hid h
  have HS := Lib.hid hs
  clear h hs
  obtain ⟨ob, hob⟩ : ∃ ob, okL a p.d = ob := ⟨_, rfl⟩
  obtain ⟨hbv, hhb⟩ : ∃ hbv, holdB p.d = hbv := ⟨_, rfl⟩
  rw [hob] at HO0 ⊢
  rw [hhb] at HO0 HHN HHS
  clear hob hhb
  obtain ⟨nm, fr, tt, vs, vA, vc, ss, sA, sc⟩ := p
  have hb := below_lnew w (.cells (lK ⟨nm, fr, tt, vs, vA, vc, ss, sA, sc⟩) 49)
  have hw1 := heap_alloc_new w (.cells (lK ⟨nm, fr, tt, vs, vA, vc, ss, sA, sc⟩) 49)
  have HP := Lib.hid ((HH.out.below hb).more hb.size)
  unfold lV
  unfold lK tv at hb hw1 HP ⊢
  dsimp only [Pp.d] at hb hw1 HP HHN HHS HS HO0 ⊢
  obtain ⟨W, hW⟩ : ∃ W, w.alloc (.cells #[.string (str nm), .int .i64 fr, .int .i64 tt, .slice vA vs.length vc, .slice sA ss.length sc] 49) = W := ⟨_, rfl⟩
  have hz : w.heap.size < W.heap.size := by rw [← hW]; simp
  rw [hW] at hb hw1 HP
  obtain ⟨c0, c1, c2, c3, c4⟩ : (W.cell? ⟨w.heap.size, 0, none⟩ = some (.string (str nm)) ∧ W.cell? ⟨w.heap.size, 1, none⟩ = some (.int .i64 fr) ∧ W.cell? ⟨w.heap.size, 2, none⟩ = some (.int .i64 tt) ∧ W.cell? ⟨w.heap.size, 3, none⟩ = some (.slice vA vs.length vc) ∧ W.cell? ⟨w.heap.size, 4, none⟩ = some (.slice sA ss.length sc)) := by
    simp [World.cell?, hw1]
  have HB := Lib.hid hb
  clear hb hw1 HH
  go_enter Tryz.func48, Tryz.ntmps48
  go_wp2_with fail
  (try clear hW)
  refine (refName9_any nm W HS.out.2.1).mono ?_
  rintro e w' ⟨rfl, rfl⟩
  cases hnm : nameB nm with
  | false =>
    have HR := Lib.hid (show ob = false by rw [HO0.out, hnm]; simp)
    clear HO0 hnm HHN HHS
    go_wp2_with fail
    go_ret
    exact ⟨by rw [HR.out]; rfl, HB.out⟩
  | true =>
    have HNM := Lib.hid hnm
    clear hnm
    by_cases k1 : fr < a
    · have HR := Lib.hid (show ob = false by rw [HO0.out, decide_eq_false (by omega), Bool.false_and])
      clear HO0 HNM HHN HHS
      go_wp2_with fail
      go_ret
      exact ⟨by rw [HR.out]; rfl, HB.out⟩
    by_cases k2 : tt ≤ fr
    · have HR := Lib.hid (show ob = false by rw [HO0.out, decide_eq_false (by omega), Bool.false_and])
      clear HO0 HNM HHN HHS
      go_wp2_with fail
      go_ret
      exact ⟨by rw [HR.out]; rfl, HB.out⟩
    by_cases k3 : 16777216 < tt
    · have HR := Lib.hid (show ob = false by rw [HO0.out, decide_eq_false (by omega), Bool.false_and])
      clear HO0 HNM HHN HHS
      go_wp2_with fail
      go_ret
      exact ⟨by rw [HR.out]; rfl, HB.out⟩
    have HO1 := Lib.hid (show ob = hbv by rw [HO0.out, decide_eq_true (by omega), HNM.out, Bool.true_and, Bool.true_and])
    clear HO0 HNM
    by_cases k4 : (64 : Int) < vs.length
    · have HR := Lib.hid (show ob = false by rw [HO1.out]; exact HHN.out (by simp only [List.length_map]; omega))
      clear HO1 HHN HHS
      go_wp2_with fail
      go_ret
      exact ⟨by rw [HR.out]; rfl, HB.out⟩
    by_cases k5 : (ss.length : Int) = vs.length
    rotate_left
    · have HR := Lib.hid (show ob = false by rw [HO1.out]; exact HHN.out (by simp only [List.length_map]; omega))
      have k5b : ((ss.length : Int) != (vs.length : Int)) = true := bne_iff_ne.2 k5
      clear HO1 HHN HHS
      go_wp2_with fail
      go_ret
      exact ⟨by rw [HR.out]; rfl, HB.out⟩
    have hlen : ss.length = vs.length := by omega
    have HL := Lib.hid (HO1.out.trans (HHS.out ⟨by omega, hlen⟩))
    have HLEN := Lib.hid hlen
    clear HO1 HHN HHS hlen
    have k5b : ((ss.length : Int) != (vs.length : Int)) = false := by rw [k5]; exact bne_self_eq_false _
    have HK5 := Lib.hid k5
    clear k5
    go_wp2_with fail
    go_loopw [5] (fun i wr => ∃ k : Nat, k ≤ vs.length ∧ i = .int .i64 k ∧ Hid (Below W.heap.size W wr) ∧ Hid (ob = ((vs.zip ss).drop k).all (fun q => vsB fr tt (prV q)))) (fun i _ => vs.length - (intOf i).toNat)
    case atStart => exact ⟨0, by omega, rfl, Below.refl _ _, HL⟩
    case round =>
      obtain ⟨k, hk, rfl, hB, hr⟩ := hrel
      obtain ⟨w5, rfl⟩ : ∃ x, x = wr := ⟨_, rfl⟩
      clear HL
      have hzz := hB.out.size
      have d1 := (hB.out.cell (p := ⟨w.heap.size, 1, none⟩) hz).trans c1
      have d2 := (hB.out.cell (p := ⟨w.heap.size, 2, none⟩) hz).trans c2
      have d3 := (hB.out.cell (p := ⟨w.heap.size, 3, none⟩) hz).trans c3
      have d4 := (hB.out.cell (p := ⟨w.heap.size, 4, none⟩) hz).trans c4
      by_cases hlt : k < vs.length
      · have hlt2 : k < ss.length := by have := HLEN.out; omega
        have hz2 : k < (vs.zip ss).length := by rw [List.length_zip]; omega
        obtain ⟨g, o, rfl, hg, x0, x1, x2, x3, x4, x5⟩ := eV_at (HP.out.v.below hB.out) hlt
        obtain ⟨gr, orr, rfl, hgr, y0⟩ := eR_at (HP.out.s.below hB.out) hlt2
        have HVX := Lib.hid (((HP.out.vs _ (List.getElem_mem hlt)).below hB.out).more hzz)
        have HRX := Lib.hid (((HP.out.ss _ (List.getElem_mem hlt2)).below hB.out).more hzz)
        have HSV := Lib.hid (HS.out.2.2.2.2 _ (List.getElem_mem hlt))
        have HSR := Lib.hid (HS.out.1 _ (List.getElem_mem hlt2))
        have hgz : (vs.zip ss)[k] = (vs[k], ss[k]) := List.getElem_zip
        have HN := Lib.hid (fun (hp : vsB fr tt (vs[k].d, ss[k].d) = true) => all_step hz2 hr.out (by rw [hgz]; exact hp))
        have HF := Lib.hid (fun (hp : vsB fr tt (vs[k].d, ss[k].d) = false) => all_stop hz2 hr.out (by rw [hgz]; exact hp))
        have HCV := Lib.hid (refRightVar_any (vs[k]) w5 HSV.out HVX.out)
        clear hr hgz hz2
        generalize vs[k] = x at *
        generalize ss[k] = r at *
        obtain ⟨⟨xnm, xkd, xn, xtn, xwd, xfs⟩, xA, xc⟩ := x
        obtain ⟨rl, rA, rc⟩ := r
        dsimp only at x0 x1 x2 x3 x4 x5 y0
        unfold vV at HCV
        unfold vK tv BoolR at HCV
        dsimp only at HCV
        go_wp2_with fail
        refine HCV.out.mono ?_
        rintro e w6 ⟨rfl, hb6⟩
        have HB6 := Lib.hid (hB.out.trans (hb6.mono hzz))
        have HRX6 := Lib.hid ((HRX.out.below hb6).more hb6.size)
        have e1 := (hb6.cell (p := ⟨w.heap.size, 1, none⟩) (Nat.lt_of_lt_of_le hz hzz)).trans d1
        have e2 := (hb6.cell (p := ⟨w.heap.size, 2, none⟩) (Nat.lt_of_lt_of_le hz hzz)).trans d2
        have hz6 := HB6.out.size
        clear HCV hb6 d1 d2 d3 d4 x0 x1 x2 x3 x4 x5 y0
        cases hvb : varB ⟨xnm, xkd, xn, xtn, xwd, xfs⟩ with
        | false =>
          have HR := Lib.hid (show ob = false from HF.out (by unfold vsB; rw [hvb]; rfl))
          clear hvb HN HF
          go_wp2_with fail
          go_ret
          exact ⟨by rw [HR.out]; rfl, HB.out.trans (HB6.out.mono HB.out.size)⟩
        | true =>
          have HVB := Lib.hid hvb
          have HCR := Lib.hid (refRight7_any rA rc rl w6 HSR.out HRX6.out.1)
          unfold BoolR at HCR
          clear hvb
          go_wp2_with fail
          refine HCR.out.mono ?_
          rintro e w7 ⟨rfl, hb7⟩
          have HB7 := Lib.hid (HB6.out.trans (hb7.mono hz6))
          have HRX7 := Lib.hid ((HRX6.out.below hb7).more hb7.size)
          have f1 := (hb7.cell (p := ⟨w.heap.size, 1, none⟩) (Nat.lt_of_lt_of_le hz hz6)).trans e1
          have f2 := (hb7.cell (p := ⟨w.heap.size, 2, none⟩) (Nat.lt_of_lt_of_le hz hz6)).trans e2
          clear HCR hb7 e1 e2
          cases hrl : rightL (rl.map Ps.sp) with
          | false =>
            have HR := Lib.hid (show ob = false from HF.out (by unfold vsB; rw [HVB.out, show rightL (Rs.d ⟨rl, rA, rc⟩) = false from hrl]; rfl))
            clear hrl HN HF
            go_wp2_with fail
            go_ret
            exact ⟨by rw [HR.out]; rfl, HB.out.trans (HB7.out.mono HB.out.size)⟩
          | true =>
            have HRL := Lib.hid hrl
            clear hrl
            by_cases hr0 : rl = []
            · subst hr0
              have HR := Lib.hid (HN.out ((vsB_right (l := []) HVB.out HRL.out).trans rfl))
              clear HN HF HRL
              go_wp2_with fail
              go_quiet (fail)
              have hbq := below_draws (B := w7.heap.size) (w := w7) nq
              have HBQ := Lib.hid (HB7.out.trans (hbq.mono HB7.out.size))
              clear hbq
              go_wp2_with fail
              go_roundw
              case rel => exact ⟨k + 1, by omega, by go_num, HBQ, HR⟩
              case measure => simp [intOf]; omega
            · obtain ⟨x, xs, rfl⟩ := List.exists_cons_of_ne_nil hr0
              have hao := any_out (x := x.sp) (xs := xs.map Ps.sp) (fr := fr) (tt := tt) HRL.out
              obtain ⟨m, hm⟩ : ∃ m, (x :: xs).length = m + 1 := ⟨xs.length, rfl⟩
              have hml : m < (x :: xs).length := by omega
              obtain ⟨g1, o1, rfl, hg1, z0, zz1, zz2⟩ := HRX7.out.1.1.at_ (j := 0) (by simp)
              obtain ⟨g2, o2, e2, zz3, z2, z1, zz4⟩ := HRX7.out.1.1.at_ (j := m) hml
              cases e2
              obtain ⟨y, hy⟩ : ∃ y, (x :: xs)[m] = y := ⟨_, rfl⟩
              have hyt : ((x.sp :: xs.map Ps.sp)[(x.sp :: xs.map Ps.sp).length - 1]'(by simp)).t = y.t := by
                have h1 : (x.sp :: xs.map Ps.sp) = (x :: xs).map Ps.sp := rfl
                have h2 : ((x :: xs).map Ps.sp)[m]'(by rw [List.length_map]; exact hml) = y.sp := by rw [List.getElem_map, hy]
                have h3 : (x.sp :: xs.map Ps.sp).length - 1 = m := by rw [h1, List.length_map, hm]; rfl
                simp only [h3]
                exact congrArg Sp.t h2
              rw [hyt] at hao
              have HAO := Lib.hid (show vsB fr tt (⟨xnm, xkd, xn, xtn, xwd, xfs⟩, x.sp :: xs.map Ps.sp) = !(decide (x.f < fr) || decide (tt < y.t)) from (vsB_right (l := x.sp :: xs.map Ps.sp) HVB.out HRL.out).trans (congrArg _ hao))
              have z0 : w7.cell? ⟨g1, o1, none⟩ = some (.int .i64 x.f) := by simpa using z0
              rw [hy] at z1
              have hnn := rightL_sm (ps := x :: xs) HRL.out
              obtain ⟨n, hn⟩ : ∃ n, (x :: xs).length = n := ⟨_, rfl⟩
              have hw : IntKind.i64.wrap ((n : Int) - 1) = (m : Int) := by have := hnn.1; rw [IntKind.wrap_i64]; omega
              have hmi : (m : Int) < n := by omega
              have hn0 : (0 : Int) < n := by omega
              have hmn : m < n := by omega
              have hnp : 0 < n := by omega
              rw [hn]
              clear zz1 zz2 zz4 z2 hao hyt hy hr0 hnn hn hm hml HRX7 HRX6 HRX HRL
              by_cases q1 : x.f < fr
              · have HR := Lib.hid (HF.out (by show vsB fr tt (_, x.sp :: xs.map Ps.sp) = false; rw [HAO.out, decide_eq_true q1]; rfl))
                clear HN HF HAO
                go_wp2_with fail
                go_quiet (fail)
                have hbq := below_draws (B := w7.heap.size) (w := w7) nq
                have HBQ := Lib.hid (HB7.out.trans (hbq.mono HB7.out.size))
                clear hbq
                go_wp2_with fail
                go_ret
                exact ⟨by rw [HR.out]; rfl, HB.out.trans (HBQ.out.mono HB.out.size)⟩
              by_cases q2 : tt < y.t
              · have HR := Lib.hid (HF.out (by show vsB fr tt (_, x.sp :: xs.map Ps.sp) = false; rw [HAO.out, decide_eq_true q2, Bool.or_true]; rfl))
                clear HN HF HAO
                go_wp2_with fail
                go_quiet (fail)
                have hbq := below_draws (B := w7.heap.size) (w := w7) nq
                have HBQ := Lib.hid (HB7.out.trans (hbq.mono HB7.out.size))
                clear hbq
                go_wp2_with fail
                go_ret
                exact ⟨by rw [HR.out]; rfl, HB.out.trans (HBQ.out.mono HB.out.size)⟩
              have HR := Lib.hid (HN.out (by show vsB fr tt (_, x.sp :: xs.map Ps.sp) = true; rw [HAO.out, decide_eq_false q1, decide_eq_false q2]; rfl))
              clear HN HF HAO
              go_wp2_with fail
              go_quiet (fail)
              have hbq := below_draws (B := w7.heap.size) (w := w7) nq
              have HBQ := Lib.hid (HB7.out.trans (hbq.mono HB7.out.size))
              clear hbq
              go_wp2_with fail
              go_roundw
              case rel => exact ⟨k + 1, by omega, by go_num, HBQ, HR⟩
              case measure => simp [intOf]; omega
      · obtain rfl : k = vs.length := by omega
        have HR := Lib.hid (show ob = true by rw [hr.out, List.drop_of_length_le (by rw [List.length_zip]; omega)]; rfl)
        clear hr
        go_wp2_with fail
        go_ret
        exact ⟨by rw [HR.out]; rfl, HB.out.trans (hB.out.mono HB.out.size)⟩
end Go.Proofs.YtbkfkdiadeaooaaGreat
