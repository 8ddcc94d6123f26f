/-
  Merged for a claim: T7R, T9F.
-/
import Derived.Test.YtjagjkogloggpaaGreatHL7L
import Derived.Lib.MinMax
import Derived.Test.YtjagjkogloggpaaGreatHT9E
namespace Go.Proofs.YtjagjkogloggpaaGreat
open Go Go.RowKit

/-- few and short enough for a law -/
def Few (ps : List Ps) : Prop := ps.length ≤ 5000 ∧ ∀ p ∈ ps, p.a.length ≤ 1000
def VastR7 (ps : List Ps) (w : World) (e : Ending) (w' : World) : Prop := ∃ b : Bool, e = .returned (.bool b) ∧ Below w.heap.size w w' ∧ (b = false → Few ps)
set_option maxRecDepth 100000 in
set_option maxHeartbeats 2000000 in
theorem vast7_any (A : Option Addr) (c : Nat) (ps : List Ps) (w : World) (h : PLies w w.heap.size A ps) : Calls Tryz.prog 57 #[.slice A ps.length c] w (VastR7 ps w) := by
  go_enter Tryz.func57, Tryz.ntmps57
  go_wp2
  go_loopw [3, 4] (fun v i wr => ∃ (k : Nat) (n : Int), k ≤ ps.length ∧ k ≤ 5001 ∧ i = .int .i64 k ∧ v = .int .i64 n ∧ 0 ≤ n ∧ n ≤ 1000 * k ∧ Hid (∀ p ∈ ps.take k, p.a.length ≤ 1000) ∧ Hid (Below w.heap.size w wr)) (fun _ i _ => 5002 - (intOf i).toNat)
  case atStart => exact ⟨0, 0, by omega, by omega, rfl, rfl, by omega, by omega, fun p hp => absurd hp (by simp), Below.refl _ _⟩
  case round =>
    obtain ⟨k, n, hk, hk5, rfl, rfl, hn0, hn1, hP, hB⟩ := hrel
    by_cases hlt : k < ps.length
    · have hlti : (k : Int) < ps.length := by omega
      by_cases h5 : k ≤ 5000
      · have h5i : (k : Int) ≤ 5000 := by omega
        obtain ⟨g, o, rfl, hg, c1, c2', c3⟩ := (h.below hB.out).at_ hlt
        have HP := Lib.hid (fun (e : ps[k].a.length ≤ 1000) => show ∀ p ∈ ps.take (k + 1), p.a.length ≤ 1000 from fun p hp => by
          rw [← List.take_append_getElem hlt] at hp
          rcases List.mem_append.1 hp with hp | hp
          · exact hP.out p hp
          · rw [List.mem_singleton] at hp
            rw [hp]
            exact e)
        generalize ps[k] = p at *
        obtain ⟨pf, pt, pa, pA, pc⟩ := p
        dsimp only at c1 c2' c3 HP
        by_cases hbig : 1000 < pa.length
        · have hbi : (1000 : Int) < pa.length := by omega
          go_wp2
          go_ret
          exact ⟨true, rfl, hB.out, fun e => by cases e⟩
        · have hbi : (pa.length : Int) ≤ 1000 := by omega
          have HS := Lib.hid (HP.out (by omega))
          clear HP
          go_wp2
          go_roundw
          case rel => exact ⟨k + 1, n + min (pa.length : Int) 1000, by omega, by omega, by go_num, by go_num, by omega, by omega, HS, hB⟩
          case measure => simp [intOf]; omega
      · have h5i : ¬ (k : Int) ≤ 5000 := by omega
        have hbi : (5000 : Int) < ps.length := by omega
        go_wp2
        go_ret
        exact ⟨true, rfl, hB.out, fun e => by cases e⟩
    · have hkl : k = ps.length := by omega
      have hlti : ¬ (k : Int) < ps.length := by omega
      have HK := Lib.hid hkl
      clear hkl
      by_cases hbig : 5000 < ps.length
      · have hbi : (5000 : Int) < ps.length := by omega
        go_wp2
        go_ret
        exact ⟨true, rfl, hB.out, fun e => by cases e⟩
      · have hbi : (ps.length : Int) ≤ 5000 := by omega
        have HF := Lib.hid (show Few ps from ⟨by omega, by have := hP.out; rwa [HK.out, List.take_length] at this⟩)
        go_wp2
        go_ret
        exact ⟨_, rfl, hB.out, fun _ => HF.out⟩
theorem Few.sm {ps : List Ps} (h : Few ps) : Sm ps := ⟨by have := h.1; omega, fun p hp => by have := h.2 p hp; omega⟩
end Go.Proofs.YtjagjkogloggpaaGreat

namespace Go.Proofs.YtjagjkogloggpaaGreat
open Go Go.RowKit

def FewT (ps : List Pp) (qs : List Pq) : Prop := ps.length ≤ 1000000 ∧ qs.length ≤ 1000000 ∧ (∀ p ∈ ps, FewP p) ∧ ∀ q ∈ qs, q.d.sc.length ≤ 1000000
def VastR9 (ps : List Pp) (qs : List Pq) (w : World) (e : Ending) (w' : World) : Prop := ∃ b : Bool, e = .returned (.bool b) ∧ Below w.heap.size w w' ∧ (b = false → FewT ps qs)
theorem take_all {α : Type} {l : List α} {P : α → Prop} {k : Nat} (h : ∀ x ∈ l.take k, P x) (hk : k < l.length) (hx : P l[k]) : ∀ x ∈ l.take (k + 1), P x := fun x hp => by
  rw [← List.take_append_getElem hk] at hp
  rcases List.mem_append.1 hp with hp | hp
  · exact h x hp
  · rw [List.mem_singleton] at hp
    rw [hp]
    exact hx
theorem few_one {p : Pp} (h1 : p.vs.length ≤ 100) (h2 : p.ss.length ≤ 100) (h3 : ∀ v ∈ p.vs, v.d.fs.length ≤ 2000) (h4 : ∀ r ∈ p.ss, Few r.l) : FewP p :=
  ⟨fun r hr => (h4 r hr).sm, by omega, by omega, fun v hv => by have := h3 v hv; omega, fun r hr => by have := (h4 r hr).1; omega⟩
theorem vast7_b (A : Option Addr) (c : Nat) (r : List Ps) (w : World) (B : Nat) (hB : B ≤ w.heap.size) (h : SLies w B A r) : Calls Tryz.prog 57 #[.slice A r.length c] w (VastR7 r w) :=
  vast7_any A c r w (h.1.more hB)

set_option maxRecDepth 100000 in
set_option maxHeartbeats 8000000 in
theorem vast9_any (A A2 : Option Addr) (c c2 : Nat) (ps : List Pp) (qs : List Pq) (w : World) (h : TL w w.heap.size A ps) (h2 : UL w w.heap.size A2 qs) :
    Calls Tryz.prog 19 #[.agg #[.slice A ps.length c, .slice A2 qs.length c2]] w (VastR9 ps qs w) := by
  have hb1 := below_lnew w (.cells #[.slice A ps.length c, .slice A2 qs.length c2] 35)
  have hc1 : CAt (w.alloc (.cells #[.slice A ps.length c, .slice A2 qs.length c2] 35)) w.heap.size _ [_, _] := heap_alloc_new w (.cells #[.slice A ps.length c, .slice A2 qs.length c2] 35)
  obtain ⟨w1, hw1⟩ : ∃ x, x = w.alloc (.cells #[.slice A ps.length c, .slice A2 qs.length c2] 35) := ⟨_, rfl⟩
  have hz1 : w.heap.size < w1.heap.size := by rw [hw1]; simp
  rw [← hw1] at hb1 hc1
  have t0 := hc1.cell (j := 0) (by simp)
  have t1 := hc1.cell (j := 1) (by simp)
  simp only [List.getElem_cons_zero, List.getElem_cons_succ] at t0 t1
  have H := Lib.hid ((h.below hb1).more hb1.size)
  have H2 := Lib.hid ((h2.below hb1).more hb1.size)
  have HB1 := Lib.hid hb1
  clear h h2 hb1 hc1
  go_enter Tryz.func19, Tryz.ntmps19
  by_cases q1 : (100 : Int) < ps.length
  · go_wp2
    go_ret
    exact ⟨true, rfl, by rw [← hw1]; exact HB1.out, fun e => by cases e⟩
  by_cases q2 : (1100 : Int) < qs.length
  · go_wp2
    go_ret
    exact ⟨true, rfl, by rw [← hw1]; exact HB1.out, fun e => by cases e⟩
  go_wp2
  rw [← hw1]
  clear hw1
  go_loopw [3, 4] (fun n i wr => ∃ (k : Nat) (N : Int), k ≤ ps.length ∧ i = .int .i64 k ∧ n = .int .i64 N ∧ 0 ≤ N ∧ N ≤ 2000 ∧ Hid (∀ p ∈ ps.take k, FewP p) ∧ Hid (Below w1.heap.size w1 wr)) (fun _ i _ => ps.length - (intOf i).toNat)
  case atStart => exact ⟨0, 0, by omega, rfl, rfl, by omega, by omega, fun p hp => absurd hp (by simp), Below.refl _ _⟩
  case round =>
    obtain ⟨k, N, hk, rfl, rfl, hN0, hN1, hF, hB⟩ := hrel
    obtain ⟨w2, rfl⟩ : ∃ x, x = wr := ⟨_, rfl⟩
    have t02 := (hB.out.cell (p := ⟨w.heap.size, 0, none⟩) hz1).trans t0
    have t12 := (hB.out.cell (p := ⟨w.heap.size, 1, none⟩) hz1).trans t1
    have hz2 := hB.out.size
    by_cases hlt : k < ps.length
    · obtain ⟨g, o, rfl, hg, c0, c1, c2', c3, c4⟩ := eL_at (H.out.1.below hB.out) hlt
      have HM := Lib.hid (((H.out.2 _ (List.getElem_mem hlt)).below hB.out).more hz2)
      have HF := Lib.hid (take_all hF.out hlt)
      generalize ps[k] = p at *
      obtain ⟨nm, fr, tt, vs, vA, vc, ss, sA, sc⟩ := p
      have hbn := below_lnew w2 (.cells #[.string (str nm), .int .i64 fr, .int .i64 tt, .slice vA vs.length vc, .slice sA ss.length sc] 51)
      have hcn : CAt (w2.alloc (.cells #[.string (str nm), .int .i64 fr, .int .i64 tt, .slice vA vs.length vc, .slice sA ss.length sc] 51)) w2.heap.size _ [_, _, _, _, _] := heap_alloc_new w2 (.cells #[.string (str nm), .int .i64 fr, .int .i64 tt, .slice vA vs.length vc, .slice sA ss.length sc] 51)
      dsimp only at c0 c1 c2' c3 c4
      obtain ⟨w3, hw3⟩ : ∃ x, x = w2.alloc (.cells #[.string (str nm), .int .i64 fr, .int .i64 tt, .slice vA vs.length vc, .slice sA ss.length sc] 51) := ⟨_, rfl⟩
      have hz3 : w2.heap.size < w3.heap.size := by rw [hw3]; simp
      have hz3' : w2.heap.size + 1 = w3.heap.size := by rw [hw3]; simp
      have HZ3 := Lib.hid hz3'
      clear hz3'
      rw [← hw3] at hbn hcn
      have HM3 := Lib.hid ((HM.out.below hbn).more hbn.size)
      have HB3 := Lib.hid (hB.out.trans (hbn.mono hz2))
      have d0 := hcn.cell (j := 0) (by simp)
      have d3 := hcn.cell (j := 3) (by simp)
      have d4 := hcn.cell (j := 4) (by simp)
      simp only [List.getElem_cons_zero, List.getElem_cons_succ] at d0 d3 d4
      clear hbn hcn
      by_cases r1 : (1000 : Int) < (str nm).size
      · go_wp2
        go_ret
        exact ⟨true, rfl, by rw [← hw3]; exact HB1.out.trans (HB3.out.mono HB1.out.size), fun e => by cases e⟩
      by_cases r2 : (100 : Int) < vs.length
      · go_wp2
        go_ret
        exact ⟨true, rfl, by rw [← hw3]; exact HB1.out.trans (HB3.out.mono HB1.out.size), fun e => by cases e⟩
      by_cases r3 : (100 : Int) < ss.length
      · go_wp2
        go_ret
        exact ⟨true, rfl, by rw [← hw3]; exact HB1.out.trans (HB3.out.mono HB1.out.size), fun e => by cases e⟩
      go_wp2
      rw [← hw3]
      clear hw3 c0 c1 c2' c3 c4
      go_loopw [3, 6] (fun n i wr => ∃ (j : Nat) (N : Int), j ≤ vs.length ∧ i = .int .i64 j ∧ n = .int .i64 N ∧ 0 ≤ N ∧ N ≤ 2000 ∧ Hid (∀ v ∈ vs.take j, v.d.fs.length ≤ 2000) ∧ Hid (Below w3.heap.size w3 wr)) (fun _ i _ => vs.length - (intOf i).toNat)
      case atStart => exact ⟨0, N, by omega, rfl, rfl, hN0, hN1, fun p hp => absurd hp (by simp), Below.refl _ _⟩
      case round =>
        obtain ⟨j, N2, hj, rfl, rfl, hM0, hM1, hV, hB4⟩ := hrel
        obtain ⟨w4, rfl⟩ : ∃ x, x = wr := ⟨_, rfl⟩
        have d34 := (hB4.out.cell (p := ⟨w2.heap.size, 3, none⟩) hz3).trans d3
        have d44 := (hB4.out.cell (p := ⟨w2.heap.size, 4, none⟩) hz3).trans d4
        by_cases hjlt : j < vs.length
        · obtain ⟨gv, ov, rfl, hgv, x0, x1, x2, x3, x4, x5⟩ := eV_at (HM3.out.v.below hB4.out) hjlt
          have HVX := Lib.hid (((HM3.out.vs _ (List.getElem_mem hjlt)).below hB4.out))
          have HVV := Lib.hid (take_all hV.out hjlt)
          generalize vs[j] = x at *
          obtain ⟨⟨xnm, xkd, xn, xtn, xwd, xfs⟩, xA, xc⟩ := x
          dsimp only at x0 x1 x2 x3 x4 x5 HVX HVV
          have hmin : 0 ≤ min (xfs.length : Int) 32768 ∧ min (xfs.length : Int) 32768 ≤ 32768 := by omega
          by_cases s1 : (1000 : Int) < (str xnm).size
          · go_wp2
            go_ret
            exact ⟨true, rfl, HB1.out.trans ((HB3.out.trans (hB4.out.mono HB3.out.size)).mono HB1.out.size), fun e => by cases e⟩
          by_cases s2 : (1000 : Int) < (str xtn).size
          · go_wp2
            go_ret
            exact ⟨true, rfl, HB1.out.trans ((HB3.out.trans (hB4.out.mono HB3.out.size)).mono HB1.out.size), fun e => by cases e⟩
          by_cases s3 : 2000 < N2 + min (xfs.length : Int) 32768
          · go_wp2
            go_ret
            exact ⟨true, rfl, HB1.out.trans ((HB3.out.trans (hB4.out.mono HB3.out.size)).mono HB1.out.size), fun e => by cases e⟩
          have HVN := Lib.hid (HVV.out (by omega))
          clear HVV
          go_wp2
          go_loopw [7] (fun i wr => ∃ m : Nat, m ≤ xfs.length ∧ i = .int .i64 m ∧ Hid (Below w4.heap.size w4 wr)) (fun i _ => xfs.length - (intOf i).toNat)
          case atStart => exact ⟨0, by omega, rfl, Below.refl _ _⟩
          case round =>
            obtain ⟨m, hm, rfl, hB5⟩ := hrel
            have d35 := (hB5.out.cell (p := ⟨w2.heap.size, 3, none⟩) (show w2.heap.size < w4.heap.size by have := hB4.out.size; omega)).trans d34
            have d45 := (hB5.out.cell (p := ⟨w2.heap.size, 4, none⟩) (show w2.heap.size < w4.heap.size by have := hB4.out.size; omega)).trans d44
            have x55 := (hB5.out.cell (p := ⟨gv, ov + j * 6 + 5, none⟩) (show gv < w4.heap.size by have := hB4.out.size; omega)).trans x5
            by_cases hmlt : m < xfs.length
            · obtain ⟨gs, os, rfl, hgs, y0⟩ := eS_at ((HVX.out.1.more hB4.out.size).below hB5.out) hmlt
              generalize xfs[m] = y at *
              by_cases u1 : (1000 : Int) < (str y).size
              · go_wp2
                go_ret
                exact ⟨true, rfl, HB1.out.trans ((HB3.out.trans ((hB4.out.trans (hB5.out.mono hB4.out.size)).mono HB3.out.size)).mono HB1.out.size), fun e => by cases e⟩
              go_wp2
              go_roundw
              case rel => exact ⟨m + 1, by omega, by go_num, hB5⟩
              case measure => simp [intOf]; omega
            · obtain rfl : m = xfs.length := by omega
              have HB45 := Lib.hid (hB4.out.trans (hB5.out.mono hB4.out.size))
              go_wp2
              go_roundw
              case rel => exact ⟨j + 1, _, by omega, by go_num, by go_num, by omega, by omega, HVN, HB45⟩
              case measure => simp [intOf]; omega
        · obtain rfl : j = vs.length := by omega
          rw [List.take_length] at hV
          go_wp2
          go_loopw [3, 8] (fun n i wr => ∃ (j : Nat) (N : Int), j ≤ ss.length ∧ i = .int .i64 j ∧ n = .int .i64 N ∧ 0 ≤ N ∧ N ≤ 2000 ∧ Hid (∀ r ∈ ss.take j, Few r.l) ∧ Hid (Below w4.heap.size w4 wr)) (fun _ i _ => ss.length - (intOf i).toNat)
          case atStart => exact ⟨0, N2, by omega, rfl, rfl, hM0, hM1, fun p hp => absurd hp (by simp), Below.refl _ _⟩
          case round =>
            obtain ⟨m, N3, hm, rfl, rfl, hL0, hL1, hR, hB5⟩ := hrel
            obtain ⟨w5, rfl⟩ : ∃ x, x = wr := ⟨_, rfl⟩
            have hz4 := hB4.out.size
            have d45 := (hB5.out.cell (p := ⟨w2.heap.size, 4, none⟩) (show w2.heap.size < w4.heap.size by omega)).trans d44
            have HB45 := Lib.hid (hB4.out.trans (hB5.out.mono hB4.out.size))
            by_cases hmlt : m < ss.length
            · obtain ⟨gv, ov, rfl, hgv, x0⟩ := eR_at (HM3.out.s.below HB45.out) hmlt
              have HRX := Lib.hid (((HM3.out.ss _ (List.getElem_mem hmlt)).below HB45.out))
              have HRR := Lib.hid (take_all hR.out hmlt)
              have HVC := Lib.hid (vast7_b (ss[m]).A (ss[m]).c (ss[m]).l w5 w3.heap.size HB45.out.size HRX.out.1)
              generalize ss[m] = x at *
              obtain ⟨xl, xA, xc⟩ := x
              dsimp only at x0 HRX HRR HVC
              have hmin : 0 ≤ min (xl.length : Int) 32768 ∧ min (xl.length : Int) 32768 ≤ 32768 := by omega
              by_cases s3 : 2000 < N3 + min (xl.length : Int) 32768
              · go_wp2
                go_ret
                exact ⟨true, rfl, HB1.out.trans ((HB3.out.trans (HB45.out.mono HB3.out.size)).mono HB1.out.size), fun e => by cases e⟩
              go_wp2_with (first
                | (refine HVC.out.mono ?_
                   rintro e w6 ⟨b, rfl, hb6, hfew⟩
                   have HB6 := Lib.hid (HB45.out.trans (hb6.mono HB45.out.size))
                   have HB46 := Lib.hid (hB5.out.trans (hb6.mono hB5.out.size))
                   have HFW := Lib.hid hfew
                   clear hb6 hfew))
              · go_ret
                exact ⟨true, rfl, HB1.out.trans ((HB3.out.trans (HB6.out.mono HB3.out.size)).mono HB1.out.size), fun e => by cases e⟩
              · rename_i hb0
                have HRN := Lib.hid (HRR.out (HFW.out hb0))
                go_roundw
                case rel => exact ⟨m + 1, _, by omega, by go_num, by go_num, by omega, by omega, HRN, HB46⟩
                case measure => simp [intOf]; omega
            · obtain rfl : m = ss.length := by omega
              rw [List.take_length] at hR
              have HFN := Lib.hid (HF.out (few_one (by dsimp only; omega) (by dsimp only; omega) hV.out hR.out))
              have HBN := Lib.hid (HB3.out.trans (HB45.out.mono HB3.out.size))
              go_wp2
              go_roundw
              case rel => exact ⟨k + 1, _, by omega, by go_num, rfl, hL0, hL1, HFN, HBN⟩
              case measure => simp [intOf]; omega
    · obtain rfl : k = ps.length := by omega
      rw [List.take_length] at hF
      go_wp2
      go_loopw [3, 9] (fun n i wr => ∃ (j : Nat) (N : Int), j ≤ qs.length ∧ i = .int .i64 j ∧ n = .int .i64 N ∧ 0 ≤ N ∧ N ≤ 2000 + 32768 * (j : Int) ∧ Hid (N ≤ 20000 → ∀ q ∈ qs.take j, q.d.sc.length ≤ 20000) ∧ Hid (Below w2.heap.size w2 wr)) (fun _ i _ => qs.length - (intOf i).toNat)
      case atStart => exact ⟨0, N, by omega, rfl, rfl, hN0, by omega, fun _ p hp => absurd hp (by simp), Below.refl _ _⟩
      case round =>
        obtain ⟨j, N2, hj, rfl, rfl, hM0, hM1, hV, hB4⟩ := hrel
        obtain ⟨w4, rfl⟩ : ∃ x, x = wr := ⟨_, rfl⟩
        have t14 := (hB4.out.cell (p := ⟨w.heap.size, 1, none⟩) (show w.heap.size < w2.heap.size by omega)).trans t12
        have HB24 := Lib.hid (hB.out.trans (hB4.out.mono hB.out.size))
        by_cases hjlt : j < qs.length
        · obtain ⟨gv, ov, rfl, hgv, x0, x1, x2⟩ := eQ_at (H2.out.1.below HB24.out) hjlt
          have HVV := Lib.hid (fun e => take_all (P := fun q : Pq => q.d.sc.length ≤ 20000) (hV.out e) hjlt)
          generalize qs[j] = x at *
          obtain ⟨⟨fn, ln, sc⟩, xA, xc⟩ := x
          dsimp only at x0 x1 x2 HVV
          have hmin : 0 ≤ min (sc.length : Int) 32768 ∧ min (sc.length : Int) 32768 ≤ 32768 := by omega
          have HVN := Lib.hid (show N2 + min (sc.length : Int) 32768 ≤ 20000 → ∀ q ∈ qs.take (j + 1), q.d.sc.length ≤ 20000 from fun e => HVV.out (by omega) (by omega))
          clear HVV
          go_wp2
          go_roundw
          case rel => exact ⟨j + 1, _, by omega, by go_num, by go_num, by omega, by omega, HVN, hB4⟩
          case measure => simp [intOf]; omega
        · obtain rfl : j = qs.length := by omega
          rw [List.take_length] at hV
          have HFN := Lib.hid (show N2 ≤ 20000 → FewT ps qs from fun e => ⟨by omega, by omega, hF.out, fun q hq => by have := hV.out e q hq; omega⟩)
          clear hV hF
          go_wp2
          go_ret
          exact ⟨decide (20000 < N2), rfl, HB1.out.trans (HB24.out.mono HB1.out.size), fun e => HFN.out (by have := of_decide_eq_false e; omega)⟩
end Go.Proofs.YtjagjkogloggpaaGreat
