/-
  Merged for a claim: T9U, T0B, GC.
-/
import Derived.Test.YtbkfkdiadeaooaaGreatHT9T
import Derived.Test.YtbkfkdiadeaooaaGreatHJ21
import Derived.Test.YtbkfkdiadeaooaaGreatHGA
import Derived.Great.BuildSlice
namespace Go.Proofs.YtbkfkdiadeaooaaGreat
open Go Go.RowKit

set_option maxRecDepth 100000 in
set_option maxHeartbeats 8000000 in
theorem refRight9_any (A A2 : Option Addr) (c c2 : Nat) (ps : List Pp) (qs : List Pq) (w : World) (hl : ps.length ≤ 1099511627776 ∧ qs.length ≤ 1099511627776) (hs : ∀ p ∈ ps, SmPl p) (hq : ∀ q ∈ qs, q.d.sc.length ≤ 1099511627776) (h : TL w w.heap.size A ps) (h2 : UL w w.heap.size A2 qs) :
    Calls Tryz.prog 25 #[.slice A ps.length c, .slice A2 qs.length c2] w (BoolR (right9 (ps.map Pp.d) (qs.map Pq.d)) w) := by
  have HS := Lib.hid hs
  have HQ := Lib.hid hq
  have HL := Lib.hid h
  have HU := Lib.hid h2
  clear hs hq h h2
  obtain ⟨rb, hrb⟩ : ∃ rb, right9 (ps.map Pp.d) (qs.map Pq.d) = rb := ⟨_, rfl⟩
  have hr0 : rb = (decide (ps.length ≤ 64 ∧ qs.length ≤ 1000) && (okLs 0 (ps.map Pp.d) && (qs.map Pq.d).all (okQ (ps.map Pp.d)))) := by rw [← hrb]; unfold right9; simp only [List.length_map]
  rw [hrb]
  clear hrb
  obtain ⟨b, hb⟩ : ∃ b, okLs 0 (ps.map Pp.d) = b := ⟨_, rfl⟩
  obtain ⟨b2, hb2⟩ : ∃ b2, (qs.map Pq.d).all (okQ (ps.map Pp.d)) = b2 := ⟨_, rfl⟩
  have H0 := Lib.hid (show b = okLs 0 ((ps.map Pp.d).drop 0) from hb.symm)
  have G0 := Lib.hid (show b2 = (qs.drop 0).all (fun q => okQ (ps.map Pp.d) q.d) by rw [← hb2, List.all_map]; rfl)
  rw [hb, hb2] at hr0
  have HR0 := Lib.hid hr0
  clear hb hb2 hr0
  go_enter Tryz.func25, Tryz.ntmps25
  go_wp2_with fail
  go_loopw [5, 6] (fun a i wr => ∃ (k : Nat) (x : Int), k ≤ ps.length ∧ i = .int .i64 k ∧ a = .int .i64 x ∧ Hid (Below w.heap.size w wr) ∧ Hid (b = okLs x ((ps.map Pp.d).drop k))) (fun _ i _ => ps.length - (intOf i).toNat)
  case atStart => exact ⟨0, 0, by omega, rfl, rfl, Below.refl _ _, H0⟩
  case round =>
    obtain ⟨k, x, hk, rfl, rfl, hB, hr⟩ := hrel
    obtain ⟨w4, rfl⟩ : ∃ x, x = wr := ⟨_, rfl⟩
    clear H0
    by_cases hlt : k < ps.length
    · obtain ⟨g, o, rfl, hg, c0, c1, c2', c3, c4⟩ := eL_at (HL.out.1.below hB.out) hlt
      have HP := Lib.hid (((HL.out.2 _ (List.getElem_mem hlt)).below hB.out).more hB.out.size)
      have HSP := Lib.hid (HS.out _ (List.getElem_mem hlt))
      have hst := okLs_at (a := x) (l := ps.map Pp.d) (k := k) (by simpa using hlt)
      rw [List.getElem_map] at hst
      have HST := Lib.hid (hr.out.trans hst)
      have HC := Lib.hid (refPlace9_any (ps[k]) x w4 HSP.out HP.out)
      clear hr hst
      generalize ps[k] = p at *
      obtain ⟨nm, fr, tt, vs, vA, vc, ss, sA, sc⟩ := p
      dsimp only at c0 c1 c2' c3 c4
      unfold lV at HC
      unfold lK tv BoolR at HC
      dsimp only at HC
      go_wp2_with fail
      refine HC.out.mono ?_
      rintro e w5 ⟨rfl, hb5⟩
      have HB5 := Lib.hid (hB.out.trans (hb5.mono hB.out.size))
      have d2 := (hb5.cell (p := ⟨g, o + k * 5 + 2, none⟩) (Nat.lt_of_lt_of_le hg hB.out.size)).trans c2'
      clear hb5 c0 c1 c2' c3 c4 HC
      cases hok : okL x (Pp.d ⟨nm, fr, tt, vs, vA, vc, ss, sA, sc⟩) with
      | false =>
        have HR := Lib.hid (show rb = false by rw [HR0.out, HST.out, hok]; simp)
        clear hok HST HR0 G0
        go_wp2_with fail
        go_ret
        exact ⟨by rw [HR.out]; rfl, HB5.out⟩
      | true =>
        have HN := Lib.hid (show b = okLs tt ((ps.map Pp.d).drop (k + 1)) by rw [HST.out, hok, Bool.true_and]; rfl)
        clear hok HST
        go_wp2_with fail
        go_roundw
        case rel => exact ⟨k + 1, tt, by omega, by go_num, rfl, HB5, HN⟩
        case measure => simp [intOf]; omega
    · obtain rfl : k = ps.length := by omega
      have HBT := Lib.hid (show b = true by rw [hr.out, List.drop_eq_nil_of_le (by simp)]; rfl)
      clear hr
      go_wp2_with fail
      go_loopw [7] (fun i wx => ∃ j : Nat, j ≤ qs.length ∧ i = .int .i64 j ∧ Hid (Below w.heap.size w wx) ∧ Hid (b2 = (qs.drop j).all (fun q => okQ (ps.map Pp.d) q.d))) (fun i _ => qs.length - (intOf i).toNat)
      case atStart => exact ⟨0, by omega, rfl, hB, G0⟩
      case round =>
        obtain ⟨j, hj, rfl, hBx, hr⟩ := hrel
        obtain ⟨w6, rfl⟩ : ∃ x, x = wr := ⟨_, rfl⟩
        clear G0
        by_cases hjlt : j < qs.length
        · obtain ⟨g, o, rfl, hg, x0, x1, x2⟩ := eQ_at (HU.out.1.below hBx.out) hjlt
          have HQX := Lib.hid (((HU.out.2 _ (List.getElem_mem hjlt)).below hBx.out).more hBx.out.size)
          have hsn := HQ.out _ (List.getElem_mem hjlt)
          have HN := Lib.hid (fun hp => all_step (P := fun q : Pq => okQ (ps.map Pp.d) q.d) hjlt hr.out hp)
          have HF := Lib.hid (fun hp => all_stop (P := fun q : Pq => okQ (ps.map Pp.d) q.d) hjlt hr.out hp)
          clear hr
          generalize qs[j] = q at *
          obtain ⟨⟨fn, ln, sc⟩, qA, qc⟩ := q
          dsimp only at x0 x1 x2 hsn HN HF
          have hbn := below_lnew w6 (.cells #[.int .i64 fn, .int .i64 ln, .slice qA sc.length qc] 55)
          have hcn : CAt (w6.alloc (.cells #[.int .i64 fn, .int .i64 ln, .slice qA sc.length qc] 55)) w6.heap.size 55 [_, _, _] := heap_alloc_new w6 (.cells #[.int .i64 fn, .int .i64 ln, .slice qA sc.length qc] 55)
          obtain ⟨w7, hw7⟩ : ∃ y, w6.alloc (.cells #[.int .i64 fn, .int .i64 ln, .slice qA sc.length qc] 55) = y := ⟨_, rfl⟩
          have hz7 : w6.heap.size < w7.heap.size := by rw [← hw7]; simp
          rw [hw7] at hbn hcn
          have HB7 := Lib.hid (hBx.out.trans (hbn.mono hBx.out.size))
          have HSC := Lib.hid ((HQX.out.1.below hbn).more hbn.size)
          have e0 := hcn.cell (j := 0) (by simp)
          have e1 := hcn.cell (j := 1) (by simp)
          have e2 := hcn.cell (j := 2) (by simp)
          simp only [List.getElem_cons_zero, List.getElem_cons_succ] at e0 e1 e2
          clear hbn hcn HQX
          by_cases q1 : fn < 0
          · have HR := Lib.hid (show rb = false by rw [HR0.out, HF.out (okQ_no (.inl q1))]; simp)
            clear HN HF HR0
            go_wp2_with fail
            go_ret
            exact ⟨by rw [HR.out]; rfl, HB7.out⟩
          by_cases q2 : (ps.length : Int) ≤ fn
          · have HR := Lib.hid (show rb = false by rw [HR0.out, HF.out (okQ_no (.inr (.inl (by rw [List.length_map]; exact q2))))]; simp)
            clear HN HF HR0
            go_wp2_with fail
            go_ret
            exact ⟨by rw [HR.out]; rfl, HB7.out⟩
          by_cases q3 : ln < 1
          · have HR := Lib.hid (show rb = false by rw [HR0.out, HF.out (okQ_no (.inr (.inr (.inl q3))))]; simp)
            clear HN HF HR0
            go_wp2_with fail
            go_ret
            exact ⟨by rw [HR.out]; rfl, HB7.out⟩
          by_cases q4 : 1048576 < ln
          · have HR := Lib.hid (show rb = false by rw [HR0.out, HF.out (okQ_no (.inr (.inr (.inr q4))))]; simp)
            clear HN HF HR0
            go_wp2_with fail
            go_ret
            exact ⟨by rw [HR.out]; rfl, HB7.out⟩
          obtain ⟨F, rfl⟩ : ∃ F : Nat, fn = F := ⟨fn.toNat, by omega⟩
          have hF : F < ps.length := by omega
          have hFi : (F : Int) < ps.length := by omega
          have hoq := okQ_in (ls := ps.map Pp.d) (q := ⟨(F : Int), ln, sc⟩) ⟨by dsimp only; omega, by dsimp only; rw [List.length_map]; omega, by dsimp only; omega, by dsimp only; omega⟩
          have hnv : nvs (ps.map Pp.d) ((F : Int)).toNat = (ps[F].vs.length : Int) := by rw [Int.toNat_natCast]; unfold nvs; rw [List.getElem?_map, List.getElem?_eq_getElem hF]; simp [Pp.d]
          have HOQ := Lib.hid (show okQ (ps.map Pp.d) ⟨(F : Int), ln, sc⟩ = riseB (ps[F].vs.length : Int) (-1) sc by rw [hoq]; dsimp only; rw [hnv])
          obtain ⟨gp, op, hpA, hgp, _, _, _, y3, _⟩ := eL_at (HL.out.1.below HB7.out) hF
          obtain ⟨nv, hnv2⟩ : ∃ nv, ps[F].vs.length = nv := ⟨_, rfl⟩
          rw [hnv2] at HOQ y3
          obtain ⟨b3, hb3⟩ : ∃ b3, riseB (nv : Int) (-1) sc = b3 := ⟨_, rfl⟩
          rw [hb3] at HOQ
          have K0 := Lib.hid (show b3 = riseB (nv : Int) (-1) (sc.drop 0) from hb3.symm)
          generalize ps[F].vA = fA at *
          generalize ps[F].vc = fc at *
          clear hoq hnv hnv2 hb3
          subst hpA
          go_wp2_with fail
          (try rw [hw7])
          clear hw7
          go_loopw [9, 10] (fun a i wy => ∃ (m : Nat) (y : Int), m ≤ sc.length ∧ i = .int .i64 m ∧ a = .int .i64 y ∧ Hid (Below w7.heap.size w7 wy) ∧ Hid (b3 = riseB (nv : Int) y (sc.drop m))) (fun _ i _ => sc.length - (intOf i).toNat)
          case atStart => exact ⟨0, -1, by omega, rfl, rfl, Below.refl _ _, K0⟩
          case round =>
            obtain ⟨m, y, hm, rfl, rfl, hBy, hr⟩ := hrel
            obtain ⟨w8, rfl⟩ : ∃ x, x = wr := ⟨_, rfl⟩
            clear K0
            have f0 := (hBy.out.cell (p := ⟨w6.heap.size, 0, none⟩) hz7).trans e0
            have f2 := (hBy.out.cell (p := ⟨w6.heap.size, 2, none⟩) hz7).trans e2
            have f3 := (hBy.out.cell (p := ⟨gp, op + F * 5 + 3, none⟩) (Nat.lt_of_lt_of_le hgp HB7.out.size)).trans y3
            have HB8 := Lib.hid (HB7.out.trans (hBy.out.mono HB7.out.size))
            by_cases hmlt : m < sc.length
            · obtain ⟨gs, os, rfl, hgs, s0⟩ := eI_at (HSC.out.below hBy.out) hmlt
              have hst := hr.out.trans (riseB_at hmlt)
              have hmi : (m : Int) < sc.length := by omega
              clear hr
              generalize sc[m] = z at *
              by_cases r1 : z ≤ y
              · have HR := Lib.hid (show rb = false by rw [HR0.out, HF.out (by rw [HOQ.out, hst, decide_eq_false (by omega), Bool.false_and])]; simp)
                clear HN HF HR0 hst
                go_wp2_with fail
                go_quiet (fail)
                have hbq := below_draws (B := w8.heap.size) (w := w8) nq
                have HBQ := Lib.hid (HB8.out.trans (hbq.mono HB8.out.size))
                clear hbq
                go_wp2_with fail
                go_ret
                exact ⟨by rw [HR.out]; rfl, HBQ.out⟩
              by_cases r2 : (nv : Int) ≤ z
              · have HR := Lib.hid (show rb = false by rw [HR0.out, HF.out (by rw [HOQ.out, hst, decide_eq_false (by omega), Bool.false_and])]; simp)
                clear HN HF HR0 hst
                go_wp2_with fail
                go_quiet (fail)
                have hbq := below_draws (B := w8.heap.size) (w := w8) nq
                have HBQ := Lib.hid (HB8.out.trans (hbq.mono HB8.out.size))
                clear hbq
                go_wp2_with fail
                go_ret
                exact ⟨by rw [HR.out]; rfl, HBQ.out⟩
              have HNX := Lib.hid (show b3 = riseB (nv : Int) z (sc.drop (m + 1)) by rw [hst, decide_eq_true (by omega), Bool.true_and])
              clear hst
              go_wp2_with fail
              go_quiet (fail)
              have hbq := below_draws (B := w8.heap.size) (w := w8) nq
              have HBQ := Lib.hid (hBy.out.trans (hbq.mono hBy.out.size))
              clear hbq
              go_wp2_with fail
              go_roundw
              case rel => exact ⟨m + 1, z, by omega, by go_num, rfl, HBQ, HNX⟩
              case measure => simp [intOf]; omega
            · obtain rfl : m = sc.length := by omega
              have HNX := Lib.hid (HN.out (by rw [HOQ.out, hr.out, List.drop_eq_nil_of_le (Nat.le_refl _)]; rfl))
              clear hr HN HF
              go_wp2_with fail
              go_roundw
              case rel => exact ⟨j + 1, by omega, by go_num, HB8, HNX⟩
              case measure => simp [intOf]; omega
        · obtain rfl : j = qs.length := by omega
          have HR1 := Lib.hid (show rb = decide (ps.length ≤ 64 ∧ qs.length ≤ 1000) by rw [HR0.out, HBT.out, hr.out, List.drop_length]; simp)
          clear hr HR0
          by_cases r1 : ps.length ≤ 64
          · have r1i : (ps.length : Int) ≤ 64 := by omega
            by_cases r2 : qs.length ≤ 1000
            · have r2i : (qs.length : Int) ≤ 1000 := by omega
              have HR := Lib.hid (HR1.out.trans (decide_eq_true ⟨r1, r2⟩))
              go_wp2_with fail
              go_ret
              exact ⟨by rw [HR.out]; rfl, hBx.out⟩
            · have r2i : ¬ (qs.length : Int) ≤ 1000 := by omega
              have HR := Lib.hid (HR1.out.trans (decide_eq_false (fun e => r2 e.2)))
              go_wp2_with fail
              go_ret
              exact ⟨congrArg (fun b => Ending.returned (.bool b)) (by rw [HR.out]), hBx.out⟩
          · have r1i : ¬ (ps.length : Int) ≤ 64 := by omega
            have HR := Lib.hid (HR1.out.trans (decide_eq_false (fun e => r1 e.1)))
            go_wp2_with fail
            go_ret
            exact ⟨by rw [HR.out]; rfl, hBx.out⟩
end Go.Proofs.YtbkfkdiadeaooaaGreat

namespace Go.Proofs.YtbkfkdiadeaooaaGreat
open Go Go.RowKit

theorem txX_len (b : List UInt8) (s : RS) : (txX b s).length ≤ b.length := by
  unfold txX txS
  split
  · simp
  · split
    · first
        | (simp only [List.length_take, List.length_drop]; omega)
        | (split
           · simp only [List.length_take, List.length_drop]; omega
           · simp)
    · simp
theorem lsD_len_le {δ τ : Type} (b : List UInt8) (most : Int) (hm : 0 ≤ most) (one : RS × τ → δ × (RS × τ)) (s : RS × τ) : ((lsD b most one s).1.length : Int) ≤ most := by
  have := goL_len (fun q : RS × τ => q.1.no) one (dnX b most s.1).toNat (dnS b most s.1, s.2)
  have := dnX_rng b most hm s.1
  unfold lsD
  omega
theorem lsD_all {δ τ : Type} (b : List UInt8) (most : Int) (one : RS × τ → δ × (RS × τ)) (s : RS × τ) {Q : δ → Prop} (h : ∀ s, Q (one s).1) : ∀ x ∈ (lsD b most one s).1, Q x := goL_all _ _ h _ _
theorem lsD_inv {δ τ : Type} (b : List UInt8) (most : Int) (one : RS × τ → δ × (RS × τ)) (s : RS × τ) {I : τ → Prop} (h : ∀ s : RS × τ, I s.2 → I (one s).2.2) (h0 : I s.2) : I (lsD b most one s).2.2 := goL_inv _ _ (I := fun q : RS × τ => I q.2) h _ _ h0
theorem goL_plc (b : List UInt8) : ∀ (n : Nat) (s : RS × List (List Sp)), (goL (fun q : RS × List (List Sp) => q.1.no) (plcD b) n s).2.2.length ≤ s.2.length + n
  | 0, s => Nat.le_refl _
  | n + 1, s => by
    rw [goL]
    split
    · exact Nat.le_add_right _ _
    · have := goL_plc b n (plcD b s).2
      have e : (plcD b s).2.2.length = s.2.length + 1 := by simp [plcD]
      show (goL (fun q : RS × List (List Sp) => q.1.no) (plcD b) n (plcD b s).2).2.2.length ≤ _
      omega
theorem vaD_sm {b : List UInt8} (hb : b.length ≤ 1099511627776) (s : RS) : SmV (vaD b s).1 := by
  have ht := fun q => txX_len b q
  have hl := fun q => lsD_len_le b 8 (by decide) (tx9 b) q
  have hn : ∀ q, (txX b q).length ≤ 4611686018427387903 := fun q => by have := ht q; omega
  unfold vaD SmV
  split
  · exact ⟨hn _, by simp, by simp, fun x hx => absurd hx (by simp)⟩
  · split
    · refine ⟨hn _, hn _, ?_, lsD_all b 8 (tx9 b) _ (Q := fun x => x.length ≤ 4611686018427387903) fun q => hn _⟩
      have := hl (txT b (oxS b (txT b s)), ())
      dsimp only
      omega
    · exact ⟨hn _, by simp, by simp, fun x hx => absurd hx (by simp)⟩
/-- a table that the document read is small -/
theorem dgot_sm {b : List UInt8} {i : Int} (hb : b.length ≤ 1099511627776) {ps : List Pp} {qs : List Pq} (hp : ps.map Pp.d = (gdL b i).1) (hq : qs.map Pq.d = (gdQ b i).1) : (ps.length ≤ 64 ∧ qs.length ≤ 1000) ∧ (∀ p ∈ ps, SmPl p) ∧ ∀ q ∈ qs, q.d.sc.length ≤ 1099511627776 := by
  refine ⟨⟨?_, ?_⟩, fun p hpm => ?_, fun q hqm => ?_⟩
  · have := lsD_len_le b 64 (by decide) (getD b) (⟨i, false⟩, 0)
    have e : ps.length = (gdL b i).1.length := by rw [← hp, List.length_map]
    unfold gdL at e
    omega
  · have := lsD_len_le b 1000 (by decide) (pntD b) ((gdL b i).2.1, ())
    have e : qs.length = (gdQ b i).1.length := by rw [← hq, List.length_map]
    unfold gdQ at e
    omega
  · have h1 : ∃ a t, p.d = (pcD b a t).1 := lsD_all b 64 (getD b) _ (Q := fun d => ∃ a t, d = (pcD b a t).1) (fun q => ⟨_, _, rfl⟩) p.d (hp ▸ List.mem_map_of_mem hpm)
    obtain ⟨a, t, h1⟩ := h1
    have h2 : ∀ l ∈ p.d.ss, ∃ i, l = gsL b i ∨ l = [] := by
      rw [h1]
      exact lsD_inv b 64 (plcD b) _ (I := fun ls => ∀ l ∈ ls, ∃ i, l = gsL b i ∨ l = []) (fun q hI l hl => by
        rcases List.mem_append.1 hl with hl | hl
        · exact hI l hl
        · rw [List.mem_singleton.1 hl]
          unfold spX
          split
          · exact ⟨0, .inr rfl⟩
          · exact ⟨_, .inl rfl⟩) (fun l hl => absurd hl (by simp))
    have hsm : SmP p := fun r hr => by
      obtain ⟨i, h3 | h3⟩ := h2 r.d (List.mem_map_of_mem hr)
      · exact gsL_sm h3
      · have : r.l = [] := by simpa [Rs.d] using h3
        rw [this]
        exact ⟨by simp, fun p hp => absurd hp (by simp)⟩
    have e1 : p.nm = txX b t := congrArg Plc.nm h1
    have e2 : p.vs.map Pv.d = (lsD b 64 (plcD b) (pnD b a t, [])).1 := congrArg Plc.vs h1
    have e3 : p.ss.map Rs.d = (lsD b 64 (plcD b) (pnD b a t, [])).2.2 := congrArg Plc.ss h1
    have l2 := lsD_len_le b 64 (by decide) (plcD b) (pnD b a t, [])
    have l2' : p.vs.length = (lsD b 64 (plcD b) (pnD b a t, [])).1.length := by rw [← e2, List.length_map]
    have l3 : (lsD b 64 (plcD b) (pnD b a t, [])).2.2.length ≤ 0 + (dnX b 64 (pnD b a t)).toNat := goL_plc b _ _
    have l3' : p.ss.length = (lsD b 64 (plcD b) (pnD b a t, [])).2.2.length := by rw [← e3, List.length_map]
    have l4 := dnX_rng b 64 (by decide) (pnD b a t)
    refine ⟨hsm, ?_, by omega, by omega, fun v hv => ?_⟩
    · rw [e1]
      have := txX_len b t
      omega
    · have : v.d ∈ p.vs.map Pv.d := List.mem_map_of_mem hv
      rw [e2] at this
      exact lsD_all b 64 (plcD b) _ (Q := SmV) (fun q => vaD_sm hb q.1) _ this
  · have h1 : ∃ t, q.d = (ptD b t).1 := lsD_all b 1000 (pntD b) _ (Q := fun d => ∃ t, d = (ptD b t).1) (fun q => ⟨_, rfl⟩) q.d (hq ▸ List.mem_map_of_mem hqm)
    obtain ⟨t, h1⟩ := h1
    rw [h1]
    have := lsD_len_le b 64 (by decide) (nmD b 64) (dnS b 1048576 (dnS b 64 t), ())
    unfold ptD
    dsimp only
    omega
theorem vd_far {b : List UInt8} {s : RS} (t : Int) (h : Vd b s) : Vd b (farS t s) := by
  unfold farS
  split
  · exact h
  · exact h
theorem pn_far {b : List UInt8} {a : Int} {s : RS} (h : (lsD b 64 (plcD b) (pnD b a s, [])).2.1.no = false) : a + dnX b 16777216 (txT b s) + dnX b 16777216 (dnS b 16777216 (txT b s)) ≤ 16777216 :=
  (farS_yes (dn_yes (lsD_yes h)).1).1
end Go.Proofs.YtbkfkdiadeaooaaGreat

namespace Go.Proofs.YtbkfkdiadeaooaaGreat
open Go.ChangeShapes Go.WideShapes Go.ChangeAt Go.RowKit Go.Deep

namespace El
variable {α : Type} {ops : Array Oper} {o : Oper} {a : Act} {Q : Exit → Act → World → Prop} {C : Act → World → Prop}
theorem op_build1 (K : El α) (w : World) (sl : TypeId) (z : Value) (by_ : Nat) (hu : Tryz.prog.underlying sl = some (.slice K.e)) (hi : (Tryz.prog.info? K.e).map (fun i => (i.zero, i.size, i.bytes)) = some (some z, K.sz, by_)) (hzc : z.cells.size = K.sz) (hsz : K.sz ≤ 100)
    (x : Operand) (ho : o.op = .buildSlice sl 1 #[(0, x)]) (v : Value) (y : α) (hx : a.eval x = v) (hv : v.cells.toList = K.f y)
    (h : C (a.put o.dst (.slice (some ⟨w.heap.size, 0, none⟩) 1 1)) (w.alloc (.cells (K.f y).toArray K.e))) : Oper.wp Tryz.prog o a w C Q := by
  obtain ⟨i0, hi0, hz0, hz1, hz2⟩ := info_parts hi
  have hp := K.pos
  have hvs : v.cells.size = K.sz := by rw [← Array.length_toList, hv, K.len]
  refine wp_buildSlice sl K.e 1 _ ho (K.f y).toArray i0 z hu hi0 hz0 (by rw [hz1]; omega) (by rw [hz1]; omega) ?_ h
  have := Great.fill_whole (s := K.sz) hp [v] ((Array.range (1 * K.sz)).map (z.cells[· % z.cells.size]!)) (fun u hu => by rw [List.mem_singleton.1 hu]; exact hvs) (by simp)
  rw [hz1]
  have e : ([v].flatMap fun v => v.cells.toList).toArray = (K.f y).toArray := by simp [hv]
  rw [e] at this
  simp only [List.map_toArray, List.map_cons, List.map_nil, hx]
  exact this
end El
end Go.Proofs.YtbkfkdiadeaooaaGreat
