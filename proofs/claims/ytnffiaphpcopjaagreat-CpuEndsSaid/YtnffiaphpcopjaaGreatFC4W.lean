/-
  Merged for a claim: C4W.
-/
import Derived.Test.YtnffiaphpcopjaaGreatFC4V
import Derived.LoopTactic
namespace Go.Proofs.YtnffiaphpcopjaaGreat
open Go Go.RowKit

/-- between two steps -/
def EndI (W1 : World) (g q : Nat) (wr : World) (M : Mc) : Prop := (∃ N, One W1 N wr g M) ∧ Okm M (1000 - q) ∧ M.how = 0
theorem Okm.step {M : Mc} {n : Nat} (h : Okm M (n + 1)) (h0 : M.how = 0) : Okm (stepM M) n := by
  unfold stepM
  rw [if_pos h0]
  exact h.do_

/-- what a step that ends the run leaves -/
theorem step_ends {M : Mc} (h0 : M.how = 0) (h : (stepM M).how ≠ 0) : (stepM M).pc = M.pc ∧ (stepM M).input = M.input ∧ (stepM M).regs = M.regs ∧ (stepM M).words = M.words ∧ (stepM M).out = M.out ∧ stepM (stepM M) = stepM M := by
  have e : stepM M = doM M := by unfold stepM; rw [if_pos h0]
  have e2 : stepM (stepM M) = stepM M := by rw [stepM, if_neg h]
  have hd := doM_ends M h0 (by rw [← e]; exact h)
  rw [← e] at hd
  refine ⟨?_, ?_, ?_, ?_, ?_, e2⟩ <;> rw [hd]

set_option maxRecDepth 100000 in
set_option maxHeartbeats 4000000 in
theorem cpuEnds_any (c : Cs) (W : World) (hC : CsIn W c) : Calls Tryz.prog 5 #[.agg (csC c)] W (Yes4 W) := by
  have HB0 := Lib.hid (below_box W (.cells (csC c) 26))
  have HA0 := Lib.hid (csat_new c W)
  have HC := Lib.hid hC
  have HV := Lib.hid (vast_any c (W.alloc (.cells (csC c) 26)))
  obtain ⟨W1, hW1⟩ : ∃ W1, W1 = W.alloc (.cells (csC c) 26) := ⟨_, rfl⟩
  have hz0 : W1.heap.size = W.heap.size + 1 := by rw [hW1]; simp
  have HW1 := Lib.hid hW1
  have HA1 : Hid (CsAt W1 W.heap.size c) := by rw [hW1]; exact HA0.out
  have HB1 : Hid (Below W.heap.size W W1) := by rw [hW1]; exact HB0.out
  rw [← hW1] at HV
  clear hC hW1 HA0 HB0
  obtain ⟨vb, hvb⟩ : ∃ vb, vb = vastB c := ⟨_, rfl⟩
  have HVB := Lib.hid hvb
  unfold VastR at HV
  rw [← hvb] at HV
  clear hvb
  unfold csC at HW1 HV
  unfold csC
  by_cases hv : vb = true
  · subst hv
    go_enter Tryz.func5, Tryz.ntmps5
    go_wp2_with fail
    rw [← HW1.out]
    refine HV.out.mono ?_
    rintro e w1 ⟨rfl, hb1⟩
    have HB2 := Lib.hid (HB1.out.trans (hb1.mono HB1.out.size))
    clear hb1
    go_wp2_with fail
    refine (works4_any w1).mono ?_
    rintro e w2 ⟨rfl, hb2⟩
    have HB3 := Lib.hid (HB2.out.trans (hb2.mono HB2.out.size))
    clear hb2
    go_wp2_with fail
    go_ret
    exact ⟨rfl, HB3.out⟩
  obtain rfl : vb = false := by simpa using hv
  clear hv
  go_enter Tryz.func5, Tryz.ntmps5
  go_wp2_with fail
  rw [← HW1.out]
  refine HV.out.mono ?_
  rintro e w1 ⟨rfl, hb1⟩
  have HB2 := Lib.hid hb1
  have HA2 := Lib.hid (HA1.out.below hb1 (by omega))
  have hzz : W.heap.size < w1.heap.size := by have := hb1.size; omega
  have hinp : c.inp.length ≤ 1099511627776 := by have := (vast_no HVB.out.symm).2.2.2.1; omega
  have hfu : c.fu ≤ 1000 := (vast_no HVB.out.symm).2.2.2.2
  have HCW := Lib.hid (fun (w : World) (hb : Below w1.heap.size w1 w) => HC.out.below ((HB1.out.trans (hb1.mono HB1.out.size)).trans (hb.mono (by omega))))
  have HBY := Lib.hid (fun (w : World) (hb : Below w1.heap.size w1 w) => bytes_any c w (HCW.out w hb) HVB.out.symm)
  have HN := Lib.hid (fun (A : Option Addr) (z : Nat) (l : List UInt8) (w : World) (hL : Lies w w.heap.size A l) (hb : Below w1.heap.size w1 w) => new_all A c.A2 z c.c2 l c.inp c.st c.wd w hL (HCW.out w hb).l2 hinp)
  have HAW := Lib.hid (fun (w : World) (hb : Below w1.heap.size w1 w) => (HA2.out.below hb hzz).cells)
  obtain ⟨k0, k1, k2, k3, k4, k5⟩ := HA2.out.cells
  unfold csC PutW at HBY
  unfold NewA at HN
  have HR1 := Lib.hid (Below.refl w1.heap.size w1)
  clear hb1 HV HW1 hinp
  go_wp2_with fail
  go_region_held3 (fun w => w.cell? ⟨W.heap.size, 0, none⟩ = some (.slice c.A0 c.xs.length c.c0) ∧ w.cell? ⟨W.heap.size, 1, none⟩ = some (.slice c.A1 c.bs.length c.c1) ∧ w.cell? ⟨W.heap.size, 2, none⟩ = some (.int .i64 c.st) ∧
      w.cell? ⟨W.heap.size, 3, none⟩ = some (.int .i64 c.wd) ∧ w.cell? ⟨W.heap.size, 4, none⟩ = some (.slice c.A2 c.inp.length c.c2) ∧ w.cell? ⟨W.heap.size, 5, none⟩ = some (.int .i64 c.fu)) (first | (go_keep; done) | exact HAW.out _ hbw2 | exact HAW.out _ (Below.trans hbw2 (Below.mono hb3.1 hbw2.size))) (first
    | (go_at_call 8; refine (HBY.out _ (by exact HR1.out.drew)).mono ?_; rintro e w2 ⟨v, l, rfl, ho, hle, hb2⟩; obtain ⟨A, z, rfl, hz, hzn, hL⟩ := ho.form; have hbw2 : Below w1.heap.size w1 w2 := Below.trans HR1.out.drew hb2)
    | (go_at_call 10; refine (HN.out A z l _ (by exact hL) (by exact hbw2)).mono ?_; rintro e w3 ⟨P, E, rfl, hb3⟩))
  obtain ⟨hb3, hcase⟩ := hb3
  have HB3 := Lib.hid (hbw2.trans (hb3.mono hbw2.size))
  rcases hcase.symm with ⟨hno, rfl, rfl⟩ | ⟨hok, rfl, g, p, rfl, hM⟩
  · have HE := Lib.hid ((HB1.out.trans (HB2.out.mono (by omega))).trans (HB3.out.mono (by omega)))
    clear hno hb3 HB3 HCW HBY HN HAW HR1 hbw2 hb2 hL ho
    go_wp2_with fail
    refine (works4_any _).mono ?_
    rintro e w4 ⟨rfl, hb4⟩
    have HE2 := Lib.hid (HE.out.trans (hb4.mono HE.out.size))
    clear hb4 HE
    go_wp2_with fail
    go_ret
    exact ⟨rfl, HE2.out⟩
  obtain ⟨M0, hM0⟩ : ∃ M, M = m0 l c.st c.wd c.inp := ⟨_, rfl⟩
  have HI : Hid (EndI W1 g 0 w3 M0) := ⟨⟨_, by rw [hM0]; exact one_new (HB2.out.trans (hbw2.mono HB2.out.size)) hM hb3⟩, by rw [hM0]; exact Okm.make (by have := hok.1; omega) hok.2.2.2.2 _ (by omega), by rw [hM0]; rfl⟩
  clear hM0 hM hb3 HB3 HCW HBY HN HAW HR1 hbw2 hb2 hL ho hok k0 k1 k2 k3 k4 k5 hle hz hzn
  go_wp2_with fail
  go_loopw [5] (fun v wr => ∃ (q : Nat) (M : Mc), q ≤ 1000 ∧ v = .int .i64 q ∧ Hid (EndI W1 g q wr M)) (fun v _ => 1000 - (intOf v).toNat)
  case atStart => exact ⟨0, M0, by omega, rfl, HI⟩
  case round =>
    obtain ⟨q, M, hq, rfl, hI⟩ := hrel
    clear HI
    have HO := hI.out.1
    obtain ⟨N, hO⟩ := HO
    have k5 := (HA1.out.below hO.sz.2.2 (by omega)).cells.2.2.2.2.2
    by_cases hlt : (q : Int) < c.fu
    · have hok := hI.out.2.1
      have h0 := hI.out.2.2
      have HP : Hid (Po W1 N g M [] wr) := ⟨⟨hO, fun r hr => absurd hr (by simp)⟩, fun r hr => absurd hr (by simp)⟩
      have hwl := hok.words
      have hol : M.out.length ≤ 1099511627776 := by have := hok.out; omega
      have hrl : M.regs.length ≤ 65536 := by rw [hO.regs16]; decide
      have HK := Lib.hid hok
      have H0 := Lib.hid h0
      have HPC := Lib.hid (one_pc hO)
      clear hok h0 hO hI
      go_wp2_with fail
      refine HPC.out.mono ?_
      rintro e w' ⟨rfl, rfl⟩
      clear HPC
      go_wp2_with fail
      refine (po_regs HP.out).mono ?_
      rintro e w4 ⟨A1, z1, rfl, hz1, hp⟩
      have HP4 := Lib.hid hp
      clear hp HP
      go_wp2_with fail
      refine (po_words HP4.out (by omega)).mono ?_
      rintro e w5 ⟨A2, z2, rfl, hz2, hp⟩
      have HP5 := Lib.hid hp
      clear hp HP4
      go_wp2_with fail
      refine (po_out HP5.out hol).mono ?_
      rintro e w6 ⟨A3, z3, rfl, hz3, hp⟩
      have HP6 := Lib.hid hp
      clear hp HP5
      go_wp2_with fail
      refine (one_left HP6.out.1.1).mono ?_
      rintro e w' ⟨rfl, rfl⟩
      go_wp2_with fail
      refine (po_step HP6.out (HK.out.less (Nat.zero_le _))).mono ?_
      rintro e w7 ⟨rfl, hp⟩
      have HP7 := Lib.hid hp
      have HHW := Lib.hid (one_how hp.1)
      have HOK := Lib.hid (Okm.step (M := M) (n := 1000 - (q + 1)) (by rw [show 1000 - (q + 1) + 1 = 1000 - q by omega]; exact HK.out) H0.out)
      clear hp HP6
      by_cases he : (stepM M).how = 0
      · have HI2 : Hid (EndI W1 g (q + 1) w7 (stepM M)) := ⟨⟨_, HP7.out.1⟩, HOK.out, he⟩
        rw [he] at HHW ⊢
        clear he HOK HP7
        go_wp2_with fail
        refine HHW.out.mono ?_
        rintro e w' ⟨rfl, rfl⟩
        go_wp2_with fail
        go_roundw
        case rel => exact ⟨q + 1, stepM M, by omega, by go_num, HI2⟩
        case measure => simp [intOf]; omega
      · obtain ⟨e1, e2, e3, e4, e5, e6⟩ := step_ends H0.out he
        have HM := Lib.hid e6
        have HPC := Lib.hid (one_pc HP7.out.1)
        have HLE := Lib.hid (one_left HP7.out.1)
        have HRE := Lib.hid (pq_regs HP7.out)
        have HWO := Lib.hid (fun rows w (h : Pq W1 w7.heap.size g (stepM M) rows w) => pq_words h (by rw [e4]; omega))
        have HOU := Lib.hid (fun rows w (h : Pq W1 w7.heap.size g (stepM M) rows w) => pq_out h (by rw [e5]; exact hol))
        rw [e1] at HPC
        rw [e2] at HLE
        rw [e3] at HRE
        rw [e4] at HWO
        rw [e5] at HOU
        clear e1 e2 e3 e4 e5 e6
        generalize stepM M = M' at *
        have b1 := nbeq_of he
        have b2 : (M'.how != 0) = true := by simp [he]
        clear he
        go_wp2_with fail
        refine HHW.out.mono ?_
        rintro e w' ⟨rfl, rfl⟩
        go_wp2_with fail
        refine HPC.out.mono ?_
        rintro e w' ⟨rfl, rfl⟩
        go_wp2_with fail
        refine HLE.out.mono ?_
        rintro e w' ⟨rfl, rfl⟩
        go_wp2_with fail
        refine HRE.out.mono ?_
        rintro e w8 ⟨Ax, zx, rfl, hzx, hp⟩
        have HP8 := Lib.hid hp
        clear hp HP7 HRE HPC HLE HHW
        go_wp2_with fail
        refine (pq_num HP8.out Ax A1 zx z1 _ (by simp) (by simp) hzx hz1 (by omega)).mono ?_
        rintro e w9 ⟨rfl, hp⟩
        have HP9 := Lib.hid hp
        clear hp HP8 hzx
        go_wp2_with fail
        refine (HWO.out _ _ HP9.out).mono ?_
        rintro e w10 ⟨Ax, zx, rfl, hzx, hp⟩
        have HPa := Lib.hid hp
        clear hp HP9 HWO
        go_wp2_with fail
        refine (pq_num HPa.out Ax A2 zx z2 _ (by simp) (by simp) hzx hz2 (by omega)).mono ?_
        rintro e w11 ⟨rfl, hp⟩
        have HPb := Lib.hid hp
        clear hp HPa hzx
        go_wp2_with fail
        refine (HOU.out _ _ HPb.out).mono ?_
        rintro e w12 ⟨Ax, zx, rfl, hzx, hp⟩
        have HPc := Lib.hid hp
        clear hp HPb HOU
        go_wp2_with fail
        refine (pq_num HPc.out Ax A3 zx z3 _ (by simp) (by simp) hzx hz3 hol).mono ?_
        rintro e w13 ⟨rfl, hp⟩
        have HPd := Lib.hid hp
        clear hp HPc hzx
        go_wp2_with fail
        have HST := one_step HPd.out.1 (HOK.out.less (Nat.zero_le _))
        rw [HM.out] at HST
        refine HST.mono ?_
        rintro e w14 ⟨rfl, hp, -⟩
        have HE := Lib.hid (HB1.out.trans (hp.sz.2.2.mono HB1.out.size))
        clear hp HST HPd
        go_wp2_with fail
        refine (works4_any _).mono ?_
        rintro e w15 ⟨rfl, hb⟩
        have HE2 := Lib.hid (HE.out.trans (hb.mono HE.out.size))
        clear hb HE
        go_wp2_with fail
        go_ret
        exact ⟨rfl, HE2.out⟩
    · have HE := Lib.hid (HB1.out.trans (hO.sz.2.2.mono HB1.out.size))
      clear hO hI
      go_wp2_with fail
      refine (works4_any _).mono ?_
      rintro e w15 ⟨rfl, hb⟩
      have HE2 := Lib.hid (HE.out.trans (hb.mono HE.out.size))
      clear hb HE
      go_wp2_with fail
      go_ret
      exact ⟨rfl, HE2.out⟩

end Go.Proofs.YtnffiaphpcopjaaGreat
