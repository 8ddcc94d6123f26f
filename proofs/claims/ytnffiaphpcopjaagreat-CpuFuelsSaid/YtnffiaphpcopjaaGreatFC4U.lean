/-
  Merged for a claim: C4U.
-/
import Derived.Test.YtnffiaphpcopjaaGreatFJ5
import Derived.LoopTactic
namespace Go.Proofs.YtnffiaphpcopjaaGreat
open Go Go.RowKit

set_option maxRecDepth 100000 in
set_option maxHeartbeats 4000000 in
theorem cpuFuels_any (c : Cs) (a b : Int) (W : World) (hC : CsIn W c) : Calls Tryz.prog 4 #[.agg (csC c), .int .i64 a, .int .i64 b] W (Yes4 W) := by
  have HB0 := Lib.hid (below_box W (.cells (csC c) 26))
  have HA0 := Lib.hid (csat_new c W)
  have HC := Lib.hid hC
  have HV := Lib.hid (vast_any c (W.alloc (.cells (csC c) 26)))
  clear hC
  obtain ⟨vb, hvb⟩ : ∃ vb, vb = vastB c := ⟨_, rfl⟩
  have HVB := Lib.hid hvb
  unfold VastR at HV
  rw [← hvb] at HV
  clear hvb
  unfold csC at HB0 HV
  unfold csC
  by_cases hv : vb = true
  · subst hv
    go_enter Tryz.func4, Tryz.ntmps4
    go_wp2_with fail
    refine HV.out.mono ?_
    rintro e w1 ⟨rfl, hb1⟩
    have HB1 := Lib.hid (HB0.out.trans (hb1.mono HB0.out.size))
    clear hb1
    go_wp2_with fail
    refine (works4_any w1).mono ?_
    rintro e w2 ⟨rfl, hb2⟩
    have HB2 := Lib.hid (HB1.out.trans (hb2.mono HB1.out.size))
    clear hb2
    go_wp2_with fail
    go_ret
    exact ⟨rfl, HB2.out⟩
  obtain rfl : vb = false := by simpa using hv
  clear hv
  by_cases ha : a > 1000
  · go_enter Tryz.func4, Tryz.ntmps4
    go_wp2_with fail
    refine HV.out.mono ?_
    rintro e w1 ⟨rfl, hb1⟩
    have HB1 := Lib.hid (HB0.out.trans (hb1.mono HB0.out.size))
    clear hb1
    go_wp2_with fail
    refine (works4_any w1).mono ?_
    rintro e w2 ⟨rfl, hb2⟩
    have HB2 := Lib.hid (HB1.out.trans (hb2.mono HB1.out.size))
    clear hb2
    go_wp2_with fail
    go_ret
    exact ⟨rfl, HB2.out⟩
  by_cases hb : b > 1000
  · go_enter Tryz.func4, Tryz.ntmps4
    go_wp2_with fail
    refine HV.out.mono ?_
    rintro e w1 ⟨rfl, hb1⟩
    have HB1 := Lib.hid (HB0.out.trans (hb1.mono HB0.out.size))
    clear hb1
    go_wp2_with fail
    refine (works4_any w1).mono ?_
    rintro e w2 ⟨rfl, hb2⟩
    have HB2 := Lib.hid (HB1.out.trans (hb2.mono HB1.out.size))
    clear hb2
    go_wp2_with fail
    go_ret
    exact ⟨rfl, HB2.out⟩
  obtain ⟨na, hna⟩ : ∃ n, n = a.toNat := ⟨_, rfl⟩
  obtain ⟨nb, hnb⟩ : ∃ n, n = b.toNat := ⟨_, rfl⟩
  have ma : (if 0 < a then a else 0) = (na : Int) := by split <;> omega
  have mb : (if 0 < b then b else 0) = (nb : Int) := by split <;> omega
  have la : na ≤ 1000 := by omega
  have lb : nb ≤ 1000 := by omega
  have HNA := Lib.hid hna
  have HNB := Lib.hid hnb
  clear hna hnb
  go_enter Tryz.func4, Tryz.ntmps4
  go_wp2_with fail
  refine HV.out.mono ?_
  rintro e w1 ⟨rfl, hb1⟩
  have HB1 := Lib.hid (HB0.out.trans (hb1.mono HB0.out.size))
  have hz1 : W.heap.size < w1.heap.size := by have := hb1.size; simp at this; omega
  have HA1 := Lib.hid (HA0.out.below hb1 (by simp))
  obtain ⟨k0, k1, k2, k3, k4, k5⟩ := HA1.out.cells
  have HBY := Lib.hid (bytes_any c w1 (HC.out.below HB1.out) HVB.out.symm)
  unfold csC PutW at HBY
  clear hb1 HA0 HB0 HV
  go_wp2_with fail
  refine HBY.out.mono ?_
  rintro e w2 ⟨v, l, rfl, ho, hle, hb2⟩
  obtain ⟨A, z, rfl, hz, hzn, hL⟩ := ho.form
  have HB2 := Lib.hid (HB1.out.trans (hb2.mono HB1.out.size))
  have HA2 := Lib.hid (HA1.out.below hb2 hz1)
  have HL := Lib.hid hL
  have hz2 : W.heap.size < w2.heap.size := Nat.lt_of_lt_of_le hz1 hb2.size
  obtain ⟨kb0, kb1, kb2, kb3, kb4, kb5⟩ := HA2.out.cells
  have HIN := Lib.hid ((HC.out.below HB2.out).l2)
  have HIL := Lib.hid HC.out.h2
  clear hb2 ho hL hzn k0 k1 k2 k3 k4 k5 HBY HA1
  by_cases hno : ¬ newOk l.length c.st c.wd
  · have hbad := fun w => new_bad A c.A2 z c.inp.length c.c2 l.length c.st c.wd w hno
    clear hno
    go_wp2_with fail
    refine (hbad _).mono ?_
    rintro e w' ⟨rfl, rfl⟩
    go_wp2_with fail
    refine (hbad _).mono ?_
    rintro e w' ⟨rfl, rfl⟩
    clear hbad
    go_wp2_with fail
    refine (works4_any _).mono ?_
    rintro e w3 ⟨rfl, hb3⟩
    have HB3 := Lib.hid (HB2.out.trans (hb3.mono HB2.out.size))
    clear hb3
    go_wp2_with fail
    go_ret
    exact ⟨rfl, HB3.out⟩
  obtain ⟨n1, n2, n3, n4, n5⟩ := Decidable.not_not.1 hno
  clear hno
  obtain ⟨nw, hnw⟩ : ∃ n : Nat, c.wd = n := ⟨c.wd.toNat, by omega⟩
  have hinp : c.inp.length ≤ 1099511627776 := by have := (vast_no HVB.out.symm).2.2.2.1; omega
  have HN := Lib.hid (fun w (h1 : Lies w w.heap.size A l) (h2 : ILs w c.A2 c.inp) => new_good A c.A2 z c.c2 l c.inp c.st nw w h1 h2 hinp n1 n2 n3 (by omega) (by omega))
  simp only [← hnw] at HN
  unfold NewR at HN
  obtain ⟨M0, hM0⟩ : ∃ M, M = m0 l c.st c.wd c.inp := ⟨_, rfl⟩
  have HOK : Hid (Okm M0 (na + nb)) := by subst hM0; exact Okm.make (by omega) n5 (na + nb) (by omega)
  rw [← hM0] at HN
  clear hM0 hnw n1 n2 n3 n4 n5 hinp
  go_wp2_with fail
  refine (HN.out _ HL.out HIN.out).mono ?_
  rintro e w3 ⟨g1, p1, rfl, hM1, hb3⟩
  have HM1 := Lib.hid hM1
  have HB3 := Lib.hid hb3
  have HL3 := Lib.hid ((HL.out.below hb3).more hb3.size)
  have HI3 := Lib.hid (HIN.out.below hb3)
  have HA3 := Lib.hid (HA2.out.below hb3 hz2)
  obtain ⟨kc0, kc1, kc2, kc3, kc4, kc5⟩ := HA3.out.cells
  clear hM1 hb3 kb0 kb1 kb2 kb3 kb4 kb5
  go_wp2_with fail
  refine (HN.out _ HL3.out HI3.out).mono ?_
  rintro e w4 ⟨g2, p2, rfl, hM2, hb4⟩
  have HT4 := Lib.hid (two_new HB2.out HM1.out HB3.out hM2 hb4)
  clear hM2 hb4 HM1 HB3 HL3 HI3 HA3 HN HL HIN HIL kc0 kc1 kc2 kc3 kc4 kc5 HA2 HVB HC hle hz1 hz2 HB1
  obtain ⟨M1, L1, e1⟩ : ∃ M L, runM na M0 = (M, L) := ⟨_, _, rfl⟩
  obtain ⟨M2, L2, e2⟩ : ∃ M L, runM nb M1 = (M, L) := ⟨_, _, rfl⟩
  have e3 : runM (na + nb) M0 = (M2, L1 + L2) := by rw [runM_add, e1]; simp only [e2]
  have q1 : L1 ≤ na := by have := runM_le na M0; rwa [e1] at this
  have q2 : L2 ≤ nb := by have := runM_le nb M1; rwa [e2] at this
  have HOK1 : Hid (Okm M1 nb) := by have := Okm.run na HOK.out; rwa [e1] at this
  have HOK2 : Hid (Okm M2 0) := by have := Okm.run nb (k := 0) HOK1.out; rwa [e2] at this
  have HR1 := Lib.hid (fun N w (h : Two W N w g1 g2 M0 M0) => two_run h a (by rw [← HNA.out]; exact HOK.out.less (by omega)))
  have HR2 := Lib.hid (fun N w (h : Two W N w g1 g2 M1 M0) => two_run h b (by rw [← HNB.out]; exact HOK1.out))
  have HR3 := Lib.hid (fun N w (h : Two W N w g2 g1 M0 M2) => two_run h ((na : Int) + nb) (by rw [show ((na : Int) + nb).toNat = na + nb by omega]; exact HOK.out))
  rw [← HNA.out, e1] at HR1
  rw [← HNB.out, e2] at HR2
  rw [show ((na : Int) + nb).toNat = na + nb by omega, e3] at HR3
  simp only at HR1 HR2 HR3
  obtain ⟨h1, eh1⟩ : ∃ h, h = M1.how := ⟨_, rfl⟩
  obtain ⟨h2, eh2⟩ : ∃ h, h = M2.how := ⟨_, rfl⟩
  rw [← eh1] at HR1
  rw [← eh2] at HR2 HR3
  obtain ⟨L3, e4⟩ : ∃ L, L = L1 + L2 := ⟨_, rfl⟩
  rw [← e4] at HR3
  have hcase : (h1 = 0 ∧ L1 = 0) ∨ (h1 ≠ 0 ∧ h2 = h1 ∧ L2 = nb) := by
    by_cases h0 : M1.how = 0
    · have := runM_left na M0 (by rw [e1]; exact h0)
      rw [e1] at this
      exact .inl ⟨by rw [eh1, h0], this⟩
    · have := runM_stop h0 nb
      rw [e2] at this
      injection this with t1 t2
      subst t1 t2
      exact .inr ⟨by rw [eh1]; exact h0, by rw [eh1, eh2], rfl⟩
  clear e1 e2 e3 eh1 eh2 HOK HOK1
  go_wp2_with fail
  refine (HR1.out _ _ HT4.out).mono ?_
  rintro e w5 ⟨rfl, hT5⟩
  have HT5 := Lib.hid hT5
  clear hT5 HT4 HR1
  go_wp2_with fail
  refine (HR2.out _ _ HT5.out).mono ?_
  rintro e w6 ⟨rfl, hT6⟩
  have HT6 := Lib.hid hT6.swap
  clear hT6 HT5 HR2
  go_wp2_with fail
  refine (HR3.out _ _ HT6.out).mono ?_
  rintro e w7 ⟨rfl, hT7⟩
  have HT7 := Lib.hid hT7.swap
  clear hT7 HT6 HR3
  have hr : M2.regs.length ≤ 65536 := by rw [HT7.out.one.regs16]; decide
  have hwl := HOK2.out.words
  have hol := HOK2.out.out
  obtain ⟨N, hN⟩ : ∃ N, N = w7.heap.size := ⟨_, rfl⟩
  have HZ : Hid (N ≤ w7.heap.size) := by rw [hN]; exact Nat.le_refl _
  rw [← hN] at HT7
  clear hN
  have HP : Hid (Pm W N g1 g2 M2 [] w7) := ⟨HT7.out, fun r hr => absurd hr (by simp)⟩
  clear HT7 HZ HOK2 HNA HNB HB2
  rcases hcase with ⟨rfl, rfl⟩ | ⟨hne, rfl, rfl⟩
  · have e5 : L3 = L2 := by omega
    subst e5
    clear e4
    go_wp2_with fail
    refine (pm_words1 HP.out (by omega)).mono ?_
    rintro e w8 ⟨A1, z1, rfl, hz1, hp⟩
    have HP8 := Lib.hid hp
    clear hp HP
    go_wp2_with fail
    refine (pm_regs1 HP8.out).mono ?_
    rintro e w9 ⟨A2, z2, rfl, hz2, hp⟩
    have HP9 := Lib.hid hp
    clear hp HP8
    go_wp2_with fail
    refine (pm_out1 HP9.out (by omega)).mono ?_
    rintro e w10 ⟨A3, z3, rfl, hz3, hp⟩
    have HPa := Lib.hid hp
    clear hp HP9
    go_wp2_with fail
    refine (one_pc HPa.out.1.one).mono ?_
    rintro e w' ⟨rfl, rfl⟩
    go_wp2_with fail
    refine (one_pc HPa.out.1.two).mono ?_
    rintro e w' ⟨rfl, rfl⟩
    go_wp2_with fail
    refine (one_left HPa.out.1.one).mono ?_
    rintro e w' ⟨rfl, rfl⟩
    go_wp2_with fail
    refine (one_left HPa.out.1.two).mono ?_
    rintro e w' ⟨rfl, rfl⟩
    go_wp2_with fail
    refine (pm_words2 HPa.out (by omega)).mono ?_
    rintro e wx ⟨Ax, zx, rfl, hzx, hp⟩
    have HPx := Lib.hid hp
    clear hp HPa
    go_wp2_with fail
    refine (pm_num HPx.out A1 Ax z1 zx _ (by simp) (by simp) hz1 hzx (by omega)).mono ?_
    rintro e wy ⟨rfl, hp⟩
    have HPb := Lib.hid (hp.drop (rows' := [(A3, M2.out), (A2, M2.regs), (A1, M2.words)]) (fun r hr => List.mem_cons_of_mem _ hr))
    clear hp HPx hzx
    go_wp2_with fail
    refine (pm_regs2 HPb.out).mono ?_
    rintro e wx ⟨Ax, zx, rfl, hzx, hp⟩
    have HPx := Lib.hid hp
    clear hp HPb
    go_wp2_with fail
    refine (pm_num HPx.out A2 Ax z2 zx _ (by simp) (by simp) hz2 hzx (by omega)).mono ?_
    rintro e wy ⟨rfl, hp⟩
    have HPc := Lib.hid (hp.drop (rows' := [(A3, M2.out), (A2, M2.regs), (A1, M2.words)]) (fun r hr => List.mem_cons_of_mem _ hr))
    clear hp HPx hzx
    go_wp2_with fail
    refine (pm_out2 HPc.out (by omega)).mono ?_
    rintro e wx ⟨Ax, zx, rfl, hzx, hp⟩
    have HPx := Lib.hid hp
    clear hp HPc
    go_wp2_with fail
    refine (pm_num HPx.out A3 Ax z3 zx _ (by simp) (by simp) hz3 hzx (by omega)).mono ?_
    rintro e wy ⟨rfl, hp⟩
    have HPd := Lib.hid (hp.drop (rows' := [(A3, M2.out), (A2, M2.regs), (A1, M2.words)]) (fun r hr => List.mem_cons_of_mem _ hr))
    clear hp HPx hzx
    go_wp2_with fail
    have HI : Hid (FuelI W N g1 g2 M2 A1 A2 A3 M2.words.length M2.regs.length M2.out.length wy) := HPd.out.fuelI (by simp) (by simp) (by simp)
    clear HPd
    go_loopw [22] (fun v wr => ∃ q : Nat, q ≤ M2.words.length ∧ v = .int .i64 q ∧ Hid (FuelI W N g1 g2 M2 A1 A2 A3 M2.words.length M2.regs.length M2.out.length wr)) (fun v _ => M2.words.length - (intOf v).toNat)
    case atStart => exact ⟨0, by omega, rfl, HI⟩
    case round =>
      obtain ⟨q, hq, rfl, hI⟩ := hrel
      by_cases hlt : q < M2.words.length
      · obtain ⟨gq, oq, xq, rfl, hgq, -, cq, fq⟩ := hI.out.2.1 q hlt
        have HIq := Lib.hid (fun y => hI.out.set gq (oq + q) y hgq)
        clear hI
        go_wp2_with fail
        go_roundw
        case rel => exact ⟨q + 1, by omega, by go_num, HIq.out _⟩
        case measure => simp [intOf]; omega
      · obtain rfl : q = M2.words.length := by omega
        have HI := Lib.hid hI.out
        clear hI
        go_wp2_with fail
        go_loopw [23] (fun v wr => ∃ q : Nat, q ≤ M2.regs.length ∧ v = .int .i64 q ∧ Hid (FuelI W N g1 g2 M2 A1 A2 A3 M2.words.length M2.regs.length M2.out.length wr)) (fun v _ => M2.regs.length - (intOf v).toNat)
        case atStart => exact ⟨0, by omega, rfl, HI⟩
        case round =>
          obtain ⟨q, hq, rfl, hI⟩ := hrel
          by_cases hlt : q < M2.regs.length
          · obtain ⟨gq, oq, xq, rfl, hgq, -, cq, fq⟩ := hI.out.2.2.1 q hlt
            have HIq := Lib.hid (fun y => hI.out.set gq (oq + q) y hgq)
            clear hI
            go_wp2_with fail
            go_roundw
            case rel => exact ⟨q + 1, by omega, by go_num, HIq.out _⟩
            case measure => simp [intOf]; omega
          · obtain rfl : q = M2.regs.length := by omega
            have HI := Lib.hid hI.out
            clear hI
            go_wp2_with fail
            go_loopw [24] (fun v wr => ∃ q : Nat, q ≤ M2.out.length ∧ v = .int .i64 q ∧ Hid (FuelI W N g1 g2 M2 A1 A2 A3 M2.words.length M2.regs.length M2.out.length wr)) (fun v _ => M2.out.length - (intOf v).toNat)
            case atStart => exact ⟨0, by omega, rfl, HI⟩
            case round =>
              obtain ⟨q, hq, rfl, hI⟩ := hrel
              by_cases hlt : q < M2.out.length
              · obtain ⟨gq, oq, xq, rfl, hgq, -, cq, fq⟩ := hI.out.2.2.2 q hlt
                have HIq := Lib.hid (fun y => hI.out.set gq (oq + q) y hgq)
                clear hI
                go_wp2_with fail
                go_roundw
                case rel => exact ⟨q + 1, by omega, by go_num, HIq.out _⟩
                case measure => simp [intOf]; omega
              · obtain rfl : q = M2.out.length := by omega
                have HI := Lib.hid hI.out
                clear hI
                go_wp2_with fail
                have HP : Hid (Pm W N g1 g2 M2 [] wr) := ⟨HI.out.1, fun r hr => absurd hr (by simp)⟩
                clear HI
                refine (pm_words1 HP.out (by omega)).mono ?_
                rintro e wa ⟨Aa, za, rfl, hza, hp⟩
                have HPa := Lib.hid hp
                clear hp HP
                go_wp2_with fail
                refine (pm_words2 HPa.out (by omega)).mono ?_
                rintro e wx ⟨Ax, zx, rfl, hzx, hp⟩
                have HPx := Lib.hid hp
                clear hp HPa
                go_wp2_with fail
                refine (pm_num HPx.out Aa Ax za zx _ (by simp) (by simp) hza hzx (by omega)).mono ?_
                rintro e wy ⟨rfl, hp⟩
                have HP := Lib.hid (hp.drop (rows' := []) (fun r hr => absurd hr (by simp)))
                clear hp HPx hza hzx
                go_wp2_with fail
                refine (pm_regs1 HP.out).mono ?_
                rintro e wa ⟨Aa, za, rfl, hza, hp⟩
                have HPa := Lib.hid hp
                clear hp HP
                go_wp2_with fail
                refine (pm_regs2 HPa.out).mono ?_
                rintro e wx ⟨Ax, zx, rfl, hzx, hp⟩
                have HPx := Lib.hid hp
                clear hp HPa
                go_wp2_with fail
                refine (pm_num HPx.out Aa Ax za zx _ (by simp) (by simp) hza hzx (by omega)).mono ?_
                rintro e wy ⟨rfl, hp⟩
                have HP := Lib.hid (hp.drop (rows' := []) (fun r hr => absurd hr (by simp)))
                clear hp HPx hza hzx
                go_wp2_with fail
                refine (pm_out1 HP.out (by omega)).mono ?_
                rintro e wa ⟨Aa, za, rfl, hza, hp⟩
                have HPa := Lib.hid hp
                clear hp HP
                go_wp2_with fail
                refine (pm_out2 HPa.out (by omega)).mono ?_
                rintro e wx ⟨Ax, zx, rfl, hzx, hp⟩
                have HPx := Lib.hid hp
                clear hp HPa
                go_wp2_with fail
                refine (pm_num HPx.out Aa Ax za zx _ (by simp) (by simp) hza hzx (by omega)).mono ?_
                rintro e wy ⟨rfl, hp⟩
                have HP := Lib.hid (hp.drop (rows' := []) (fun r hr => absurd hr (by simp)))
                clear hp HPx hza hzx
                go_wp2_with fail
                have HE := Lib.hid HP.out.1.sz.2.2
                refine (works4_any _).mono ?_
                rintro e wz ⟨rfl, hb⟩
                have HE2 := Lib.hid (HE.out.trans (hb.mono HE.out.size))
                clear hb HE HP
                go_wp2_with fail
                go_ret
                exact ⟨rfl, HE2.out⟩
  · have x1 := nbeq_of hne
    have x2 : (h2 != 0) = true := by simp [hne]
    go_wp2_with fail
    refine (pm_words1 HP.out (by omega)).mono ?_
    rintro e w8 ⟨A1, z1, rfl, hz1, hp⟩
    have HP8 := Lib.hid hp
    clear hp HP
    go_wp2_with fail
    refine (pm_regs1 HP8.out).mono ?_
    rintro e w9 ⟨A2, z2, rfl, hz2, hp⟩
    have HP9 := Lib.hid hp
    clear hp HP8
    go_wp2_with fail
    refine (pm_out1 HP9.out (by omega)).mono ?_
    rintro e w10 ⟨A3, z3, rfl, hz3, hp⟩
    have HPa := Lib.hid hp
    clear hp HP9
    go_wp2_with fail
    refine (one_pc HPa.out.1.one).mono ?_
    rintro e w' ⟨rfl, rfl⟩
    go_wp2_with fail
    refine (one_pc HPa.out.1.two).mono ?_
    rintro e w' ⟨rfl, rfl⟩
    go_wp2_with fail
    refine (one_left HPa.out.1.one).mono ?_
    rintro e w' ⟨rfl, rfl⟩
    go_wp2_with fail
    refine (one_left HPa.out.1.two).mono ?_
    rintro e w' ⟨rfl, rfl⟩
    go_wp2_with fail
    refine (pm_words2 HPa.out (by omega)).mono ?_
    rintro e wx ⟨Ax, zx, rfl, hzx, hp⟩
    have HPx := Lib.hid hp
    clear hp HPa
    go_wp2_with fail
    refine (pm_num HPx.out A1 Ax z1 zx _ (by simp) (by simp) hz1 hzx (by omega)).mono ?_
    rintro e wy ⟨rfl, hp⟩
    have HPb := Lib.hid (hp.drop (rows' := [(A3, M2.out), (A2, M2.regs), (A1, M2.words)]) (fun r hr => List.mem_cons_of_mem _ hr))
    clear hp HPx hzx
    go_wp2_with fail
    refine (pm_regs2 HPb.out).mono ?_
    rintro e wx ⟨Ax, zx, rfl, hzx, hp⟩
    have HPx := Lib.hid hp
    clear hp HPb
    go_wp2_with fail
    refine (pm_num HPx.out A2 Ax z2 zx _ (by simp) (by simp) hz2 hzx (by omega)).mono ?_
    rintro e wy ⟨rfl, hp⟩
    have HPc := Lib.hid (hp.drop (rows' := [(A3, M2.out), (A2, M2.regs), (A1, M2.words)]) (fun r hr => List.mem_cons_of_mem _ hr))
    clear hp HPx hzx
    go_wp2_with fail
    refine (pm_out2 HPc.out (by omega)).mono ?_
    rintro e wx ⟨Ax, zx, rfl, hzx, hp⟩
    have HPx := Lib.hid hp
    clear hp HPc
    go_wp2_with fail
    refine (pm_num HPx.out A3 Ax z3 zx _ (by simp) (by simp) hz3 hzx (by omega)).mono ?_
    rintro e wy ⟨rfl, hp⟩
    have HPd := Lib.hid (hp.drop (rows' := [(A3, M2.out), (A2, M2.regs), (A1, M2.words)]) (fun r hr => List.mem_cons_of_mem _ hr))
    clear hp HPx hzx
    go_wp2_with fail
    have HI : Hid (FuelI W N g1 g2 M2 A1 A2 A3 M2.words.length M2.regs.length M2.out.length wy) := HPd.out.fuelI (by simp) (by simp) (by simp)
    clear HPd
    go_loopw [22] (fun v wr => ∃ q : Nat, q ≤ M2.words.length ∧ v = .int .i64 q ∧ Hid (FuelI W N g1 g2 M2 A1 A2 A3 M2.words.length M2.regs.length M2.out.length wr)) (fun v _ => M2.words.length - (intOf v).toNat)
    case atStart => exact ⟨0, by omega, rfl, HI⟩
    case round =>
      obtain ⟨q, hq, rfl, hI⟩ := hrel
      by_cases hlt : q < M2.words.length
      · obtain ⟨gq, oq, xq, rfl, hgq, -, cq, fq⟩ := hI.out.2.1 q hlt
        have HIq := Lib.hid (fun y => hI.out.set gq (oq + q) y hgq)
        clear hI
        go_wp2_with fail
        go_roundw
        case rel => exact ⟨q + 1, by omega, by go_num, HIq.out _⟩
        case measure => simp [intOf]; omega
      · obtain rfl : q = M2.words.length := by omega
        have HI := Lib.hid hI.out
        clear hI
        go_wp2_with fail
        go_loopw [23] (fun v wr => ∃ q : Nat, q ≤ M2.regs.length ∧ v = .int .i64 q ∧ Hid (FuelI W N g1 g2 M2 A1 A2 A3 M2.words.length M2.regs.length M2.out.length wr)) (fun v _ => M2.regs.length - (intOf v).toNat)
        case atStart => exact ⟨0, by omega, rfl, HI⟩
        case round =>
          obtain ⟨q, hq, rfl, hI⟩ := hrel
          by_cases hlt : q < M2.regs.length
          · obtain ⟨gq, oq, xq, rfl, hgq, -, cq, fq⟩ := hI.out.2.2.1 q hlt
            have HIq := Lib.hid (fun y => hI.out.set gq (oq + q) y hgq)
            clear hI
            go_wp2_with fail
            go_roundw
            case rel => exact ⟨q + 1, by omega, by go_num, HIq.out _⟩
            case measure => simp [intOf]; omega
          · obtain rfl : q = M2.regs.length := by omega
            have HI := Lib.hid hI.out
            clear hI
            go_wp2_with fail
            go_loopw [24] (fun v wr => ∃ q : Nat, q ≤ M2.out.length ∧ v = .int .i64 q ∧ Hid (FuelI W N g1 g2 M2 A1 A2 A3 M2.words.length M2.regs.length M2.out.length wr)) (fun v _ => M2.out.length - (intOf v).toNat)
            case atStart => exact ⟨0, by omega, rfl, HI⟩
            case round =>
              obtain ⟨q, hq, rfl, hI⟩ := hrel
              by_cases hlt : q < M2.out.length
              · obtain ⟨gq, oq, xq, rfl, hgq, -, cq, fq⟩ := hI.out.2.2.2 q hlt
                have HIq := Lib.hid (fun y => hI.out.set gq (oq + q) y hgq)
                clear hI
                go_wp2_with fail
                go_roundw
                case rel => exact ⟨q + 1, by omega, by go_num, HIq.out _⟩
                case measure => simp [intOf]; omega
              · obtain rfl : q = M2.out.length := by omega
                have HI := Lib.hid hI.out
                clear hI
                go_wp2_with fail
                have HP : Hid (Pm W N g1 g2 M2 [] wr) := ⟨HI.out.1, fun r hr => absurd hr (by simp)⟩
                clear HI
                refine (pm_words1 HP.out (by omega)).mono ?_
                rintro e wa ⟨Aa, za, rfl, hza, hp⟩
                have HPa := Lib.hid hp
                clear hp HP
                go_wp2_with fail
                refine (pm_words2 HPa.out (by omega)).mono ?_
                rintro e wx ⟨Ax, zx, rfl, hzx, hp⟩
                have HPx := Lib.hid hp
                clear hp HPa
                go_wp2_with fail
                refine (pm_num HPx.out Aa Ax za zx _ (by simp) (by simp) hza hzx (by omega)).mono ?_
                rintro e wy ⟨rfl, hp⟩
                have HP := Lib.hid (hp.drop (rows' := []) (fun r hr => absurd hr (by simp)))
                clear hp HPx hza hzx
                go_wp2_with fail
                refine (pm_regs1 HP.out).mono ?_
                rintro e wa ⟨Aa, za, rfl, hza, hp⟩
                have HPa := Lib.hid hp
                clear hp HP
                go_wp2_with fail
                refine (pm_regs2 HPa.out).mono ?_
                rintro e wx ⟨Ax, zx, rfl, hzx, hp⟩
                have HPx := Lib.hid hp
                clear hp HPa
                go_wp2_with fail
                refine (pm_num HPx.out Aa Ax za zx _ (by simp) (by simp) hza hzx (by omega)).mono ?_
                rintro e wy ⟨rfl, hp⟩
                have HP := Lib.hid (hp.drop (rows' := []) (fun r hr => absurd hr (by simp)))
                clear hp HPx hza hzx
                go_wp2_with fail
                refine (pm_out1 HP.out (by omega)).mono ?_
                rintro e wa ⟨Aa, za, rfl, hza, hp⟩
                have HPa := Lib.hid hp
                clear hp HP
                go_wp2_with fail
                refine (pm_out2 HPa.out (by omega)).mono ?_
                rintro e wx ⟨Ax, zx, rfl, hzx, hp⟩
                have HPx := Lib.hid hp
                clear hp HPa
                go_wp2_with fail
                refine (pm_num HPx.out Aa Ax za zx _ (by simp) (by simp) hza hzx (by omega)).mono ?_
                rintro e wy ⟨rfl, hp⟩
                have HP := Lib.hid (hp.drop (rows' := []) (fun r hr => absurd hr (by simp)))
                clear hp HPx hza hzx
                go_wp2_with fail
                have HE := Lib.hid HP.out.1.sz.2.2
                refine (works4_any _).mono ?_
                rintro e wz ⟨rfl, hb⟩
                have HE2 := Lib.hid (HE.out.trans (hb.mono HE.out.size))
                clear hb HE HP
                go_wp2_with fail
                go_ret
                exact ⟨rfl, HE2.out⟩

end Go.Proofs.YtnffiaphpcopjaaGreat
