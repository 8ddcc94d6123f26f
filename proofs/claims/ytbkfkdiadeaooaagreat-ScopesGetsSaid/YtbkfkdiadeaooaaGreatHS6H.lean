/-
  Merged for a claim: S6H.
-/
import Derived.Test.YtbkfkdiadeaooaaGreatHJ6
import Derived.Test.YtbkfkdiadeaooaaGreatHJ8
namespace Go.Proofs.YtbkfkdiadeaooaaGreat
open Go Go.RowKit

/-- behind some steps read, of whatever kind -/
theorem GetI.stop {b : List UInt8} {M k0 j k : Nat} {ls : List Lc} (h : GetI b M k0 j k ls) (hj : j < M) (ho : rdO (b.drop k) = none) :
    ((rdM M (b.drop k0)).bind fun q => if rightC q.1 = true then some (q.1, k0 + q.2) else none) = none := by
  rw [h.all, show M - j = (M - (j + 1)) + 1 by omega, rdM_none ho]; rfl
theorem rdO_end {b : List UInt8} {k : Nat} (h : b.length ≤ k) : rdO (b.drop k) = none := by rw [List.drop_eq_nil_of_le h]; rfl
theorem rdO_at {b : List UInt8} {k : Nat} (h : k < b.length) : rdO (b.drop k) = if nmb b[k].toNat = true then (if good true (b.drop (k + 1)) then some (⟨b[k].toNat, hv true (b.drop (k + 1))⟩, lg (b.drop (k + 1)) 10 + 1) else none) else some (⟨b[k].toNat, 0⟩, 1) := by
  rw [List.drop_eq_getElem_cons h, rdO_cons]
theorem refRight6_n (A : Option Addr) (n c : Nat) (l : List Lc) (w : World) (hl : l.length = n) (hn : n ≤ 1099511627776) (h : LLies w w.heap.size A l) :
    Calls Tryz.prog 95 #[.slice A n c] w (RightR6 l w) := by subst hl; exact refRight6_any A c l w hn h

set_option maxRecDepth 100000 in
set_option maxHeartbeats 4000000 in
theorem refGet6_any (A : Option Addr) (c : Nat) (b : List UInt8) (i : Int) (w : World) (hn : b.length ≤ 1099511627776) (h : Lies w w.heap.size A b) :
    Calls Tryz.prog 77 #[.slice A b.length c, .int .i64 i] w (GetR6 b i w) := by
  have HU := Lib.hid (refU_any A c b i w hn h)
  unfold RdR at HU
  by_cases h0 : i < 0
  · have HG := Lib.hid (ge_arg (b := b) (.inl h0))
    clear h HU
    go_enter Tryz.func77, Tryz.ntmps77
    go_wp2_with fail
    go_ret3
    obtain ⟨g1, g2, g3⟩ := HG.out
    exact ⟨_, by rw [g1, g3]; rfl, by rw [g2]; exact LOwn.nil _ _, Below.refl _ _⟩
  · by_cases h1 : (b.length : Int) < i
    · have HG := Lib.hid (ge_arg (b := b) (.inr h1))
      clear h HU
      go_enter Tryz.func77, Tryz.ntmps77
      go_wp2_with fail
      go_ret3
      obtain ⟨g1, g2, g3⟩ := HG.out
      exact ⟨_, by rw [g1, g3]; rfl, by rw [g2]; exact LOwn.nil _ _, Below.refl _ _⟩
    · obtain ⟨k, rfl⟩ : ∃ k : Nat, i = k := ⟨i.toNat, by omega⟩
      have hk : k ≤ b.length := by omega
      have hki : (k : Int) ≤ (b.length : Int) := by omega
      clear h0 h1
      by_cases hg : good false (b.drop k)
      · obtain ⟨q1, q2, q3⟩ := rd_ok hk hg
        rw [q1, q2, q3] at HU
        have hrg := hv_rng hg
        simp only [rng, Bool.false_eq_true, if_false] at hrg
        obtain ⟨hr0, hr1⟩ := hrg
        obtain ⟨g1, g2, _, _⟩ := lg_has 10 (b.drop k) hg.1
        simp at g2
        obtain ⟨M, hM⟩ : ∃ M : Nat, hv false (b.drop k) = M := ⟨(hv false (b.drop k)).toNat, by omega⟩
        have HMany := Lib.hid (fun h16 => gotO_many (b := b) (k := k) h16)
        have HOf := Lib.hid (fun h16 => gotO_of (b := b) (k := k) (M := M) hg hM h16 rfl)
        rw [hM] at HU HMany
        clear q1 q2 q3 hr0 hg hM hr1
        have hkn : ((k : Int) + (lg (b.drop k) 10 : Int)) = ((k + lg (b.drop k) 10 : Nat) : Int) := by omega
        rw [hkn] at HU
        have hk0 : k + lg (b.drop k) 10 ≤ b.length := by omega
        clear hkn g1 g2
        generalize k + lg (b.drop k) 10 = k0 at *
        by_cases h16 : 16 < M
        · have HG := Lib.hid (ge_none hk (HMany.out (by omega)))
          have h16i : (16 : Int) < (M : Int) := by omega
          clear HMany HOf h
          go_enter Tryz.func77, Tryz.ntmps77
          go_wp2_with fail
          refine HU.out.mono ?_
          rintro e w1 ⟨rfl, hb1⟩
          go_wp2_with fail
          go_ret3
          obtain ⟨g1, g2, g3⟩ := HG.out
          exact ⟨_, by rw [g1, g3]; rfl, by rw [g2]; exact LOwn.nil _ _, hb1⟩
        · have h16i : (M : Int) ≤ 16 := by omega
          have HE := Lib.hid (HOf.out (by omega))
          have h16n : M ≤ 16 := by omega
          clear HMany HOf h16
          go_enter Tryz.func77, Tryz.ntmps77
          go_wp2_with fail
          refine HU.out.mono ?_
          rintro e w1 ⟨rfl, hb1⟩
          have HB1 := Lib.hid hb1
          clear HU hb1
          go_wp2_with fail
          go_loopw [8, 10, 11] (fun t v i wr => ∃ (j k : Nat) (ls : List Lc), j ≤ M ∧ i = .int .i64 j ∧ t = .int .i64 k ∧ Hid (GetI b M k0 j k ls) ∧ Hid (LOwn wr w.heap.size v ls) ∧ Hid (Below w.heap.size w wr)) (fun _ _ i _ => M - (intOf i).toNat)
          case atStart => exact ⟨0, k0, [], by omega, rfl, rfl, getI_start hk0, LOwn.nil _ _, HB1⟩
          case round =>
            obtain ⟨j, p, ls, hj, rfl, rfl, hI, hO, hB⟩ := hrel
            clear HB1
            by_cases hlt : j < M
            · have hpb := hI.out.le
              by_cases hpl : p < b.length
              · obtain ⟨g, o, rfl, hg, c0⟩ := (h.below hB.out).at_ hpl
                have hpi : (p : Int) < (b.length : Int) := by omega
                have hRO := rdO_at hpl
                have hku := good_u8 b[p]
                have hfew : ls.length ≤ 16 := by have := hI.out.len; omega
                have hN1 : ((p : Int) + 1) = ((p + 1 : Nat) : Int) := by omega
                by_cases e1 : b[p].toNat = 1
                · rw [e1] at c0 hRO
                  rw [if_pos (by decide)] at hRO
                  have hL0 := locAt_new wr ⟨1, 0⟩
                  unfold cK at hL0
                  simp only at hL0
                  have hb0 := below_lnew wr (.cells #[.int .u8 1, .int .i64 0] 74)
                  have HS := Lib.hid (refS_any (some ⟨g, o, none⟩) c b ((p : Int) + 1) (wr.alloc (.cells #[.int .u8 1, .int .i64 0] 74)) hn ((h.below (hB.out.trans (hb0.mono hB.out.size))).more (by have := hB.out.size; simp; omega)))
                  unfold RdR at HS
                  have HL0 := Lib.hid hL0
                  have HB0 := Lib.hid hb0
                  clear hL0 hb0
                  by_cases hg2 : good true (b.drop (p + 1))
                  · rw [if_pos hg2] at hRO
                    obtain ⟨q1, q2, q3⟩ := rd_ok (b := true) (l := b) (k := p + 1) (by omega) hg2
                    rw [hN1, q1, q2, q3] at HS
                    have HN := Lib.hid (hI.out.next hlt hRO)
                    have hgl := (rdO_rng hRO).2.2
                    simp at hgl
                    clear hg2 q1 q2 q3 hRO
                    generalize hv true (b.drop (p + 1)) = z at *
                    generalize lg (b.drop (p + 1)) 10 = y at *
                    rw [← hN1] at HS
                    clear hN1 hI
                    go_wp2_with fail
                    refine HS.out.mono ?_
                    rintro e w2 ⟨rfl, hb2⟩
                    have HL2 := Lib.hid (HL0.out.below hb2 (by simp))
                    have HB2 := Lib.hid (HB0.out.trans (hb2.mono (by simp)))
                    have c1 := HL2.out.kd
                    have c2 := HL2.out.nm
                    have f0 := HL2.out.frozen 0
                    have f1 := HL2.out.frozen 1
                    have HLs := Lib.hid (HL2.out.set1 z)
                    have HBs := Lib.hid (below_set HB2.out ⟨wr.heap.size, 1, none⟩ (.int .i64 z) (Nat.le_refl _))
                    have HBz := HBs.out.size
                    have HB4 := Lib.hid ((hB.out.trans (HBs.out.mono hB.out.size)).trans ((below_lnew (w2.setCell ⟨wr.heap.size, 1, none⟩ (.int .i64 z)) (.cells #[.int .u8 1, .int .i64 z] 74)).mono (Nat.le_trans hB.out.size HBz)))
                    have HO4 := Lib.hid ((hO.out.below HBs.out).below (below_lnew (w2.setCell ⟨wr.heap.size, 1, none⟩ (.int .i64 z)) (.cells #[.int .u8 1, .int .i64 z] 74)))
                    have HL4 := Lib.hid (show LocAt ((w2.setCell ⟨wr.heap.size, 1, none⟩ (.int .i64 z)).alloc (.cells #[.int .u8 1, .int .i64 z] 74)) w2.heap.size ⟨1, z⟩ from by
                      have := locAt_new (w2.setCell ⟨wr.heap.size, 1, none⟩ (.int .i64 z)) ⟨1, z⟩
                      rwa [show (w2.setCell ⟨wr.heap.size, 1, none⟩ (.int .i64 z)).heap.size = w2.heap.size by simp [World.setCell]] at this)
                    have hz4 := HB4.out.size
                    simp only at c1 c2
                    clear hb2 c0 hO hB HB0 HL0 HS HL2 HB2
                    go_wp2_with (at_builtin
                                 refine app_loc _ rfl (.tmp 74) (.tmp 76) rfl w.heap.size _ ls rfl HO4.out w2.heap.size 1 ⟨1, z⟩ rfl HL4.out (by omega) hz4 ?_
                                 intro v5 w5 ho5 hg5
                                 have HB5 := Lib.hid (below_lgrown HB4.out hg5 HO4.out hz4)
                                 clear hg5)
                    go_roundw
                    case rel => exact ⟨j + 1, p + (y + 1), ls ++ [(⟨1, z⟩ : Lc)], by omega, by go_num, by go_num, Lib.hid (show GetI b M k0 (j + 1) (p + (y + 1)) (ls ++ [⟨1, z⟩]) from HN.out), Lib.hid ho5, HB5⟩
                    case measure => simp [intOf]; omega
                  · rw [if_neg hg2] at hRO
                    obtain ⟨q1, q2, q3⟩ := rd_form (b := true) (l := b) (k := p + 1) (by omega) hg2
                    rw [hN1, q1, q2, q3] at HS
                    have HG := Lib.hid (ge_none hk (HE.out.trans (hI.out.stop hlt hRO)))
                    clear hg2 q1 q2 q3 hRO
                    rw [← hN1] at HS
                    clear hN1 hI
                    go_wp2_with fail
                    refine HS.out.mono ?_
                    rintro e w2 ⟨rfl, hb2⟩
                    have HL2 := Lib.hid (HL0.out.below hb2 (by simp))
                    have HB2 := Lib.hid (HB0.out.trans (hb2.mono (by simp)))
                    have f0 := HL2.out.frozen 0
                    have f1 := HL2.out.frozen 1
                    have c1 := HL2.out.kd
                    have c2 := HL2.out.nm
                    have HBs := Lib.hid (hB.out.trans ((below_set HB2.out ⟨wr.heap.size, 1, none⟩ (.int .i64 0) (Nat.le_refl _)).mono hB.out.size))
                    simp only at c1 c2
                    clear hb2 c0 hO hB HB0 HL0 HS HL2
                    go_wp2_with fail
                    go_ret3
                    obtain ⟨g1, g2, g3⟩ := HG.out
                    exact ⟨_, by rw [g1, g3]; rfl, by rw [g2]; exact LOwn.nil _ _, HBs.out⟩
                by_cases e2 : b[p].toNat = 2
                · rw [e2] at c0 hRO
                  rw [if_pos (by decide)] at hRO
                  have hL0 := locAt_new wr ⟨2, 0⟩
                  unfold cK at hL0
                  simp only at hL0
                  have hb0 := below_lnew wr (.cells #[.int .u8 2, .int .i64 0] 74)
                  have HS := Lib.hid (refS_any (some ⟨g, o, none⟩) c b ((p : Int) + 1) (wr.alloc (.cells #[.int .u8 2, .int .i64 0] 74)) hn ((h.below (hB.out.trans (hb0.mono hB.out.size))).more (by have := hB.out.size; simp; omega)))
                  unfold RdR at HS
                  have HL0 := Lib.hid hL0
                  have HB0 := Lib.hid hb0
                  clear hL0 hb0
                  by_cases hg2 : good true (b.drop (p + 1))
                  · rw [if_pos hg2] at hRO
                    obtain ⟨q1, q2, q3⟩ := rd_ok (b := true) (l := b) (k := p + 1) (by omega) hg2
                    rw [hN1, q1, q2, q3] at HS
                    have HN := Lib.hid (hI.out.next hlt hRO)
                    have hgl := (rdO_rng hRO).2.2
                    simp at hgl
                    clear hg2 q1 q2 q3 hRO
                    generalize hv true (b.drop (p + 1)) = z at *
                    generalize lg (b.drop (p + 1)) 10 = y at *
                    rw [← hN1] at HS
                    clear hN1 hI
                    go_wp2_with fail
                    refine HS.out.mono ?_
                    rintro e w2 ⟨rfl, hb2⟩
                    have HL2 := Lib.hid (HL0.out.below hb2 (by simp))
                    have HB2 := Lib.hid (HB0.out.trans (hb2.mono (by simp)))
                    have c1 := HL2.out.kd
                    have c2 := HL2.out.nm
                    have f0 := HL2.out.frozen 0
                    have f1 := HL2.out.frozen 1
                    have HLs := Lib.hid (HL2.out.set1 z)
                    have HBs := Lib.hid (below_set HB2.out ⟨wr.heap.size, 1, none⟩ (.int .i64 z) (Nat.le_refl _))
                    have HBz := HBs.out.size
                    have HB4 := Lib.hid ((hB.out.trans (HBs.out.mono hB.out.size)).trans ((below_lnew (w2.setCell ⟨wr.heap.size, 1, none⟩ (.int .i64 z)) (.cells #[.int .u8 2, .int .i64 z] 74)).mono (Nat.le_trans hB.out.size HBz)))
                    have HO4 := Lib.hid ((hO.out.below HBs.out).below (below_lnew (w2.setCell ⟨wr.heap.size, 1, none⟩ (.int .i64 z)) (.cells #[.int .u8 2, .int .i64 z] 74)))
                    have HL4 := Lib.hid (show LocAt ((w2.setCell ⟨wr.heap.size, 1, none⟩ (.int .i64 z)).alloc (.cells #[.int .u8 2, .int .i64 z] 74)) w2.heap.size ⟨2, z⟩ from by
                      have := locAt_new (w2.setCell ⟨wr.heap.size, 1, none⟩ (.int .i64 z)) ⟨2, z⟩
                      rwa [show (w2.setCell ⟨wr.heap.size, 1, none⟩ (.int .i64 z)).heap.size = w2.heap.size by simp [World.setCell]] at this)
                    have hz4 := HB4.out.size
                    simp only at c1 c2
                    clear hb2 c0 hO hB HB0 HL0 HS HL2 HB2
                    go_wp2_with (at_builtin
                                 refine app_loc _ rfl (.tmp 74) (.tmp 76) rfl w.heap.size _ ls rfl HO4.out w2.heap.size 1 ⟨2, z⟩ rfl HL4.out (by omega) hz4 ?_
                                 intro v5 w5 ho5 hg5
                                 have HB5 := Lib.hid (below_lgrown HB4.out hg5 HO4.out hz4)
                                 clear hg5)
                    go_roundw
                    case rel => exact ⟨j + 1, p + (y + 1), ls ++ [(⟨2, z⟩ : Lc)], by omega, by go_num, by go_num, Lib.hid (show GetI b M k0 (j + 1) (p + (y + 1)) (ls ++ [⟨2, z⟩]) from HN.out), Lib.hid ho5, HB5⟩
                    case measure => simp [intOf]; omega
                  · rw [if_neg hg2] at hRO
                    obtain ⟨q1, q2, q3⟩ := rd_form (b := true) (l := b) (k := p + 1) (by omega) hg2
                    rw [hN1, q1, q2, q3] at HS
                    have HG := Lib.hid (ge_none hk (HE.out.trans (hI.out.stop hlt hRO)))
                    clear hg2 q1 q2 q3 hRO
                    rw [← hN1] at HS
                    clear hN1 hI
                    go_wp2_with fail
                    refine HS.out.mono ?_
                    rintro e w2 ⟨rfl, hb2⟩
                    have HL2 := Lib.hid (HL0.out.below hb2 (by simp))
                    have HB2 := Lib.hid (HB0.out.trans (hb2.mono (by simp)))
                    have f0 := HL2.out.frozen 0
                    have f1 := HL2.out.frozen 1
                    have c1 := HL2.out.kd
                    have c2 := HL2.out.nm
                    have HBs := Lib.hid (hB.out.trans ((below_set HB2.out ⟨wr.heap.size, 1, none⟩ (.int .i64 0) (Nat.le_refl _)).mono hB.out.size))
                    simp only at c1 c2
                    clear hb2 c0 hO hB HB0 HL0 HS HL2
                    go_wp2_with fail
                    go_ret3
                    obtain ⟨g1, g2, g3⟩ := HG.out
                    exact ⟨_, by rw [g1, g3]; rfl, by rw [g2]; exact LOwn.nil _ _, HBs.out⟩
                by_cases e3 : b[p].toNat = 3
                · rw [e3] at c0 hRO
                  rw [if_pos (by decide)] at hRO
                  have hL0 := locAt_new wr ⟨3, 0⟩
                  unfold cK at hL0
                  simp only at hL0
                  have hb0 := below_lnew wr (.cells #[.int .u8 3, .int .i64 0] 74)
                  have HS := Lib.hid (refS_any (some ⟨g, o, none⟩) c b ((p : Int) + 1) (wr.alloc (.cells #[.int .u8 3, .int .i64 0] 74)) hn ((h.below (hB.out.trans (hb0.mono hB.out.size))).more (by have := hB.out.size; simp; omega)))
                  unfold RdR at HS
                  have HL0 := Lib.hid hL0
                  have HB0 := Lib.hid hb0
                  clear hL0 hb0
                  by_cases hg2 : good true (b.drop (p + 1))
                  · rw [if_pos hg2] at hRO
                    obtain ⟨q1, q2, q3⟩ := rd_ok (b := true) (l := b) (k := p + 1) (by omega) hg2
                    rw [hN1, q1, q2, q3] at HS
                    have HN := Lib.hid (hI.out.next hlt hRO)
                    have hgl := (rdO_rng hRO).2.2
                    simp at hgl
                    clear hg2 q1 q2 q3 hRO
                    generalize hv true (b.drop (p + 1)) = z at *
                    generalize lg (b.drop (p + 1)) 10 = y at *
                    rw [← hN1] at HS
                    clear hN1 hI
                    go_wp2_with fail
                    refine HS.out.mono ?_
                    rintro e w2 ⟨rfl, hb2⟩
                    have HL2 := Lib.hid (HL0.out.below hb2 (by simp))
                    have HB2 := Lib.hid (HB0.out.trans (hb2.mono (by simp)))
                    have c1 := HL2.out.kd
                    have c2 := HL2.out.nm
                    have f0 := HL2.out.frozen 0
                    have f1 := HL2.out.frozen 1
                    have HLs := Lib.hid (HL2.out.set1 z)
                    have HBs := Lib.hid (below_set HB2.out ⟨wr.heap.size, 1, none⟩ (.int .i64 z) (Nat.le_refl _))
                    have HBz := HBs.out.size
                    have HB4 := Lib.hid ((hB.out.trans (HBs.out.mono hB.out.size)).trans ((below_lnew (w2.setCell ⟨wr.heap.size, 1, none⟩ (.int .i64 z)) (.cells #[.int .u8 3, .int .i64 z] 74)).mono (Nat.le_trans hB.out.size HBz)))
                    have HO4 := Lib.hid ((hO.out.below HBs.out).below (below_lnew (w2.setCell ⟨wr.heap.size, 1, none⟩ (.int .i64 z)) (.cells #[.int .u8 3, .int .i64 z] 74)))
                    have HL4 := Lib.hid (show LocAt ((w2.setCell ⟨wr.heap.size, 1, none⟩ (.int .i64 z)).alloc (.cells #[.int .u8 3, .int .i64 z] 74)) w2.heap.size ⟨3, z⟩ from by
                      have := locAt_new (w2.setCell ⟨wr.heap.size, 1, none⟩ (.int .i64 z)) ⟨3, z⟩
                      rwa [show (w2.setCell ⟨wr.heap.size, 1, none⟩ (.int .i64 z)).heap.size = w2.heap.size by simp [World.setCell]] at this)
                    have hz4 := HB4.out.size
                    simp only at c1 c2
                    clear hb2 c0 hO hB HB0 HL0 HS HL2 HB2
                    go_wp2_with (at_builtin
                                 refine app_loc _ rfl (.tmp 74) (.tmp 76) rfl w.heap.size _ ls rfl HO4.out w2.heap.size 1 ⟨3, z⟩ rfl HL4.out (by omega) hz4 ?_
                                 intro v5 w5 ho5 hg5
                                 have HB5 := Lib.hid (below_lgrown HB4.out hg5 HO4.out hz4)
                                 clear hg5)
                    go_roundw
                    case rel => exact ⟨j + 1, p + (y + 1), ls ++ [(⟨3, z⟩ : Lc)], by omega, by go_num, by go_num, Lib.hid (show GetI b M k0 (j + 1) (p + (y + 1)) (ls ++ [⟨3, z⟩]) from HN.out), Lib.hid ho5, HB5⟩
                    case measure => simp [intOf]; omega
                  · rw [if_neg hg2] at hRO
                    obtain ⟨q1, q2, q3⟩ := rd_form (b := true) (l := b) (k := p + 1) (by omega) hg2
                    rw [hN1, q1, q2, q3] at HS
                    have HG := Lib.hid (ge_none hk (HE.out.trans (hI.out.stop hlt hRO)))
                    clear hg2 q1 q2 q3 hRO
                    rw [← hN1] at HS
                    clear hN1 hI
                    go_wp2_with fail
                    refine HS.out.mono ?_
                    rintro e w2 ⟨rfl, hb2⟩
                    have HL2 := Lib.hid (HL0.out.below hb2 (by simp))
                    have HB2 := Lib.hid (HB0.out.trans (hb2.mono (by simp)))
                    have f0 := HL2.out.frozen 0
                    have f1 := HL2.out.frozen 1
                    have c1 := HL2.out.kd
                    have c2 := HL2.out.nm
                    have HBs := Lib.hid (hB.out.trans ((below_set HB2.out ⟨wr.heap.size, 1, none⟩ (.int .i64 0) (Nat.le_refl _)).mono hB.out.size))
                    simp only at c1 c2
                    clear hb2 c0 hO hB HB0 HL0 HS HL2
                    go_wp2_with fail
                    go_ret3
                    obtain ⟨g1, g2, g3⟩ := HG.out
                    exact ⟨_, by rw [g1, g3]; rfl, by rw [g2]; exact LOwn.nil _ _, HBs.out⟩
                have hnm : nmb b[p].toNat = false := by simp [nmb]; omega
                rw [hnm, if_neg (by decide)] at hRO
                have HN := Lib.hid (hI.out.next hlt hRO)
                have k1 : ¬ (b[p].toNat : Int) = 1 := by omega
                have k2 : ¬ (b[p].toNat : Int) = 2 := by omega
                have k3 : ¬ (b[p].toNat : Int) = 3 := by omega
                clear hRO hnm e1 e2 e3 hI hN1
                generalize b[p].toNat = kd at *
                have j1 : ((kd : Int) == 1) = false := by simpa using k1
                have j2 : ((kd : Int) == 2) = false := by simpa using k2
                have j3 : ((kd : Int) == 3) = false := by simpa using k3
                have HL2 := Lib.hid (loc2_new wr (.cells #[.int .u8 kd, .int .i64 0] 74) ⟨kd, 0⟩)
                have HB2 := Lib.hid (hB.out.trans ((below_lnew2 wr (.cells #[.int .u8 kd, .int .i64 0] 74) (.cells #[.int .u8 kd, .int .i64 0] 74)).mono hB.out.size))
                have HO2 := Lib.hid (hO.out.below (below_lnew2 wr (.cells #[.int .u8 kd, .int .i64 0] 74) (.cells #[.int .u8 kd, .int .i64 0] 74)))
                have hz2 := HB2.out.size
                unfold cK at HL2
                clear hO hB
                go_wp2_with (at_builtin
                             refine app_loc _ rfl (.tmp 74) (.tmp 76) rfl w.heap.size _ ls rfl HO2.out (wr.heap.size + 1) 1 ⟨kd, 0⟩ rfl HL2.out (by omega) hz2 ?_
                             intro v5 w5 ho5 hg5
                             have HB5 := Lib.hid (below_lgrown HB2.out hg5 HO2.out hz2)
                             clear hg5)
                go_roundw
                case rel => exact ⟨j + 1, p + 1, ls ++ [(⟨kd, 0⟩ : Lc)], by omega, by go_num, by go_num, HN, Lib.hid ho5, HB5⟩
                case measure => simp [intOf]; omega
              · have HG := Lib.hid (ge_none hk (HE.out.trans (hI.out.stop hlt (rdO_end (by omega)))))
                have hpi : (b.length : Int) ≤ (p : Int) := by omega
                clear hI hO
                go_wp2_with fail
                go_ret3
                obtain ⟨g1, g2, g3⟩ := HG.out
                exact ⟨_, by rw [g1, g3]; rfl, by rw [g2]; exact LOwn.nil _ _, hB.out⟩
            · obtain rfl : j = M := by omega
              have HF := Lib.hid (HE.out.trans hI.out.end_)
              have hfew : ls.length ≤ 16 := by have := hI.out.len; omega
              have HO' := Lib.hid hO.out
              obtain ⟨A2, n2, c2, rfl, hn2, _, _, hL2⟩ := hO.out.formN
              have HR := Lib.hid (refRight6_n A2 n2 c2 ls wr hn2.out (by rw [← hn2.out]; omega) hL2)
              unfold RightR6 at HR
              clear hI hL2 hO HE
              by_cases hr : rightC ls = true
              · rw [hr] at HR HF
                rw [if_pos rfl] at HF
                have HG := Lib.hid (ge_some hk HF.out)
                clear hr HF
                go_wp2_with fail
                refine HR.out.mono ?_
                rintro e w2 ⟨rfl, hb2⟩
                go_wp2_with fail
                go_ret3
                obtain ⟨g1, g2, g3⟩ := HG.out
                exact ⟨_, by rw [g1, g3]; rfl, by rw [g2]; exact HO'.out.below hb2, hB.out.trans (hb2.mono hB.out.size)⟩
              · have hr' : rightC ls = false := by simpa using hr
                rw [hr'] at HR HF
                rw [if_neg (by decide)] at HF
                have HG := Lib.hid (ge_none hk HF.out)
                clear hr hr' HF
                go_wp2_with fail
                refine HR.out.mono ?_
                rintro e w2 ⟨rfl, hb2⟩
                go_wp2_with fail
                go_ret3
                obtain ⟨g1, g2, g3⟩ := HG.out
                exact ⟨_, by rw [g1, g3]; rfl, by rw [g2]; exact LOwn.nil _ _, hB.out.trans (hb2.mono hB.out.size)⟩
      · obtain ⟨q1, q2, q3⟩ := rd_form hk hg
        rw [q1, q2, q3] at HU
        have HG := Lib.hid (ge_none hk (gotO_bad hg))
        clear h q1 q2 q3 hg
        go_enter Tryz.func77, Tryz.ntmps77
        go_wp2_with fail
        refine HU.out.mono ?_
        rintro e w1 ⟨rfl, hb1⟩
        go_wp2_with fail
        go_ret3
        obtain ⟨g1, g2, g3⟩ := HG.out
        exact ⟨_, by rw [g1, g3]; rfl, by rw [g2]; exact LOwn.nil _ _, hb1⟩
end Go.Proofs.YtbkfkdiadeaooaaGreat
