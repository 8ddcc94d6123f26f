/-
  Merged for a claim: T0C.
-/
import Derived.Test.YtbkfkdiadeaooaaGreatHJ22
import Derived.Deep.CutBlock
namespace Go.Proofs.YtbkfkdiadeaooaaGreat
open Go Go.RowKit

def GetD9 (b : List UInt8) (i : Int) (w : World) (e : Ending) (w' : World) : Prop :=
  ∃ v1 v2, e = .returned (.tuple #[v1, v2, .int .i64 (if gdE b i = 0 then (gdQ b i).2.1.at_ else 0), .int .i64 (gdE b i)]) ∧ PO w' w.heap.size v1 (if gdE b i = 0 then (gdL b i).1 else []) ∧ QO w' w.heap.size v2 (if gdE b i = 0 then (gdQ b i).1 else []) ∧ Below w.heap.size w w'

set_option maxRecDepth 100000 in
set_option maxHeartbeats 16000000 in
theorem dget_any (A : Option Addr) (c : Nat) (b : List UInt8) (i : Int) (w : World) (hc : b.length ≤ c) (hbn : b.length ≤ 1099511627776) (h : Lies w w.heap.size A b) :
    Calls Tryz.prog 7 #[.slice A b.length c, .int .i64 i] w (GetD9 b i w) := by
  by_cases h0 : i < 0
  · have hE := Lib.hid (show gdE b i = 1 from by unfold gdE; rw [if_pos (.inl h0)])
    go_enter Tryz.func7, Tryz.ntmps7
    go_wp2_with fail
    refine bodyPost_ret (results_tmp4 rfl _ _ _) rfl ?_
    exact ⟨_, _, by rw [hE.out]; rfl, by rw [hE.out]; exact PO.nil _ _, by rw [hE.out]; exact QO.nil _ _, Below.refl _ _⟩
  · by_cases h1 : (b.length : Int) < i
    · have hE := Lib.hid (show gdE b i = 1 from by unfold gdE; rw [if_pos (.inr h1)])
      go_enter Tryz.func7, Tryz.ntmps7
      go_wp2_with fail
      refine bodyPost_ret (results_tmp4 rfl _ _ _) rfl ?_
      exact ⟨_, _, by rw [hE.out]; rfl, by rw [hE.out]; exact PO.nil _ _, by rw [hE.out]; exact QO.nil _ _, Below.refl _ _⟩
    · have HOK := Lib.hid (show gdE b i = if gdOk b i = true then 0 else 5 from by unfold gdE; rw [if_neg (by omega)])
      have hb0 := below_lnew w (.cells #[.slice A b.length c, .int .i64 i, .bool false] 60)
      have hi0 : DdAt (w.alloc (.cells #[.slice A b.length c, .int .i64 i, .bool false] 60)) w.heap.size A c b ⟨i, false⟩ := heap_alloc_new w _
      have HI0 := Lib.hid hi0
      have HL0 := Lib.hid (h.below hb0)
      have HB0 := Lib.hid hb0
      have HV0 := Lib.hid (show Vd b ⟨i, false⟩ from ⟨i.toNat, by dsimp only; omega, by omega⟩)
      have HN1 := Lib.hid (dnumber_any w.heap.size A c b 64 ⟨i, false⟩ _ (by decide) hbn HL0.out HI0.out)
      obtain ⟨G, hG⟩ : ∃ G, gdL b i = G := ⟨_, rfl⟩
      have HG := Lib.hid hG
      clear hb0 hi0 hG h
      go_enter Tryz.func7, Tryz.ntmps7
      go_wp2_with fail
      refine HN1.out.mono ?_
      rintro e w2 ⟨rfl, hr2, hg2⟩
      have hrn := dnX_rng b 64 (by decide) ⟨i, false⟩
      have HG2 := Lib.hid (show G = goL (fun q => q.1.no) (getD b) (dnX b 64 ⟨i, false⟩).toNat (dnS b 64 ⟨i, false⟩, 0) from HG.out.symm)
      have HV2 := Lib.hid (vd_dn (m := 64) (by decide) HV0.out)
      generalize dnX b 64 ⟨i, false⟩ = n at *
      generalize dnS b 64 ⟨i, false⟩ = s0 at *
      have HI2 := Lib.hid hr2
      have hz0 : w.heap.size ≤ (w.alloc (.cells #[.slice A b.length c, .int .i64 i, .bool false] 60)).heap.size := by simp
      have HL2 := Lib.hid (HL0.out.below (below_gr hg2 (Nat.le_refl _) hz0))
      have HB2 := Lib.hid (HB0.out.trans (below_gr hg2 (Nat.le_refl _) hz0))
      obtain ⟨N, hN⟩ : ∃ N, n.toNat = N := ⟨_, rfl⟩
      have hNI : (N : Int) ≤ n ∧ n ≤ N := by omega
      rw [hN] at HG2
      clear hr2 hg2 HI0 HL0 HB0 HN1 hN HV0 hz0
      go_upto_block 0 with fail
      go_cut [9] from 11 (fun vl wx => Hid (PO wx w.heap.size vl G.1) ∧ Hid (DdAt wx w.heap.size A c b G.2.1) ∧ Hid (Lies wx w.heap.size A b) ∧ Hid (Below w.heap.size w wx))
      case first =>
        focus
          go_wp2_with fail
          go_loopw [9, 11, 13] (fun vl lst iv wr => ∃ (ls : List Plc) (m : Nat) (s : RS) (a : Int), iv = .int .i64 (ls.length : Int) ∧ lst = .int .i64 a ∧ ls.length + m = N ∧ N ≤ 64 ∧ 0 ≤ a ∧ (s.no = false → a ≤ 16777216) ∧ Hid (PO wr w.heap.size vl ls) ∧ Hid (G = (ls ++ (goL (fun q => q.1.no) (getD b) m (s, a)).1, (goL (fun q => q.1.no) (getD b) m (s, a)).2)) ∧ Hid (Vd b s) ∧ Hid (DdAt wr w.heap.size A c b s) ∧ Hid (Lies wr w.heap.size A b) ∧ Hid (Below w.heap.size w wr)) (fun _ _ iv _ => (n - intOf iv).toNat)
          case atStart => exact ⟨[], N, s0, 0, rfl, rfl, by simp, by omega, by omega, fun _ => by omega, PO.nil _ _, HG2, HV2, HI2, HL2, HB2⟩
          case round =>
            obtain ⟨ls, m, s, a, rfl, rfl, hm, hle, ha0, ha1, hO, hr, hV, hI, hL, hB⟩ := hrel
            obtain ⟨w1, rfl⟩ : ∃ x, x = wr := ⟨_, rfl⟩
            have n2 := hI.out.n2
            clear HG2 HV2 HI2 HL2 HB2
            by_cases hlt : (ls.length : Int) < n
            · obtain ⟨k, rfl⟩ : ∃ k, m = k + 1 := ⟨m - 1, by omega⟩
              cases hno : s.no
              · rw [hno] at n2
                have ha2 := ha1 hno
                clear ha1
                obtain ⟨P, hP⟩ : ∃ P, lsD b 64 (plcD b) (pnD b a s, []) = P := ⟨_, rfl⟩
                have hgd : getD b (s, a) = (⟨txX b s, a + dnX b 16777216 (txT b s), a + dnX b 16777216 (txT b s) + dnX b 16777216 (dnS b 16777216 (txT b s)), P.1, P.2.2⟩, (P.2.1, a + dnX b 16777216 (txT b s) + dnX b 16777216 (dnS b 16777216 (txT b s)))) := by
                  unfold getD pcD
                  dsimp only
                  rw [hP]
                have HG3 := Lib.hid (show G = ((ls ++ [⟨txX b s, a + dnX b 16777216 (txT b s), a + dnX b 16777216 (txT b s) + dnX b 16777216 (dnS b 16777216 (txT b s)), P.1, P.2.2⟩]) ++ (goL (fun q => q.1.no) (getD b) k (P.2.1, a + dnX b 16777216 (txT b s) + dnX b 16777216 (dnS b 16777216 (txT b s)))).1, (goL (fun q => q.1.no) (getD b) k (P.2.1, a + dnX b 16777216 (txT b s) + dnX b 16777216 (dnS b 16777216 (txT b s)))).2) by
                  rw [hr.out, goL_step (no := fun q : RS × Int => q.1.no) (getD b) k (s, a) hno, hgd, List.append_assoc]
                  rfl)
                have HFAR := Lib.hid (show P.2.1.no = false → a + dnX b 16777216 (txT b s) + dnX b 16777216 (dnS b 16777216 (txT b s)) ≤ 16777216 from fun q => pn_far (by rw [hP]; exact q))
                have HP0 := Lib.hid (show P = goL (fun q => q.1.no) (plcD b) (dnX b 64 (farS (a + dnX b 16777216 (txT b s) + dnX b 16777216 (dnS b 16777216 (txT b s))) (dnS b 16777216 (dnS b 16777216 (txT b s))))).toNat (dnS b 64 (farS (a + dnX b 16777216 (txT b s) + dnX b 16777216 (dnS b 16777216 (txT b s))) (dnS b 16777216 (dnS b 16777216 (txT b s)))), []) from hP.symm)
                have HV1 := Lib.hid (vd_tx hV.out)
                obtain ⟨ps, hps, ho, hmm⟩ := hO.out
                obtain ⟨AL, cL, rfl, _, _, _⟩ := ho.form
                have HPSM := Lib.hid hps
                have HOW := Lib.hid ho
                have HOM := Lib.hid hmm
                have hpl : ps.length ≤ 64 := by
                  have := congrArg List.length hps
                  rw [List.length_map] at this
                  omega
                have HT := Lib.hid (dtext_any w.heap.size A c b s w1 hc hbn hL.out hI.out)
                clear hr hO hV hno hP hgd hps ho hmm
                go_wp2_with fail
                refine HT.out.mono ?_
                rintro e w3 ⟨rfl, hr3, hg3⟩
                generalize txX b s = nm at *
                generalize txT b s = s1 at *
                have HX1 := Lib.hid (show DxW w.heap.size w3.heap.size A c b s1 nm 0 0 [] (.slice none 0 0) [] (.slice none 0 0) w1 (w3.alloc (.cells #[.string (str nm), .int .i64 0, .int .i64 0, .slice none 0 0, .slice none 0 0] 49)) from
                  ⟨((DrW.start hI.out hL.out).read hr3 hg3).below (below_lnew w3 _), heap_alloc_new w3 _, El.Own.nil _ _, fun x hx => absurd hx (by simp), El.Own.nil _ _, fun x hx => absurd hx (by simp), hg3.size⟩)
                have HN2 := Lib.hid (HX1.out.d.num hbn 16777216 (by decide))
                have HIH := Lib.hid hI.out.has
                clear hr3 hg3 HT n2
                go_wp2_with fail
                generalize w3.heap.size = gx at *
                refine HN2.out.mono ?_
                rintro e w4 ⟨rfl, hr4, hg4⟩
                have HX2 := Lib.hid (HX1.out.read hr4 hg4)
                have HV2 := Lib.hid (vd_dn (m := 16777216) (by decide) HV1.out)
                have hrf := dnX_rng b 16777216 (by decide) s1
                generalize dnX b 16777216 s1 = f at *
                generalize dnS b 16777216 s1 = s2 at *
                have y0 := HX2.out.x.cell (j := 0) (by simp)
                have yf0 := HX2.out.x.frozen 0
                have y1 := HX2.out.x.cell (j := 1) (by simp)
                have yf1 := HX2.out.x.frozen 1
                simp only [List.getElem_cons_zero, List.getElem_cons_succ] at y0 y1
                have HX3 := Lib.hid (HX2.out.setFr (a + f))
                clear hr4 hg4 HN2 HX1 HV1
                go_wp2_with fail
                obtain ⟨W4, hW4⟩ : ∃ W4, w4.setCell ⟨gx, 1, none⟩ (.int .i64 (a + f)) = W4 := ⟨_, rfl⟩
                rw [hW4] at HX3 ⊢
                clear hW4 y0 yf0 y1 yf1 HX2
                have y1 := HX3.out.x.cell (j := 1) (by simp)
                simp only [List.getElem_cons_zero, List.getElem_cons_succ] at y1
                have HVd := Lib.hid (HX3.out.below ((Below.refl _ _).drew))
                refine wp_region_held_drew (S := fun W9 => W9.cell? ⟨gx, 1, none⟩ = some (.int .i64 (a + f))) (by kernel_rfl) y1 (fun hHeld => ?_)
                generalize W4.drew = Wd at *
                have HC := Lib.hid (HVd.out.d.num hbn 16777216 (by decide))
                clear y1 HX3
                refine heldTake (i := 0) (d := some 55) (v := ?_) rfl rfl (by kernel_rfl) (by kernel_rfl) (by kernel_rfl) (fun _ _ _ h => h) (by kernel_rfl) ?hyq_1 (by assumption) ?restq_1
                case hyq_1 => (intro W9 hSw; (try dsimp only at hSw); go_simp; try (with_reducible rfl))
                (try simp only [Act.put, List.setIfInBounds_toArray, List.set_cons_zero, List.set_cons_succ])
                refine heldTake (i := 1) (d := some 56) (v := ?_) rfl rfl (by kernel_rfl) (by kernel_rfl) (by kernel_rfl) (fun _ _ _ h => h) (by kernel_rfl) ?hyq_2 (by assumption) ?restq_2
                case hyq_2 => (intro W9 hSw; (try dsimp only at hSw); go_simp; try (with_reducible rfl))
                (try simp only [Act.put, List.setIfInBounds_toArray, List.set_cons_zero, List.set_cons_succ])
                refine heldTake (i := 2) (d := some 57) (v := ?_) rfl rfl (by kernel_rfl) (by kernel_rfl) (by kernel_rfl) (fun _ _ _ h => h) (by kernel_rfl) ?hyq_3 (by assumption) ?restq_3
                case hyq_3 => (intro W9 hSw; (try dsimp only at hSw); go_simp; try (with_reducible rfl))
                (try simp only [Act.put, List.setIfInBounds_toArray, List.set_cons_zero, List.set_cons_succ])
                refine wpAnyH_ready (rs := [3]) (by kernel_rfl) (by simp) ?_
                refine AllReadyH.cons rfl (fun K hK => ?_) AllReadyH.nil
                go_simp
                go_at_call 21
                refine HC.out.mono ?_
                rintro e9 X ⟨rfl, hrX, hgX⟩
                have HVX := Lib.hid (HVd.out.read hrX hgX)
                have HV3 := Lib.hid (vd_dn (m := 16777216) (by decide) HV2.out)
                have hrt := dnX_rng b 16777216 (by decide) s2
                generalize dnX b 16777216 s2 = t at *
                generalize dnS b 16777216 s2 = s3 at *
                have y1 := HVX.out.x.cell (j := 1) (by simp)
                have y2 := HVX.out.x.cell (j := 2) (by simp)
                have yf1 := HVX.out.x.frozen 1
                have yf2 := HVX.out.x.frozen 2
                simp only [List.getElem_cons_zero, List.getElem_cons_succ] at y1 y2
                clear hrX hgX HC HVd HV2
                go_wp2_with fail
                refine hK.out _ _ y1 (fun hHeld => ?_)
                clear hK K
                (try simp only [Act.put, List.setIfInBounds_toArray, List.set_cons_zero, List.set_cons_succ])
                refine heldTake (i := 4) (d := some 59) (v := ?_) rfl rfl (by kernel_rfl) (by kernel_rfl) (by kernel_rfl) (fun _ _ _ h => h) (by kernel_rfl) ?hyq_4 (by assumption) ?restq_4
                case hyq_4 => (intro W9 hSw; (try dsimp only at hSw); go_simp; try (with_reducible rfl))
                (try simp only [Act.put, List.setIfInBounds_toArray, List.set_cons_zero, List.set_cons_succ])
                have hwr : (Value.int .i64 (IntKind.i64.wrap (a + f + t))) = .int .i64 (a + f + t) := by rw [IntWalk.i64_in _ (by omega)]
                rw [hwr]
                refine heldTake (i := 5) (d := some 60) (v := ?_) rfl rfl (by kernel_rfl) (by kernel_rfl) (by kernel_rfl) (fun _ _ _ h => h) (by kernel_rfl) ?hyq_5 (by assumption) ?restq_5
                case hyq_5 => (intro W9 hSw; (try dsimp only at hSw); go_simp; try (with_reducible rfl))
                (try simp only [Act.put, List.setIfInBounds_toArray, List.set_cons_zero, List.set_cons_succ])
                refine wpAnyH_ready (rs := [6]) (by kernel_rfl) (by simp) ?_
                refine AllReadyH.cons rfl (fun K hK => ?_) AllReadyH.nil
                have HX5 := Lib.hid (HVX.out.setTt (a + f + t))
                have z1 := HX5.out.x.cell (j := 1) (by simp)
                simp only [List.getElem_cons_zero, List.getElem_cons_succ] at z1
                go_simp
                refine hK.out _ _ z1 (fun hHeld => ?_)
                clear hK K
                (try simp only [Act.put, List.setIfInBounds_toArray, List.set_cons_zero, List.set_cons_succ])
                refine wpAnyH_done (by kernel_rfl) ?_ _
                obtain ⟨W5, hW5⟩ : ∃ W5, X.setCell ⟨gx, 2, none⟩ (.int .i64 (a + f + t)) = W5 := ⟨_, rfl⟩
                rw [hW5] at HX5 ⊢
                clear hW5 y1 y2 yf1 yf2 z1 HVX hwr
                have y2 := HX5.out.x.cell (j := 2) (by simp)
                simp only [List.getElem_cons_zero, List.getElem_cons_succ] at y2
                have HV4 := Lib.hid (vd_far (a + f + t) HV3.out)
                go_upto_if 64 with fail
                go_cut [] from 35 to 99 (fun wx => Hid (DxW w.heap.size gx A c b (farS (a + f + t) s3) nm (a + f) (a + f + t) [] (.slice none 0 0) [] (.slice none 0 0) w1 wx))
                case first =>
                  have n2 := HX5.out.d.i.n2
                  have f2 := HX5.out.d.i.frozen 2
                  by_cases hf : 16777216 < a + f + t
                  · have HX6 := Lib.hid HX5.out.fail
                    have HE := Lib.hid (show farS (a + f + t) s3 = { s3 with no := true } from if_pos hf)
                    clear HX5
                    go_wp2_with fail
                    go_meet
                    rw [HE.out]
                    exact HX6
                  · have hf2 : a + f + t ≤ 16777216 := by omega
                    have HE := Lib.hid (show farS (a + f + t) s3 = s3 from if_neg hf)
                    go_wp2_with fail
                    go_meet
                    rw [HE.out]
                    exact HX5
                case rest =>
                  have HX6 := Lib.hid hcut.out
                  obtain ⟨w6, rfl⟩ : ∃ x, x = wc := ⟨_, rfl⟩
                  clear hcut y2 HX5 HV3
                  generalize farS (a + f + t) s3 = s4 at *
                  have HN6 := Lib.hid (HX6.out.d.num hbn 64 (by decide))
                  go_wp2_with fail
                  refine HN6.out.mono ?_
                  rintro e w7 ⟨rfl, hr7, hg7⟩
                  have HX7 := Lib.hid (HX6.out.read hr7 hg7)
                  have HV5 := Lib.hid (vd_dn (m := 64) (by decide) HV4.out)
                  have hrM := dnX_rng b 64 (by decide) s4
                  generalize dnX b 64 s4 = mm at *
                  generalize dnS b 64 s4 = s5 at *
                  obtain ⟨M, hM⟩ : ∃ M, mm.toNat = M := ⟨_, rfl⟩
                  have hMI : (M : Int) ≤ mm ∧ mm ≤ M := by omega
                  rw [hM] at HP0
                  clear hr7 hg7 HN6 HX6 HV4 hM
                  go_upto_block 2 with fail
                  go_cut [16] from 35 to 99 (fun _ wx => ∃ (vs : List Pv) (v1 : Value) (ss : List Rs) (v2 : Value), Hid (DxW w.heap.size gx A c b P.2.1 nm (a + f) (a + f + t) vs v1 ss v2 w1 wx) ∧ Hid (vs.map Pv.d = P.1) ∧ Hid (ss.map Rs.d = P.2.2) ∧ Hid (Vd b P.2.1))
                  case first =>
                    as_aux_lemma =>
                      go_wp2_with fail
                      go_loopw [16] (fun kv wy => ∃ (vs : List Pv) (ss : List Rs) (m2 : Nat) (s5 : RS) (v1 v2 : Value), kv = .int .i64 (vs.length : Int) ∧ vs.length + m2 = M ∧ M ≤ 64 ∧ ss.length ≤ vs.length ∧ Hid (DxW w.heap.size gx A c b s5 nm (a + f) (a + f + t) vs v1 ss v2 w1 wy) ∧ Hid (P = (vs.map Pv.d ++ (goL (fun q => q.1.no) (plcD b) m2 (s5, ss.map Rs.d)).1, (goL (fun q => q.1.no) (plcD b) m2 (s5, ss.map Rs.d)).2)) ∧ Hid (Vd b s5)) (fun kv _ => (mm - intOf kv).toNat)
                      case atStart => exact ⟨[], [], M, s5, _, _, rfl, by simp, by omega, by simp, HX7, HP0, HV5⟩
                      case round =>
                        obtain ⟨vs, ss, m2, s5, v1, v2, rfl, hm2, hle2, hsl, HX, hPr, HVt⟩ := hrel
                        obtain ⟨wy, rfl⟩ : ∃ x, x = wr := ⟨_, rfl⟩
                        obtain ⟨A1, c1, rfl, _, _, _⟩ := HX.out.v.form
                        obtain ⟨A2, c2, rfl, _, _, _⟩ := HX.out.s.form
                        have n2 := HX.out.d.i.n2
                        clear HX7 HP0 HV5
                        by_cases hlt2 : (vs.length : Int) < mm
                        · obtain ⟨k, rfl⟩ : ∃ k, m2 = k + 1 := ⟨m2 - 1, by omega⟩
                          cases hno2 : s5.no
                          · rw [hno2] at n2
                            have HPS := Lib.hid (show P = (vs.map Pv.d ++ (vaD b s5).1 :: (goL (fun q => q.1.no) (plcD b) k (spS b (vaD b s5).2, ss.map Rs.d ++ [spX b (vaD b s5).2])).1, (goL (fun q => q.1.no) (plcD b) k (spS b (vaD b s5).2, ss.map Rs.d ++ [spX b (vaD b s5).2])).2) by
                              rw [hPr.out, goL_step (no := fun q : RS × List (List Sp) => q.1.no) (plcD b) k (s5, ss.map Rs.d) hno2]
                              rfl)
                            have HV6 := Lib.hid (tail_txT HVt.out)
                            have hle := hle2
                            clear hPr hno2
                            go_upto_region 21 with fail
                            go_cut [] from 70 to 95 (fun wx => ∃ (p : Pv) (v9 : Value), Hid (p.d = (vaD b s5).1) ∧ Hid (DxW w.heap.size gx A c b (vaD b s5).2 nm (a + f) (a + f + t) (vs ++ [p]) v9 ss (.slice A2 ss.length c2) w1 wx))
                            case first =>
                              clear n2
                              refine wp_region_held_drew (S := fun W9 => True) (by kernel_rfl) trivial (fun hHeld => ?_)
                              have HVd := Lib.hid (HX.out.below ((Below.refl _ _).drew))
                              generalize wy.drew = Wd at *
                              have qd := HVd.out.x.cell (j := 3) (by simp)
                              simp only [List.getElem_cons_zero, List.getElem_cons_succ] at qd
                              have HC := Lib.hid (HVd.out.d.var HVt.out hc hbn)
                              refine heldTake (i := 0) (d := some 82) (v := ?_) rfl rfl (by kernel_rfl) (by kernel_rfl) (by kernel_rfl) (fun _ _ _ h => h) (by kernel_rfl) ?hyq_6 (by assumption) ?restq_6
                              case hyq_6 => (intro W9 hSw; (try dsimp only at hSw); go_simp; try (with_reducible rfl))
                              (try simp only [Act.put, List.setIfInBounds_toArray, List.set_cons_zero, List.set_cons_succ])
                              refine heldTake (i := 2) (d := some 84) (v := ?_) rfl rfl (by kernel_rfl) (by kernel_rfl) (by kernel_rfl) (fun _ _ _ h => h) (by kernel_rfl) ?hyq_7 (by assumption) ?restq_7
                              case hyq_7 => (intro W9 hSw; (try dsimp only at hSw); go_simp; try (with_reducible rfl))
                              (try simp only [Act.put, List.setIfInBounds_toArray, List.set_cons_zero, List.set_cons_succ])
                              refine wpAnyH_ready (rs := [1, 3]) (by kernel_rfl) (by simp) ?_
                              refine AllReadyH.cons rfl (fun K hK => ?_) (AllReadyH.cons rfl (fun K hK => ?_) AllReadyH.nil)
                              · go_simp
                                refine hK.out _ _ trivial (fun hHeld => ?_)
                                clear hK K
                                (try simp only [Act.put, List.setIfInBounds_toArray, List.set_cons_zero, List.set_cons_succ])
                                refine wpAnyH_ready (rs := [3]) (by kernel_rfl) (by simp) ?_
                                refine AllReadyH.cons rfl (fun K hK => ?_) AllReadyH.nil
                                go_simp
                                go_at_call 23
                                refine HC.out.mono ?_
                                rintro e9 X ⟨p9, rfl, hpd, hpt, hrX, hgX⟩
                                have HVX := Lib.hid (HVd.out.read hrX hgX)
                                have HPD := Lib.hid hpd
                                have HPT := Lib.hid hpt
                                clear hpd hpt
                                obtain ⟨⟨xn, xk, xm, xt, xw, xf⟩, xA, xc⟩ := p9
                                unfold vK tv
                                dsimp only
                                have qX := HVX.out.x.cell (j := 3) (by simp)
                                simp only [List.getElem_cons_zero, List.getElem_cons_succ] at qX
                                clear hrX hgX
                                go_wp2_with fail
                                refine hK.out _ _ trivial (fun hHeld => ?_)
                                clear hK K
                                (try simp only [Act.put, List.setIfInBounds_toArray, List.set_cons_zero, List.set_cons_succ])
                                refine wpAnyH_ready (rs := [4]) (by kernel_rfl) (by simp) ?_
                                refine AllReadyH.cons rfl (fun K hK => ?_) AllReadyH.nil
                                (try rw [if_pos (by kernel_rfl)])
                                refine El.op_build1 eV X 46 (.agg #[.string ⟨#[]⟩, .int .u8 0, .int .i64 0, .string ⟨#[]⟩, .int .i64 0, .slice none 0 0]) 80 Tryz.underlying46 var_info rfl (by decide) (.tmp 85) rfl (.agg #[.string (str xn), .int .u8 xk, .int .i64 xm, .string (str xt), .int .i64 xw, .slice xA xf.length xc]) ⟨⟨xn, xk, xm, xt, xw, xf⟩, xA, xc⟩ rfl rfl ?_
                                change K (Act.put _ (some 86) (.slice (some ⟨X.heap.size, 0, none⟩) 1 1)) (X.alloc (.cells #[.string (str xn), .int .u8 xk, .int .i64 xm, .string (str xt), .int .i64 xw, .slice xA xf.length xc] 67))
                                have hbY := below_lnew X (.cells #[.string (str xn), .int .u8 xk, .int .i64 xm, .string (str xt), .int .i64 xw, .slice xA xf.length xc] 67)
                                have hcY := heap_alloc_new X (.cells #[.string (str xn), .int .u8 xk, .int .i64 xm, .string (str xt), .int .i64 xw, .slice xA xf.length xc] 67)
                                obtain ⟨Y, hY⟩ : ∃ Y, X.alloc (.cells #[.string (str xn), .int .u8 xk, .int .i64 xm, .string (str xt), .int .i64 xw, .slice xA xf.length xc] 67) = Y := ⟨_, rfl⟩
                                rw [hY] at hbY hcY ⊢
                                have HVY := Lib.hid (HVX.out.below hbY)
                                have HTY := Lib.hid (HPT.out.below hbY)
                                have qY := HVY.out.x.cell (j := 3) (by simp)
                                simp only [List.getElem_cons_zero, List.getElem_cons_succ] at qY
                                have hzXY := hbY.size
                                clear hY hbY
                                refine hK.out _ _ trivial (fun hHeld => ?_)
                                clear hK K
                                (try simp only [Act.put, List.setIfInBounds_toArray, List.set_cons_zero, List.set_cons_succ])
                                refine wpAnyH_ready (rs := [5]) (by kernel_rfl) (by simp) ?_
                                refine AllReadyH.cons rfl (fun K hK => ?_) AllReadyH.nil
                                (try rw [if_pos (by kernel_rfl)])
                                refine El.op_app1 eV Y 46 (.agg #[.string ⟨#[]⟩, .int .u8 0, .int .i64 0, .string ⟨#[]⟩, .int .i64 0, .slice none 0 0]) 80 Tryz.underlying46 var_info rfl (by omega) (by decide) (.tmp 83) (.tmp 86) rfl (gx + 1) (.slice A1 vs.length c1) vs rfl HVY.out.v X.heap.size 1 ⟨⟨xn, xk, xm, xt, xw, xf⟩, xA, xc⟩ rfl 67 hcY (by omega) (Nat.succ_le_of_lt HVY.out.x.lt) ?_
                                intro v9 Z ho9 hg9
                                obtain ⟨A9, n9, c9, rfl, hn9, _, _, _⟩ := ho9.formN
                                change K (Act.put _ (some 87) (.slice A9 n9 c9)) Z
                                have hfZ : CAt Z gx 49 _ := (ButT.grown hg9 (fun q e => HVY.out.v.has q e) gx _ ⟨_, _, HVY.out.x⟩ (by decide)).trans HVY.out.x
                                have fZ := hfZ.frozen 3
                                have qZ := hfZ.cell (j := 3) (by simp)
                                simp only [List.getElem_cons_zero, List.getElem_cons_succ] at qZ
                                have HS := Lib.hid (HVY.out.addV HTY.out hg9 ho9)
                                clear hfZ ho9 hg9
                                refine hK.out _ _ trivial (fun hHeld => ?_)
                                clear hK K
                                (try simp only [Act.put, List.setIfInBounds_toArray, List.set_cons_zero, List.set_cons_succ])
                                refine heldTake (i := 6) (d := some 88) (v := ?_) rfl rfl (by kernel_rfl) (by kernel_rfl) (by kernel_rfl) (fun _ _ _ h => h) (by kernel_rfl) ?hyq_8 (by assumption) ?restq_8
                                case hyq_8 => (intro W9 hSw; (try dsimp only at hSw); go_simp; try (with_reducible rfl))
                                (try simp only [Act.put, List.setIfInBounds_toArray, List.set_cons_zero, List.set_cons_succ])
                                refine wpAnyH_ready (rs := [7]) (by kernel_rfl) (by simp) ?_
                                refine AllReadyH.cons rfl (fun K hK => ?_) AllReadyH.nil
                                go_simp
                                refine hK.out _ _ trivial (fun hHeld => ?_)
                                clear hK K
                                (try simp only [Act.put, List.setIfInBounds_toArray, List.set_cons_zero, List.set_cons_succ])
                                refine wpAnyH_done (by kernel_rfl) ?_ _
                                obtain ⟨W9, hW9⟩ : ∃ W9, Z.setCell ⟨gx, 3, none⟩ (.slice A9 n9 c9) = W9 := ⟨_, rfl⟩
                                rw [hW9] at HS ⊢
                                clear hW9 qZ fZ
                                go_wp2_with fail
                                go_meet
                                exact ⟨⟨⟨xn, xk, xm, xt, xw, xf⟩, xA, xc⟩, .slice A9 n9 c9, HPD, HS⟩
                              · go_simp
                                go_at_call 23
                                refine HC.out.mono ?_
                                rintro e9 X ⟨p9, rfl, hpd, hpt, hrX, hgX⟩
                                have HVX := Lib.hid (HVd.out.read hrX hgX)
                                have HPD := Lib.hid hpd
                                have HPT := Lib.hid hpt
                                clear hpd hpt
                                obtain ⟨⟨xn, xk, xm, xt, xw, xf⟩, xA, xc⟩ := p9
                                unfold vK tv
                                dsimp only
                                have qX := HVX.out.x.cell (j := 3) (by simp)
                                simp only [List.getElem_cons_zero, List.getElem_cons_succ] at qX
                                clear hrX hgX
                                go_wp2_with fail
                                refine hK.out _ _ trivial (fun hHeld => ?_)
                                clear hK K
                                (try simp only [Act.put, List.setIfInBounds_toArray, List.set_cons_zero, List.set_cons_succ])
                                refine wpAnyH_ready (rs := [1, 4]) (by kernel_rfl) (by simp) ?_
                                refine AllReadyH.cons rfl (fun K hK => ?_) (AllReadyH.cons rfl (fun K hK => ?_) AllReadyH.nil)
                                · go_simp
                                  refine hK.out _ _ trivial (fun hHeld => ?_)
                                  clear hK K
                                  (try simp only [Act.put, List.setIfInBounds_toArray, List.set_cons_zero, List.set_cons_succ])
                                  refine wpAnyH_ready (rs := [4]) (by kernel_rfl) (by simp) ?_
                                  refine AllReadyH.cons rfl (fun K hK => ?_) AllReadyH.nil
                                  (try rw [if_pos (by kernel_rfl)])
                                  refine El.op_build1 eV X 46 (.agg #[.string ⟨#[]⟩, .int .u8 0, .int .i64 0, .string ⟨#[]⟩, .int .i64 0, .slice none 0 0]) 80 Tryz.underlying46 var_info rfl (by decide) (.tmp 85) rfl (.agg #[.string (str xn), .int .u8 xk, .int .i64 xm, .string (str xt), .int .i64 xw, .slice xA xf.length xc]) ⟨⟨xn, xk, xm, xt, xw, xf⟩, xA, xc⟩ rfl rfl ?_
                                  change K (Act.put _ (some 86) (.slice (some ⟨X.heap.size, 0, none⟩) 1 1)) (X.alloc (.cells #[.string (str xn), .int .u8 xk, .int .i64 xm, .string (str xt), .int .i64 xw, .slice xA xf.length xc] 67))
                                  have hbY := below_lnew X (.cells #[.string (str xn), .int .u8 xk, .int .i64 xm, .string (str xt), .int .i64 xw, .slice xA xf.length xc] 67)
                                  have hcY := heap_alloc_new X (.cells #[.string (str xn), .int .u8 xk, .int .i64 xm, .string (str xt), .int .i64 xw, .slice xA xf.length xc] 67)
                                  obtain ⟨Y, hY⟩ : ∃ Y, X.alloc (.cells #[.string (str xn), .int .u8 xk, .int .i64 xm, .string (str xt), .int .i64 xw, .slice xA xf.length xc] 67) = Y := ⟨_, rfl⟩
                                  rw [hY] at hbY hcY ⊢
                                  have HVY := Lib.hid (HVX.out.below hbY)
                                  have HTY := Lib.hid (HPT.out.below hbY)
                                  have qY := HVY.out.x.cell (j := 3) (by simp)
                                  simp only [List.getElem_cons_zero, List.getElem_cons_succ] at qY
                                  have hzXY := hbY.size
                                  clear hY hbY
                                  refine hK.out _ _ trivial (fun hHeld => ?_)
                                  clear hK K
                                  (try simp only [Act.put, List.setIfInBounds_toArray, List.set_cons_zero, List.set_cons_succ])
                                  refine wpAnyH_ready (rs := [5]) (by kernel_rfl) (by simp) ?_
                                  refine AllReadyH.cons rfl (fun K hK => ?_) AllReadyH.nil
                                  (try rw [if_pos (by kernel_rfl)])
                                  refine El.op_app1 eV Y 46 (.agg #[.string ⟨#[]⟩, .int .u8 0, .int .i64 0, .string ⟨#[]⟩, .int .i64 0, .slice none 0 0]) 80 Tryz.underlying46 var_info rfl (by omega) (by decide) (.tmp 83) (.tmp 86) rfl (gx + 1) (.slice A1 vs.length c1) vs rfl HVY.out.v X.heap.size 1 ⟨⟨xn, xk, xm, xt, xw, xf⟩, xA, xc⟩ rfl 67 hcY (by omega) (Nat.succ_le_of_lt HVY.out.x.lt) ?_
                                  intro v9 Z ho9 hg9
                                  obtain ⟨A9, n9, c9, rfl, hn9, _, _, _⟩ := ho9.formN
                                  change K (Act.put _ (some 87) (.slice A9 n9 c9)) Z
                                  have hfZ : CAt Z gx 49 _ := (ButT.grown hg9 (fun q e => HVY.out.v.has q e) gx _ ⟨_, _, HVY.out.x⟩ (by decide)).trans HVY.out.x
                                  have fZ := hfZ.frozen 3
                                  have qZ := hfZ.cell (j := 3) (by simp)
                                  simp only [List.getElem_cons_zero, List.getElem_cons_succ] at qZ
                                  have HS := Lib.hid (HVY.out.addV HTY.out hg9 ho9)
                                  clear hfZ ho9 hg9
                                  refine hK.out _ _ trivial (fun hHeld => ?_)
                                  clear hK K
                                  (try simp only [Act.put, List.setIfInBounds_toArray, List.set_cons_zero, List.set_cons_succ])
                                  refine heldTake (i := 6) (d := some 88) (v := ?_) rfl rfl (by kernel_rfl) (by kernel_rfl) (by kernel_rfl) (fun _ _ _ h => h) (by kernel_rfl) ?hyq_9 (by assumption) ?restq_9
                                  case hyq_9 => (intro W9 hSw; (try dsimp only at hSw); go_simp; try (with_reducible rfl))
                                  (try simp only [Act.put, List.setIfInBounds_toArray, List.set_cons_zero, List.set_cons_succ])
                                  refine wpAnyH_ready (rs := [7]) (by kernel_rfl) (by simp) ?_
                                  refine AllReadyH.cons rfl (fun K hK => ?_) AllReadyH.nil
                                  go_simp
                                  refine hK.out _ _ trivial (fun hHeld => ?_)
                                  clear hK K
                                  (try simp only [Act.put, List.setIfInBounds_toArray, List.set_cons_zero, List.set_cons_succ])
                                  refine wpAnyH_done (by kernel_rfl) ?_ _
                                  obtain ⟨W9, hW9⟩ : ∃ W9, Z.setCell ⟨gx, 3, none⟩ (.slice A9 n9 c9) = W9 := ⟨_, rfl⟩
                                  rw [hW9] at HS ⊢
                                  clear hW9 qZ fZ
                                  go_wp2_with fail
                                  go_meet
                                  exact ⟨⟨⟨xn, xk, xm, xt, xw, xf⟩, xA, xc⟩, .slice A9 n9 c9, HPD, HS⟩
                                · (try rw [if_pos (by kernel_rfl)])
                                  refine El.op_build1 eV X 46 (.agg #[.string ⟨#[]⟩, .int .u8 0, .int .i64 0, .string ⟨#[]⟩, .int .i64 0, .slice none 0 0]) 80 Tryz.underlying46 var_info rfl (by decide) (.tmp 85) rfl (.agg #[.string (str xn), .int .u8 xk, .int .i64 xm, .string (str xt), .int .i64 xw, .slice xA xf.length xc]) ⟨⟨xn, xk, xm, xt, xw, xf⟩, xA, xc⟩ rfl rfl ?_
                                  change K (Act.put _ (some 86) (.slice (some ⟨X.heap.size, 0, none⟩) 1 1)) (X.alloc (.cells #[.string (str xn), .int .u8 xk, .int .i64 xm, .string (str xt), .int .i64 xw, .slice xA xf.length xc] 67))
                                  have hbY := below_lnew X (.cells #[.string (str xn), .int .u8 xk, .int .i64 xm, .string (str xt), .int .i64 xw, .slice xA xf.length xc] 67)
                                  have hcY := heap_alloc_new X (.cells #[.string (str xn), .int .u8 xk, .int .i64 xm, .string (str xt), .int .i64 xw, .slice xA xf.length xc] 67)
                                  obtain ⟨Y, hY⟩ : ∃ Y, X.alloc (.cells #[.string (str xn), .int .u8 xk, .int .i64 xm, .string (str xt), .int .i64 xw, .slice xA xf.length xc] 67) = Y := ⟨_, rfl⟩
                                  rw [hY] at hbY hcY ⊢
                                  have HVY := Lib.hid (HVX.out.below hbY)
                                  have HTY := Lib.hid (HPT.out.below hbY)
                                  have qY := HVY.out.x.cell (j := 3) (by simp)
                                  simp only [List.getElem_cons_zero, List.getElem_cons_succ] at qY
                                  have hzXY := hbY.size
                                  clear hY hbY
                                  refine hK.out _ _ trivial (fun hHeld => ?_)
                                  clear hK K
                                  (try simp only [Act.put, List.setIfInBounds_toArray, List.set_cons_zero, List.set_cons_succ])
                                  refine wpAnyH_ready (rs := [1]) (by kernel_rfl) (by simp) ?_
                                  refine AllReadyH.cons rfl (fun K hK => ?_) AllReadyH.nil
                                  go_simp
                                  refine hK.out _ _ trivial (fun hHeld => ?_)
                                  clear hK K
                                  (try simp only [Act.put, List.setIfInBounds_toArray, List.set_cons_zero, List.set_cons_succ])
                                  refine wpAnyH_ready (rs := [5]) (by kernel_rfl) (by simp) ?_
                                  refine AllReadyH.cons rfl (fun K hK => ?_) AllReadyH.nil
                                  (try rw [if_pos (by kernel_rfl)])
                                  refine El.op_app1 eV Y 46 (.agg #[.string ⟨#[]⟩, .int .u8 0, .int .i64 0, .string ⟨#[]⟩, .int .i64 0, .slice none 0 0]) 80 Tryz.underlying46 var_info rfl (by omega) (by decide) (.tmp 83) (.tmp 86) rfl (gx + 1) (.slice A1 vs.length c1) vs rfl HVY.out.v X.heap.size 1 ⟨⟨xn, xk, xm, xt, xw, xf⟩, xA, xc⟩ rfl 67 hcY (by omega) (Nat.succ_le_of_lt HVY.out.x.lt) ?_
                                  intro v9 Z ho9 hg9
                                  obtain ⟨A9, n9, c9, rfl, hn9, _, _, _⟩ := ho9.formN
                                  change K (Act.put _ (some 87) (.slice A9 n9 c9)) Z
                                  have hfZ : CAt Z gx 49 _ := (ButT.grown hg9 (fun q e => HVY.out.v.has q e) gx _ ⟨_, _, HVY.out.x⟩ (by decide)).trans HVY.out.x
                                  have fZ := hfZ.frozen 3
                                  have qZ := hfZ.cell (j := 3) (by simp)
                                  simp only [List.getElem_cons_zero, List.getElem_cons_succ] at qZ
                                  have HS := Lib.hid (HVY.out.addV HTY.out hg9 ho9)
                                  clear hfZ ho9 hg9
                                  refine hK.out _ _ trivial (fun hHeld => ?_)
                                  clear hK K
                                  (try simp only [Act.put, List.setIfInBounds_toArray, List.set_cons_zero, List.set_cons_succ])
                                  refine heldTake (i := 6) (d := some 88) (v := ?_) rfl rfl (by kernel_rfl) (by kernel_rfl) (by kernel_rfl) (fun _ _ _ h => h) (by kernel_rfl) ?hyq_10 (by assumption) ?restq_10
                                  case hyq_10 => (intro W9 hSw; (try dsimp only at hSw); go_simp; try (with_reducible rfl))
                                  (try simp only [Act.put, List.setIfInBounds_toArray, List.set_cons_zero, List.set_cons_succ])
                                  refine wpAnyH_ready (rs := [7]) (by kernel_rfl) (by simp) ?_
                                  refine AllReadyH.cons rfl (fun K hK => ?_) AllReadyH.nil
                                  go_simp
                                  refine hK.out _ _ trivial (fun hHeld => ?_)
                                  clear hK K
                                  (try simp only [Act.put, List.setIfInBounds_toArray, List.set_cons_zero, List.set_cons_succ])
                                  refine wpAnyH_done (by kernel_rfl) ?_ _
                                  obtain ⟨W9, hW9⟩ : ∃ W9, Z.setCell ⟨gx, 3, none⟩ (.slice A9 n9 c9) = W9 := ⟨_, rfl⟩
                                  rw [hW9] at HS ⊢
                                  clear hW9 qZ fZ
                                  go_wp2_with fail
                                  go_meet
                                  exact ⟨⟨⟨xn, xk, xm, xt, xw, xf⟩, xA, xc⟩, .slice A9 n9 c9, HPD, HS⟩
                            case rest =>
                              obtain ⟨p9, v9, HPD9, HX2⟩ := hcut
                              obtain ⟨wz, rfl⟩ : ∃ x, x = wc := ⟨_, rfl⟩
                              clear HX n2 HVt
                              generalize (vaD b s5).1 = V5 at *
                              generalize (vaD b s5).2 = s6 at *
                              go_wp2_with fail
                              refine wp_region_held_drew (S := fun W9 => True) (by kernel_rfl) trivial (fun hHeld => ?_)
                              have HVd := Lib.hid (HX2.out.below ((Below.refl _ _).drew))
                              generalize wz.drew = Wd at *
                              have qd := HVd.out.x.cell (j := 4) (by simp)
                              simp only [List.getElem_cons_zero, List.getElem_cons_succ] at qd
                              have HC := Lib.hid (HVd.out.d.spans hbn)
                              refine heldTake (i := 0) (d := some 89) (v := ?_) rfl rfl (by kernel_rfl) (by kernel_rfl) (by kernel_rfl) (fun _ _ _ h => h) (by kernel_rfl) ?hyq_11 (by assumption) ?restq_11
                              case hyq_11 => (intro W9 hSw; (try dsimp only at hSw); go_simp; try (with_reducible rfl))
                              (try simp only [Act.put, List.setIfInBounds_toArray, List.set_cons_zero, List.set_cons_succ])
                              refine heldTake (i := 2) (d := some 91) (v := ?_) rfl rfl (by kernel_rfl) (by kernel_rfl) (by kernel_rfl) (fun _ _ _ h => h) (by kernel_rfl) ?hyq_12 (by assumption) ?restq_12
                              case hyq_12 => (intro W9 hSw; (try dsimp only at hSw); go_simp; try (with_reducible rfl))
                              (try simp only [Act.put, List.setIfInBounds_toArray, List.set_cons_zero, List.set_cons_succ])
                              refine wpAnyH_ready (rs := [1, 3]) (by kernel_rfl) (by simp) ?_
                              refine AllReadyH.cons rfl (fun K hK => ?_) (AllReadyH.cons rfl (fun K hK => ?_) AllReadyH.nil)
                              · go_simp
                                refine hK.out _ _ trivial (fun hHeld => ?_)
                                clear hK K
                                (try simp only [Act.put, List.setIfInBounds_toArray, List.set_cons_zero, List.set_cons_succ])
                                refine wpAnyH_ready (rs := [3]) (by kernel_rfl) (by simp) ?_
                                refine AllReadyH.cons rfl (fun K hK => ?_) AllReadyH.nil
                                go_simp
                                go_at_call 24
                                refine HC.out.mono ?_
                                rintro e9 X ⟨v8, rfl, ho8, hrX, hgX⟩
                                obtain ⟨y9, rfl, hyd, hyt⟩ := rt_of_own ho8
                                have HVX := Lib.hid (HVd.out.read hrX hgX)
                                have HPD := Lib.hid hyd
                                have HPT := Lib.hid hyt
                                clear hyd hyt ho8
                                obtain ⟨yl, yA, yc⟩ := y9
                                unfold rV
                                dsimp only
                                have qX := HVX.out.x.cell (j := 4) (by simp)
                                simp only [List.getElem_cons_zero, List.getElem_cons_succ] at qX
                                clear hrX hgX
                                go_wp2_with fail
                                refine hK.out _ _ trivial (fun hHeld => ?_)
                                clear hK K
                                (try simp only [Act.put, List.setIfInBounds_toArray, List.set_cons_zero, List.set_cons_succ])
                                refine wpAnyH_ready (rs := [4]) (by kernel_rfl) (by simp) ?_
                                refine AllReadyH.cons rfl (fun K hK => ?_) AllReadyH.nil
                                (try rw [if_pos (by kernel_rfl)])
                                refine El.op_build1 eR X 47 (.slice none 0 0) 24 Tryz.underlying47 rs_info rfl (by decide) (.tmp 92) rfl (.slice yA yl.length yc) ⟨yl, yA, yc⟩ rfl rfl ?_
                                change K (Act.put _ (some 93) (.slice (some ⟨X.heap.size, 0, none⟩) 1 1)) (X.alloc (.cells #[.slice yA yl.length yc] 69))
                                have hbY := below_lnew X (.cells #[.slice yA yl.length yc] 69)
                                have hcY := heap_alloc_new X (.cells #[.slice yA yl.length yc] 69)
                                obtain ⟨Y, hY⟩ : ∃ Y, X.alloc (.cells #[.slice yA yl.length yc] 69) = Y := ⟨_, rfl⟩
                                rw [hY] at hbY hcY ⊢
                                have HVY := Lib.hid (HVX.out.below hbY)
                                have HTY := Lib.hid (HPT.out.below hbY)
                                have qY := HVY.out.x.cell (j := 4) (by simp)
                                simp only [List.getElem_cons_zero, List.getElem_cons_succ] at qY
                                have hzXY := hbY.size
                                clear hY hbY
                                refine hK.out _ _ trivial (fun hHeld => ?_)
                                clear hK K
                                (try simp only [Act.put, List.setIfInBounds_toArray, List.set_cons_zero, List.set_cons_succ])
                                refine wpAnyH_ready (rs := [5]) (by kernel_rfl) (by simp) ?_
                                refine AllReadyH.cons rfl (fun K hK => ?_) AllReadyH.nil
                                (try rw [if_pos (by kernel_rfl)])
                                refine El.op_app1 eR Y 47 (.slice none 0 0) 24 Tryz.underlying47 rs_info rfl (by omega) (by decide) (.tmp 90) (.tmp 93) rfl (gx + 1) (.slice A2 ss.length c2) ss rfl HVY.out.s X.heap.size 1 ⟨yl, yA, yc⟩ rfl 69 hcY (by omega) (Nat.succ_le_of_lt HVY.out.x.lt) ?_
                                intro v9 Z ho9 hg9
                                obtain ⟨A9, n9, c9, rfl, hn9, _, _, _⟩ := ho9.formN
                                change K (Act.put _ (some 94) (.slice A9 n9 c9)) Z
                                have hfZ : CAt Z gx 49 _ := (ButT.grown hg9 (fun q e => HVY.out.s.has q e) gx _ ⟨_, _, HVY.out.x⟩ (by decide)).trans HVY.out.x
                                have fZ := hfZ.frozen 4
                                have qZ := hfZ.cell (j := 4) (by simp)
                                simp only [List.getElem_cons_zero, List.getElem_cons_succ] at qZ
                                have HS := Lib.hid (HVY.out.addS HTY.out hg9 ho9)
                                clear hfZ ho9 hg9
                                refine hK.out _ _ trivial (fun hHeld => ?_)
                                clear hK K
                                (try simp only [Act.put, List.setIfInBounds_toArray, List.set_cons_zero, List.set_cons_succ])
                                refine heldTake (i := 6) (d := some 95) (v := ?_) rfl rfl (by kernel_rfl) (by kernel_rfl) (by kernel_rfl) (fun _ _ _ h => h) (by kernel_rfl) ?hyq_13 (by assumption) ?restq_13
                                case hyq_13 => (intro W9 hSw; (try dsimp only at hSw); go_simp; try (with_reducible rfl))
                                (try simp only [Act.put, List.setIfInBounds_toArray, List.set_cons_zero, List.set_cons_succ])
                                refine wpAnyH_ready (rs := [7]) (by kernel_rfl) (by simp) ?_
                                refine AllReadyH.cons rfl (fun K hK => ?_) AllReadyH.nil
                                go_simp
                                refine hK.out _ _ trivial (fun hHeld => ?_)
                                clear hK K
                                (try simp only [Act.put, List.setIfInBounds_toArray, List.set_cons_zero, List.set_cons_succ])
                                refine wpAnyH_done (by kernel_rfl) ?_ _
                                obtain ⟨W9, hW9⟩ : ∃ W9, Z.setCell ⟨gx, 4, none⟩ (.slice A9 n9 c9) = W9 := ⟨_, rfl⟩
                                rw [hW9] at HS ⊢
                                clear hW9 qZ fZ
                                have HPN := Lib.hid (show P = ((vs ++ [p9]).map Pv.d ++ (goL (fun q => q.1.no) (plcD b) k (spS b s6, (ss ++ [(⟨yl, yA, yc⟩ : Rs)]).map Rs.d)).1, (goL (fun q => q.1.no) (plcD b) k (spS b s6, (ss ++ [(⟨yl, yA, yc⟩ : Rs)]).map Rs.d)).2) by
                                  rw [HPS.out, List.map_append, List.map_append, List.map_singleton, List.map_singleton, HPD.out, HPD9.out, List.append_assoc]
                                  rfl)
                                go_wp2_with fail
                                go_roundw
                                case rel => exact ⟨vs ++ [p9], ss ++ [⟨yl, yA, yc⟩], k, spS b s6, _, _, by rw [List.length_append]; go_num, by rw [List.length_append, List.length_singleton]; omega, hle, by rw [List.length_append, List.length_append]; simp; omega, HS, HPN, Lib.hid (vd_sp HV6.out)⟩
                                case measure => simp [intOf]; omega
                              · go_simp
                                go_at_call 24
                                refine HC.out.mono ?_
                                rintro e9 X ⟨v8, rfl, ho8, hrX, hgX⟩
                                obtain ⟨y9, rfl, hyd, hyt⟩ := rt_of_own ho8
                                have HVX := Lib.hid (HVd.out.read hrX hgX)
                                have HPD := Lib.hid hyd
                                have HPT := Lib.hid hyt
                                clear hyd hyt ho8
                                obtain ⟨yl, yA, yc⟩ := y9
                                unfold rV
                                dsimp only
                                have qX := HVX.out.x.cell (j := 4) (by simp)
                                simp only [List.getElem_cons_zero, List.getElem_cons_succ] at qX
                                clear hrX hgX
                                go_wp2_with fail
                                refine hK.out _ _ trivial (fun hHeld => ?_)
                                clear hK K
                                (try simp only [Act.put, List.setIfInBounds_toArray, List.set_cons_zero, List.set_cons_succ])
                                refine wpAnyH_ready (rs := [1, 4]) (by kernel_rfl) (by simp) ?_
                                refine AllReadyH.cons rfl (fun K hK => ?_) (AllReadyH.cons rfl (fun K hK => ?_) AllReadyH.nil)
                                · go_simp
                                  refine hK.out _ _ trivial (fun hHeld => ?_)
                                  clear hK K
                                  (try simp only [Act.put, List.setIfInBounds_toArray, List.set_cons_zero, List.set_cons_succ])
                                  refine wpAnyH_ready (rs := [4]) (by kernel_rfl) (by simp) ?_
                                  refine AllReadyH.cons rfl (fun K hK => ?_) AllReadyH.nil
                                  (try rw [if_pos (by kernel_rfl)])
                                  refine El.op_build1 eR X 47 (.slice none 0 0) 24 Tryz.underlying47 rs_info rfl (by decide) (.tmp 92) rfl (.slice yA yl.length yc) ⟨yl, yA, yc⟩ rfl rfl ?_
                                  change K (Act.put _ (some 93) (.slice (some ⟨X.heap.size, 0, none⟩) 1 1)) (X.alloc (.cells #[.slice yA yl.length yc] 69))
                                  have hbY := below_lnew X (.cells #[.slice yA yl.length yc] 69)
                                  have hcY := heap_alloc_new X (.cells #[.slice yA yl.length yc] 69)
                                  obtain ⟨Y, hY⟩ : ∃ Y, X.alloc (.cells #[.slice yA yl.length yc] 69) = Y := ⟨_, rfl⟩
                                  rw [hY] at hbY hcY ⊢
                                  have HVY := Lib.hid (HVX.out.below hbY)
                                  have HTY := Lib.hid (HPT.out.below hbY)
                                  have qY := HVY.out.x.cell (j := 4) (by simp)
                                  simp only [List.getElem_cons_zero, List.getElem_cons_succ] at qY
                                  have hzXY := hbY.size
                                  clear hY hbY
                                  refine hK.out _ _ trivial (fun hHeld => ?_)
                                  clear hK K
                                  (try simp only [Act.put, List.setIfInBounds_toArray, List.set_cons_zero, List.set_cons_succ])
                                  refine wpAnyH_ready (rs := [5]) (by kernel_rfl) (by simp) ?_
                                  refine AllReadyH.cons rfl (fun K hK => ?_) AllReadyH.nil
                                  (try rw [if_pos (by kernel_rfl)])
                                  refine El.op_app1 eR Y 47 (.slice none 0 0) 24 Tryz.underlying47 rs_info rfl (by omega) (by decide) (.tmp 90) (.tmp 93) rfl (gx + 1) (.slice A2 ss.length c2) ss rfl HVY.out.s X.heap.size 1 ⟨yl, yA, yc⟩ rfl 69 hcY (by omega) (Nat.succ_le_of_lt HVY.out.x.lt) ?_
                                  intro v9 Z ho9 hg9
                                  obtain ⟨A9, n9, c9, rfl, hn9, _, _, _⟩ := ho9.formN
                                  change K (Act.put _ (some 94) (.slice A9 n9 c9)) Z
                                  have hfZ : CAt Z gx 49 _ := (ButT.grown hg9 (fun q e => HVY.out.s.has q e) gx _ ⟨_, _, HVY.out.x⟩ (by decide)).trans HVY.out.x
                                  have fZ := hfZ.frozen 4
                                  have qZ := hfZ.cell (j := 4) (by simp)
                                  simp only [List.getElem_cons_zero, List.getElem_cons_succ] at qZ
                                  have HS := Lib.hid (HVY.out.addS HTY.out hg9 ho9)
                                  clear hfZ ho9 hg9
                                  refine hK.out _ _ trivial (fun hHeld => ?_)
                                  clear hK K
                                  (try simp only [Act.put, List.setIfInBounds_toArray, List.set_cons_zero, List.set_cons_succ])
                                  refine heldTake (i := 6) (d := some 95) (v := ?_) rfl rfl (by kernel_rfl) (by kernel_rfl) (by kernel_rfl) (fun _ _ _ h => h) (by kernel_rfl) ?hyq_14 (by assumption) ?restq_14
                                  case hyq_14 => (intro W9 hSw; (try dsimp only at hSw); go_simp; try (with_reducible rfl))
                                  (try simp only [Act.put, List.setIfInBounds_toArray, List.set_cons_zero, List.set_cons_succ])
                                  refine wpAnyH_ready (rs := [7]) (by kernel_rfl) (by simp) ?_
                                  refine AllReadyH.cons rfl (fun K hK => ?_) AllReadyH.nil
                                  go_simp
                                  refine hK.out _ _ trivial (fun hHeld => ?_)
                                  clear hK K
                                  (try simp only [Act.put, List.setIfInBounds_toArray, List.set_cons_zero, List.set_cons_succ])
                                  refine wpAnyH_done (by kernel_rfl) ?_ _
                                  obtain ⟨W9, hW9⟩ : ∃ W9, Z.setCell ⟨gx, 4, none⟩ (.slice A9 n9 c9) = W9 := ⟨_, rfl⟩
                                  rw [hW9] at HS ⊢
                                  clear hW9 qZ fZ
                                  have HPN := Lib.hid (show P = ((vs ++ [p9]).map Pv.d ++ (goL (fun q => q.1.no) (plcD b) k (spS b s6, (ss ++ [(⟨yl, yA, yc⟩ : Rs)]).map Rs.d)).1, (goL (fun q => q.1.no) (plcD b) k (spS b s6, (ss ++ [(⟨yl, yA, yc⟩ : Rs)]).map Rs.d)).2) by
                                    rw [HPS.out, List.map_append, List.map_append, List.map_singleton, List.map_singleton, HPD.out, HPD9.out, List.append_assoc]
                                    rfl)
                                  go_wp2_with fail
                                  go_roundw
                                  case rel => exact ⟨vs ++ [p9], ss ++ [⟨yl, yA, yc⟩], k, spS b s6, _, _, by rw [List.length_append]; go_num, by rw [List.length_append, List.length_singleton]; omega, hle, by rw [List.length_append, List.length_append]; simp; omega, HS, HPN, Lib.hid (vd_sp HV6.out)⟩
                                  case measure => simp [intOf]; omega
                                · (try rw [if_pos (by kernel_rfl)])
                                  refine El.op_build1 eR X 47 (.slice none 0 0) 24 Tryz.underlying47 rs_info rfl (by decide) (.tmp 92) rfl (.slice yA yl.length yc) ⟨yl, yA, yc⟩ rfl rfl ?_
                                  change K (Act.put _ (some 93) (.slice (some ⟨X.heap.size, 0, none⟩) 1 1)) (X.alloc (.cells #[.slice yA yl.length yc] 69))
                                  have hbY := below_lnew X (.cells #[.slice yA yl.length yc] 69)
                                  have hcY := heap_alloc_new X (.cells #[.slice yA yl.length yc] 69)
                                  obtain ⟨Y, hY⟩ : ∃ Y, X.alloc (.cells #[.slice yA yl.length yc] 69) = Y := ⟨_, rfl⟩
                                  rw [hY] at hbY hcY ⊢
                                  have HVY := Lib.hid (HVX.out.below hbY)
                                  have HTY := Lib.hid (HPT.out.below hbY)
                                  have qY := HVY.out.x.cell (j := 4) (by simp)
                                  simp only [List.getElem_cons_zero, List.getElem_cons_succ] at qY
                                  have hzXY := hbY.size
                                  clear hY hbY
                                  refine hK.out _ _ trivial (fun hHeld => ?_)
                                  clear hK K
                                  (try simp only [Act.put, List.setIfInBounds_toArray, List.set_cons_zero, List.set_cons_succ])
                                  refine wpAnyH_ready (rs := [1]) (by kernel_rfl) (by simp) ?_
                                  refine AllReadyH.cons rfl (fun K hK => ?_) AllReadyH.nil
                                  go_simp
                                  refine hK.out _ _ trivial (fun hHeld => ?_)
                                  clear hK K
                                  (try simp only [Act.put, List.setIfInBounds_toArray, List.set_cons_zero, List.set_cons_succ])
                                  refine wpAnyH_ready (rs := [5]) (by kernel_rfl) (by simp) ?_
                                  refine AllReadyH.cons rfl (fun K hK => ?_) AllReadyH.nil
                                  (try rw [if_pos (by kernel_rfl)])
                                  refine El.op_app1 eR Y 47 (.slice none 0 0) 24 Tryz.underlying47 rs_info rfl (by omega) (by decide) (.tmp 90) (.tmp 93) rfl (gx + 1) (.slice A2 ss.length c2) ss rfl HVY.out.s X.heap.size 1 ⟨yl, yA, yc⟩ rfl 69 hcY (by omega) (Nat.succ_le_of_lt HVY.out.x.lt) ?_
                                  intro v9 Z ho9 hg9
                                  obtain ⟨A9, n9, c9, rfl, hn9, _, _, _⟩ := ho9.formN
                                  change K (Act.put _ (some 94) (.slice A9 n9 c9)) Z
                                  have hfZ : CAt Z gx 49 _ := (ButT.grown hg9 (fun q e => HVY.out.s.has q e) gx _ ⟨_, _, HVY.out.x⟩ (by decide)).trans HVY.out.x
                                  have fZ := hfZ.frozen 4
                                  have qZ := hfZ.cell (j := 4) (by simp)
                                  simp only [List.getElem_cons_zero, List.getElem_cons_succ] at qZ
                                  have HS := Lib.hid (HVY.out.addS HTY.out hg9 ho9)
                                  clear hfZ ho9 hg9
                                  refine hK.out _ _ trivial (fun hHeld => ?_)
                                  clear hK K
                                  (try simp only [Act.put, List.setIfInBounds_toArray, List.set_cons_zero, List.set_cons_succ])
                                  refine heldTake (i := 6) (d := some 95) (v := ?_) rfl rfl (by kernel_rfl) (by kernel_rfl) (by kernel_rfl) (fun _ _ _ h => h) (by kernel_rfl) ?hyq_15 (by assumption) ?restq_15
                                  case hyq_15 => (intro W9 hSw; (try dsimp only at hSw); go_simp; try (with_reducible rfl))
                                  (try simp only [Act.put, List.setIfInBounds_toArray, List.set_cons_zero, List.set_cons_succ])
                                  refine wpAnyH_ready (rs := [7]) (by kernel_rfl) (by simp) ?_
                                  refine AllReadyH.cons rfl (fun K hK => ?_) AllReadyH.nil
                                  go_simp
                                  refine hK.out _ _ trivial (fun hHeld => ?_)
                                  clear hK K
                                  (try simp only [Act.put, List.setIfInBounds_toArray, List.set_cons_zero, List.set_cons_succ])
                                  refine wpAnyH_done (by kernel_rfl) ?_ _
                                  obtain ⟨W9, hW9⟩ : ∃ W9, Z.setCell ⟨gx, 4, none⟩ (.slice A9 n9 c9) = W9 := ⟨_, rfl⟩
                                  rw [hW9] at HS ⊢
                                  clear hW9 qZ fZ
                                  have HPN := Lib.hid (show P = ((vs ++ [p9]).map Pv.d ++ (goL (fun q => q.1.no) (plcD b) k (spS b s6, (ss ++ [(⟨yl, yA, yc⟩ : Rs)]).map Rs.d)).1, (goL (fun q => q.1.no) (plcD b) k (spS b s6, (ss ++ [(⟨yl, yA, yc⟩ : Rs)]).map Rs.d)).2) by
                                    rw [HPS.out, List.map_append, List.map_append, List.map_singleton, List.map_singleton, HPD.out, HPD9.out, List.append_assoc]
                                    rfl)
                                  go_wp2_with fail
                                  go_roundw
                                  case rel => exact ⟨vs ++ [p9], ss ++ [⟨yl, yA, yc⟩], k, spS b s6, _, _, by rw [List.length_append]; go_num, by rw [List.length_append, List.length_singleton]; omega, hle, by rw [List.length_append, List.length_append]; simp; omega, HS, HPN, Lib.hid (vd_sp HV6.out)⟩
                                  case measure => simp [intOf]; omega
                          · rw [hno2] at n2
                            have HF := show P = (vs.map Pv.d, (s5, ss.map Rs.d)) by
                              rw [hPr.out]
                              unfold goL
                              rw [if_pos hno2, List.append_nil]
                            clear hPr hno2
                            subst HF
                            go_wp2_with fail
                            go_meet
                            exact ⟨vs, _, ss, _, HX, rfl, rfl, HVt⟩
                        · obtain rfl : m2 = 0 := by omega
                          have HF := show P = (vs.map Pv.d, (s5, ss.map Rs.d)) by
                            rw [hPr.out]
                            unfold goL
                            rw [List.append_nil]
                          clear hPr
                          subst HF
                          go_wp2_with fail
                          go_meet
                          exact ⟨vs, _, ss, _, HX, rfl, rfl, HVt⟩
                  case rest =>
                    obtain ⟨vs, v1, ss, v2, HX8, HE1, HE2, HV8⟩ := hcut
                    obtain ⟨w8, rfl⟩ : ∃ x, x = wc := ⟨_, rfl⟩
                    clear HX7 HP0 HV5
                    obtain ⟨vA, vc, sA, sc, rfl, rfl, hPT⟩ := HX8.out.made
                    have y0 := HX8.out.x.cell (j := 0) (by simp)
                    have y1 := HX8.out.x.cell (j := 1) (by simp)
                    have y2 := HX8.out.x.cell (j := 2) (by simp)
                    have y3 := HX8.out.x.cell (j := 3) (by simp)
                    have y4 := HX8.out.x.cell (j := 4) (by simp)
                    simp only [List.getElem_cons_zero, List.getElem_cons_succ] at y0 y1 y2 y3 y4
                    have hbn8 := below_lnew w8 (.cells #[.string (str nm), .int .i64 (a + f), .int .i64 (a + f + t), .slice vA vs.length vc, .slice sA ss.length sc] 49)
                    have hgr8 : ButT 60 w1 w8 := ButT.grown HX8.out.d.g (fun k e => by injection e with e; subst e; exact HIH.out)
                    have HO8 := Lib.hid ((HOW.out.but hgr8 (by decide)).below hbn8)
                    have HM8 := Lib.hid (fun q (hq : q ∈ ps) => ((HOM.out q hq).grd HIH.out HX8.out.d.g).below hbn8)
                    have HPT := Lib.hid (hPT.below hbn8)
                    have HD8 := Lib.hid (HX8.out.d.below hbn8)
                    have hz8 : w.heap.size ≤ (w8.alloc (.cells #[.string (str nm), .int .i64 (a + f), .int .i64 (a + f + t), .slice vA vs.length vc, .slice sA ss.length sc] 49)).heap.size := Nat.le_of_lt (Nat.lt_of_lt_of_le HX8.out.d.i.lt hbn8.size)
                    have HB8 := Lib.hid ((hB.out.trans (below_gr HX8.out.d.g (Nat.le_refl _) (Nat.le_of_lt HX8.out.d.n))).trans (hbn8.mono (Nat.le_of_lt HX8.out.d.i.lt)))
                    have HC8 := Lib.hid (heap_alloc_new w8 (.cells #[.string (str nm), .int .i64 (a + f), .int .i64 (a + f + t), .slice vA vs.length vc, .slice sA ss.length sc] 49))
                    clear hbn8 hgr8 hPT
                    go_wp2_with (first
                      | (at_builtin
                         go_must (refine El.app1 eL _ rfl 25 (.agg #[.string ⟨#[]⟩, .int .i64 0, .int .i64 0, .slice none 0 0, .slice none 0 0]) 80 Tryz.underlying25 place_info rfl (by omega) (by decide) (.tmp 96) (.tmp 98) rfl w.heap.size (.slice AL ps.length cL) ps rfl HO8.out w8.heap.size 1 ⟨nm, a + f, a + f + t, vs, vA, vc, ss, sA, sc⟩ rfl 49 HC8.out (by omega) hz8 ?_)
                         intro v9 w9 ho9 hg9
                         have HPO9 := Lib.hid (show PO w9 w.heap.size v9 (ls ++ [⟨nm, a + f, a + f + t, P.1, P.2.2⟩]) by rw [← HPSM.out, ← HE1.out, ← HE2.out]; exact PO.add HM8.out HO8.out HPT.out hg9 ho9)
                         have HI9 := Lib.hid (show DdAt w9 w.heap.size A c b P.2.1 from (ButT.grown hg9 (fun q e => HO8.out.has q e) w.heap.size _ HD8.out.i.has (by decide)).trans HD8.out.i)
                         have hb9 := (Below.refl w.heap.size _).grown hg9 hz8 (fun q e => (HO8.out.lt q e).1)
                         have HL9 := Lib.hid (HD8.out.l.below hb9)
                         have HB9 := Lib.hid (HB8.out.trans hb9)
                         clear ho9 hg9 hb9))
                    go_roundw
                    case rel => exact ⟨ls ++ [⟨nm, a + f, a + f + t, P.1, P.2.2⟩], k, P.2.1, a + f + t, by rw [List.length_append]; go_num, rfl, by rw [List.length_append, List.length_singleton]; omega, hle, by omega, HFAR.out, HPO9, HG3, HV8, HI9, HL9, HB9⟩
                    case measure => simp [intOf]; omega
              · rw [hno] at n2
                have HF := show G = (ls, (s, a)) by
                  rw [hr.out]
                  unfold goL
                  rw [if_pos hno, List.append_nil]
                clear hr hno
                subst HF
                go_wp2_with fail
                go_meet
                exact ⟨hO, hI, hL, hB⟩
            · obtain rfl : m = 0 := by omega
              have HF := show G = (ls, (s, a)) by
                rw [hr.out]
                unfold goL
                rw [List.append_nil]
              clear hr
              subst HF
              go_wp2_with fail
              go_meet
              exact ⟨hO, hI, hL, hB⟩
      case rest =>
        obtain ⟨HO4, HI4, HL4, HB4⟩ := hcut
        obtain ⟨w4, rfl⟩ : ∃ x, x = wc := ⟨_, rfl⟩
        obtain ⟨vl, rfl⟩ : ∃ x, x = u9 := ⟨_, rfl⟩
        clear HG2 HV2 HI2 HL2 HB2 hNI hrn
        as_aux_lemma =>
          have HN4 := Lib.hid (dnumber_any w.heap.size A c b 1000 G.2.1 w4 (by decide) hbn HL4.out HI4.out)
          obtain ⟨H, hH⟩ : ∃ H, gdQ b i = H := ⟨_, rfl⟩
          have HH := Lib.hid hH
          have HH2 := Lib.hid (show H = goL (fun q => q.1.no) (pntD b) (dnX b 1000 G.2.1).toNat (dnS b 1000 G.2.1, ()) by
            rw [← hH]
            unfold gdQ
            rw [HG.out]
            rfl)
          obtain ⟨sG, hsG⟩ : ∃ sG, G.2.1 = sG := ⟨_, rfl⟩
          rw [hsG] at HN4 HH2 HI4
          clear hH hsG
          go_wp2_with fail
          refine HN4.out.mono ?_
          rintro e w5 ⟨rfl, hr5, hg5⟩
          have hrn := dnX_rng b 1000 (by decide) sG
          have HO5 := Lib.hid (HO4.out.grd HI4.out.has hg5)
          have hb5 := below_gr hg5 (Nat.le_refl _) (Nat.le_of_lt HI4.out.lt)
          have HL5 := Lib.hid (HL4.out.below hb5)
          have HB5 := Lib.hid (HB4.out.trans hb5)
          have HI5 := Lib.hid hr5
          generalize dnX b 1000 sG = n at *
          generalize dnS b 1000 sG = s0 at *
          obtain ⟨N, hN⟩ : ∃ N, n.toNat = N := ⟨_, rfl⟩
          have hNI : (N : Int) ≤ n ∧ n ≤ N := by omega
          rw [hN] at HH2
          clear hr5 hg5 hb5 HN4 HO4 HL4 HB4 HI4 hN
          go_upto_block 4 with fail
          go_cut [10] from 12 (fun vq wx => Hid (PO wx w.heap.size vl G.1) ∧ Hid (QO wx w.heap.size vq H.1) ∧ Hid (DdAt wx w.heap.size A c b H.2.1) ∧ Hid (Below w.heap.size w wx))
          case first =>
            as_aux_lemma =>
              go_wp2_with fail
              go_loopw [10, 17] (fun vq iv wr => ∃ (qs : List Pnt) (m : Nat) (s : RS), iv = .int .i64 (qs.length : Int) ∧ qs.length + m = N ∧ N ≤ 1000 ∧ Hid (PO wr w.heap.size vl G.1) ∧ Hid (QO wr w.heap.size vq qs) ∧ Hid (H = (qs ++ (goL (fun q => q.1.no) (pntD b) m (s, ())).1, (goL (fun q => q.1.no) (pntD b) m (s, ())).2)) ∧ Hid (DdAt wr w.heap.size A c b s) ∧ Hid (Lies wr w.heap.size A b) ∧ Hid (Below w.heap.size w wr)) (fun _ iv _ => (n - intOf iv).toNat)
              case atStart => exact ⟨[], N, s0, rfl, by simp, by omega, HO5, QO.nil _ _, HH2, HI5, HL5, HB5⟩
              case round =>
                obtain ⟨qs, m, s, rfl, hm, hle, hP, hO, hr, hI, hL, hB⟩ := hrel
                obtain ⟨w1, rfl⟩ : ∃ x, x = wr := ⟨_, rfl⟩
                have n2 := hI.out.n2
                clear HO5 HH2 HI5 HL5 HB5
                by_cases hlt : (qs.length : Int) < n
                · obtain ⟨k, rfl⟩ : ∃ k, m = k + 1 := ⟨m - 1, by omega⟩
                  cases hno : s.no
                  · rw [hno] at n2
                    obtain ⟨P, hP0⟩ : ∃ P, lsD b 64 (nmD b 64) (dnS b 1048576 (dnS b 64 s), ()) = P := ⟨_, rfl⟩
                    have hgd : pntD b (s, ()) = (⟨dnX b 64 s, dnX b 1048576 (dnS b 64 s), P.1⟩, (P.2.1, ())) := by
                      unfold pntD ptD
                      dsimp only
                      rw [hP0]
                    have HG3 := Lib.hid (show H = ((qs ++ [⟨dnX b 64 s, dnX b 1048576 (dnS b 64 s), P.1⟩]) ++ (goL (fun q => q.1.no) (pntD b) k (P.2.1, ())).1, (goL (fun q => q.1.no) (pntD b) k (P.2.1, ())).2) by
                      rw [hr.out, goL_step (no := fun q : RS × Unit => q.1.no) (pntD b) k (s, ()) hno, hgd, List.append_assoc]
                      rfl)
                    have HP0 := Lib.hid (show P = goL (fun q => q.1.no) (nmD b 64) (dnX b 64 (dnS b 1048576 (dnS b 64 s))).toNat (dnS b 64 (dnS b 1048576 (dnS b 64 s)), ()) from hP0.symm)
                    obtain ⟨ps, hps, ho, hmm⟩ := hO.out
                    obtain ⟨AL, cL, rfl, _, _, _⟩ := ho.form
                    have HPSM := Lib.hid hps
                    have HOW := Lib.hid ho
                    have HOM := Lib.hid hmm
                    have hpl : ps.length ≤ 1000 := by
                      have := congrArg List.length hps
                      rw [List.length_map] at this
                      omega
                    have HD1 := Lib.hid (DrW.start hI.out hL.out)
                    have HT := Lib.hid (HD1.out.num hbn 64 (by decide))
                    have HIH := Lib.hid hI.out.has
                    clear hr hO hno hP0 hgd hps ho hmm hL
                    go_wp2_with fail
                    refine HT.out.mono ?_
                    rintro e w3 ⟨rfl, hr3, hg3⟩
                    have HD3 := Lib.hid (HD1.out.read hr3 hg3)
                    generalize dnX b 64 s = fn at *
                    generalize dnS b 64 s = s1 at *
                    have HT2 := Lib.hid (HD3.out.num hbn 1048576 (by decide))
                    clear hr3 hg3 HT n2 HD1
                    go_wp2_with fail
                    refine HT2.out.mono ?_
                    rintro e w4 ⟨rfl, hr4, hg4⟩
                    have HD4 := Lib.hid (HD3.out.read hr4 hg4)
                    generalize dnX b 1048576 s1 = ln at *
                    generalize dnS b 1048576 s1 = s2 at *
                    have HX1 := Lib.hid (show DyW w.heap.size w4.heap.size A c b s2 fn ln [] (.slice none 0 0) w1 (w4.alloc (.cells #[.int .i64 fn, .int .i64 ln, .slice none 0 0] 55)) from
                      ⟨HD4.out.below (below_lnew w4 _), heap_alloc_new w4 _, El.Own.nil _ _, HD4.out.g.size⟩)
                    have HN2 := Lib.hid (HX1.out.d.num hbn 64 (by decide))
                    clear hr4 hg4 HT2 HD3 HD4
                    go_wp2_with fail
                    generalize w4.heap.size = gx at *
                    refine HN2.out.mono ?_
                    rintro e w7 ⟨rfl, hr7, hg7⟩
                    have HX7 := Lib.hid (HX1.out.read hr7 hg7)
                    have hrM := dnX_rng b 64 (by decide) s2
                    generalize dnX b 64 s2 = mm at *
                    generalize dnS b 64 s2 = s5 at *
                    obtain ⟨M, hM⟩ : ∃ M, mm.toNat = M := ⟨_, rfl⟩
                    have hMI : (M : Int) ≤ mm ∧ mm ≤ M := by omega
                    rw [hM] at HP0
                    clear hr7 hg7 HN2 HX1 hM
                    go_upto_block 6 with fail
                    go_cut [20] from 102 to 143 (fun _ wx => ∃ (xs : List Int) (v1 : Value), Hid (DyW w.heap.size gx A c b P.2.1 fn ln xs v1 w1 wx) ∧ Hid (xs = P.1))
                    case first =>
                      as_aux_lemma =>
                        go_wp2_with fail
                        go_loopw [20] (fun kv wy => ∃ (xs : List Int) (m2 : Nat) (s5 : RS) (v1 : Value), kv = .int .i64 (xs.length : Int) ∧ xs.length + m2 = M ∧ M ≤ 64 ∧ Hid (DyW w.heap.size gx A c b s5 fn ln xs v1 w1 wy) ∧ Hid (P = (xs ++ (goL (fun q => q.1.no) (nmD b 64) m2 (s5, ())).1, (goL (fun q => q.1.no) (nmD b 64) m2 (s5, ())).2))) (fun kv _ => (mm - intOf kv).toNat)
                        case atStart => exact ⟨[], M, s5, _, rfl, by simp, by omega, HX7, HP0⟩
                        case round =>
                          obtain ⟨xs, m2, s5, v1, rfl, hm2, hle2, HX, hPr⟩ := hrel
                          obtain ⟨wy, rfl⟩ : ∃ x, x = wr := ⟨_, rfl⟩
                          obtain ⟨A1, c1, rfl, _, _, _⟩ := HX.out.v.form
                          have n2 := HX.out.d.i.n2
                          clear HX7 HP0
                          by_cases hlt2 : (xs.length : Int) < mm
                          · obtain ⟨k, rfl⟩ : ∃ k, m2 = k + 1 := ⟨m2 - 1, by omega⟩
                            cases hno2 : s5.no
                            · rw [hno2] at n2
                              have HPS := Lib.hid (show P = (xs ++ dnX b 64 s5 :: (goL (fun q => q.1.no) (nmD b 64) k (dnS b 64 s5, ())).1, (goL (fun q => q.1.no) (nmD b 64) k (dnS b 64 s5, ())).2) by
                                rw [hPr.out, goL_step (no := fun q : RS × Unit => q.1.no) (nmD b 64) k (s5, ()) hno2]
                                rfl)
                              have hle := hle2
                              clear hPr hno2
                              go_upto_region 33 with fail
                              clear n2
                              refine wp_region_held_drew (S := fun W9 => True) (by kernel_rfl) trivial (fun hHeld => ?_)
                              have HVd := Lib.hid (HX.out.below ((Below.refl _ _).drew))
                              generalize wy.drew = Wd at *
                              have qd := HVd.out.x.cell (j := 2) (by simp)
                              simp only [List.getElem_cons_zero, List.getElem_cons_succ] at qd
                              have HC := Lib.hid (HVd.out.d.num hbn 64 (by decide))
                              refine heldTake (i := 0) (d := some 133) (v := ?_) rfl rfl (by kernel_rfl) (by kernel_rfl) (by kernel_rfl) (fun _ _ _ h => h) (by kernel_rfl) ?hyq_16 (by assumption) ?restq_16
                              case hyq_16 => (intro W9 hSw; (try dsimp only at hSw); go_simp; try (with_reducible rfl))
                              (try simp only [Act.put, List.setIfInBounds_toArray, List.set_cons_zero, List.set_cons_succ])
                              refine heldTake (i := 2) (d := some 135) (v := ?_) rfl rfl (by kernel_rfl) (by kernel_rfl) (by kernel_rfl) (fun _ _ _ h => h) (by kernel_rfl) ?hyq_17 (by assumption) ?restq_17
                              case hyq_17 => (intro W9 hSw; (try dsimp only at hSw); go_simp; try (with_reducible rfl))
                              (try simp only [Act.put, List.setIfInBounds_toArray, List.set_cons_zero, List.set_cons_succ])
                              refine wpAnyH_ready (rs := [1, 3]) (by kernel_rfl) (by simp) ?_
                              refine AllReadyH.cons rfl (fun K hK => ?_) (AllReadyH.cons rfl (fun K hK => ?_) AllReadyH.nil)
                              · go_simp
                                refine hK.out _ _ trivial (fun hHeld => ?_)
                                clear hK K
                                (try simp only [Act.put, List.setIfInBounds_toArray, List.set_cons_zero, List.set_cons_succ])
                                refine wpAnyH_ready (rs := [3]) (by kernel_rfl) (by simp) ?_
                                refine AllReadyH.cons rfl (fun K hK => ?_) AllReadyH.nil
                                go_simp
                                go_at_call 21
                                refine HC.out.mono ?_
                                rintro e9 X ⟨rfl, hrX, hgX⟩
                                have HVX := Lib.hid (HVd.out.read hrX hgX)
                                have qX := HVX.out.x.cell (j := 2) (by simp)
                                simp only [List.getElem_cons_zero, List.getElem_cons_succ] at qX
                                clear hrX hgX
                                go_wp2_with fail
                                refine hK.out _ _ trivial (fun hHeld => ?_)
                                clear hK K
                                (try simp only [Act.put, List.setIfInBounds_toArray, List.set_cons_zero, List.set_cons_succ])
                                refine wpAnyH_ready (rs := [4]) (by kernel_rfl) (by simp) ?_
                                refine AllReadyH.cons rfl (fun K hK => ?_) AllReadyH.nil
                                (try rw [if_pos (by kernel_rfl)])
                                refine El.op_build1 eI X 53 (.int .i64 0) 8 Tryz.underlying53 int_info rfl (by decide) (.tmp 136) rfl (.int .i64 (dnX b 64 s5)) (dnX b 64 s5) rfl rfl ?_
                                change K (Act.put _ (some 137) (.slice (some ⟨X.heap.size, 0, none⟩) 1 1)) (X.alloc (.cells #[.int .i64 (dnX b 64 s5)] 3))
                                have hbY := below_lnew X (.cells #[.int .i64 (dnX b 64 s5)] 3)
                                have hcY := heap_alloc_new X (.cells #[.int .i64 (dnX b 64 s5)] 3)
                                obtain ⟨Y, hY⟩ : ∃ Y, X.alloc (.cells #[.int .i64 (dnX b 64 s5)] 3) = Y := ⟨_, rfl⟩
                                rw [hY] at hbY hcY ⊢
                                have HVY := Lib.hid (HVX.out.below hbY)
                                have qY := HVY.out.x.cell (j := 2) (by simp)
                                simp only [List.getElem_cons_zero, List.getElem_cons_succ] at qY
                                have hzXY := hbY.size
                                clear hY hbY
                                refine hK.out _ _ trivial (fun hHeld => ?_)
                                clear hK K
                                (try simp only [Act.put, List.setIfInBounds_toArray, List.set_cons_zero, List.set_cons_succ])
                                refine wpAnyH_ready (rs := [5]) (by kernel_rfl) (by simp) ?_
                                refine AllReadyH.cons rfl (fun K hK => ?_) AllReadyH.nil
                                (try rw [if_pos (by kernel_rfl)])
                                refine El.op_app1 eI Y 53 (.int .i64 0) 8 Tryz.underlying53 int_info rfl (by omega) (by decide) (.tmp 134) (.tmp 137) rfl (gx + 1) (.slice A1 xs.length c1) xs rfl HVY.out.v X.heap.size 1 (dnX b 64 s5) rfl 3 hcY (by omega) (Nat.succ_le_of_lt HVY.out.x.lt) ?_
                                intro v9 Z ho9 hg9
                                obtain ⟨A9, n9, c9, rfl, hn9, _, _, _⟩ := ho9.formN
                                change K (Act.put _ (some 138) (.slice A9 n9 c9)) Z
                                have hfZ : CAt Z gx 55 _ := (ButT.grown hg9 (fun q e => HVY.out.v.has q e) gx _ ⟨_, _, HVY.out.x⟩ (by decide)).trans HVY.out.x
                                have fZ := hfZ.frozen 2
                                have qZ := hfZ.cell (j := 2) (by simp)
                                simp only [List.getElem_cons_zero, List.getElem_cons_succ] at qZ
                                have HS := Lib.hid (HVY.out.addI hg9 ho9)
                                clear hfZ ho9 hg9
                                refine hK.out _ _ trivial (fun hHeld => ?_)
                                clear hK K
                                (try simp only [Act.put, List.setIfInBounds_toArray, List.set_cons_zero, List.set_cons_succ])
                                refine heldTake (i := 6) (d := some 139) (v := ?_) rfl rfl (by kernel_rfl) (by kernel_rfl) (by kernel_rfl) (fun _ _ _ h => h) (by kernel_rfl) ?hyq_18 (by assumption) ?restq_18
                                case hyq_18 => (intro W9 hSw; (try dsimp only at hSw); go_simp; try (with_reducible rfl))
                                (try simp only [Act.put, List.setIfInBounds_toArray, List.set_cons_zero, List.set_cons_succ])
                                refine wpAnyH_ready (rs := [7]) (by kernel_rfl) (by simp) ?_
                                refine AllReadyH.cons rfl (fun K hK => ?_) AllReadyH.nil
                                go_simp
                                refine hK.out _ _ trivial (fun hHeld => ?_)
                                clear hK K
                                (try simp only [Act.put, List.setIfInBounds_toArray, List.set_cons_zero, List.set_cons_succ])
                                refine wpAnyH_done (by kernel_rfl) ?_ _
                                obtain ⟨W9, hW9⟩ : ∃ W9, Z.setCell ⟨gx, 2, none⟩ (.slice A9 n9 c9) = W9 := ⟨_, rfl⟩
                                rw [hW9] at HS ⊢
                                clear hW9 qZ fZ
                                have HPN := Lib.hid (show P = ((xs ++ [dnX b 64 s5]) ++ (goL (fun q => q.1.no) (nmD b 64) k (dnS b 64 s5, ())).1, (goL (fun q => q.1.no) (nmD b 64) k (dnS b 64 s5, ())).2) by
                                  rw [HPS.out, List.append_assoc]
                                  rfl)
                                go_wp2_with fail
                                go_roundw
                                case rel => exact ⟨xs ++ [dnX b 64 s5], k, dnS b 64 s5, _, by rw [List.length_append]; go_num, by rw [List.length_append, List.length_singleton]; omega, hle, HS, HPN⟩
                                case measure => simp [intOf]; omega
                              · go_simp
                                go_at_call 21
                                refine HC.out.mono ?_
                                rintro e9 X ⟨rfl, hrX, hgX⟩
                                have HVX := Lib.hid (HVd.out.read hrX hgX)
                                have qX := HVX.out.x.cell (j := 2) (by simp)
                                simp only [List.getElem_cons_zero, List.getElem_cons_succ] at qX
                                clear hrX hgX
                                go_wp2_with fail
                                refine hK.out _ _ trivial (fun hHeld => ?_)
                                clear hK K
                                (try simp only [Act.put, List.setIfInBounds_toArray, List.set_cons_zero, List.set_cons_succ])
                                refine wpAnyH_ready (rs := [1, 4]) (by kernel_rfl) (by simp) ?_
                                refine AllReadyH.cons rfl (fun K hK => ?_) (AllReadyH.cons rfl (fun K hK => ?_) AllReadyH.nil)
                                · go_simp
                                  refine hK.out _ _ trivial (fun hHeld => ?_)
                                  clear hK K
                                  (try simp only [Act.put, List.setIfInBounds_toArray, List.set_cons_zero, List.set_cons_succ])
                                  refine wpAnyH_ready (rs := [4]) (by kernel_rfl) (by simp) ?_
                                  refine AllReadyH.cons rfl (fun K hK => ?_) AllReadyH.nil
                                  (try rw [if_pos (by kernel_rfl)])
                                  refine El.op_build1 eI X 53 (.int .i64 0) 8 Tryz.underlying53 int_info rfl (by decide) (.tmp 136) rfl (.int .i64 (dnX b 64 s5)) (dnX b 64 s5) rfl rfl ?_
                                  change K (Act.put _ (some 137) (.slice (some ⟨X.heap.size, 0, none⟩) 1 1)) (X.alloc (.cells #[.int .i64 (dnX b 64 s5)] 3))
                                  have hbY := below_lnew X (.cells #[.int .i64 (dnX b 64 s5)] 3)
                                  have hcY := heap_alloc_new X (.cells #[.int .i64 (dnX b 64 s5)] 3)
                                  obtain ⟨Y, hY⟩ : ∃ Y, X.alloc (.cells #[.int .i64 (dnX b 64 s5)] 3) = Y := ⟨_, rfl⟩
                                  rw [hY] at hbY hcY ⊢
                                  have HVY := Lib.hid (HVX.out.below hbY)
                                  have qY := HVY.out.x.cell (j := 2) (by simp)
                                  simp only [List.getElem_cons_zero, List.getElem_cons_succ] at qY
                                  have hzXY := hbY.size
                                  clear hY hbY
                                  refine hK.out _ _ trivial (fun hHeld => ?_)
                                  clear hK K
                                  (try simp only [Act.put, List.setIfInBounds_toArray, List.set_cons_zero, List.set_cons_succ])
                                  refine wpAnyH_ready (rs := [5]) (by kernel_rfl) (by simp) ?_
                                  refine AllReadyH.cons rfl (fun K hK => ?_) AllReadyH.nil
                                  (try rw [if_pos (by kernel_rfl)])
                                  refine El.op_app1 eI Y 53 (.int .i64 0) 8 Tryz.underlying53 int_info rfl (by omega) (by decide) (.tmp 134) (.tmp 137) rfl (gx + 1) (.slice A1 xs.length c1) xs rfl HVY.out.v X.heap.size 1 (dnX b 64 s5) rfl 3 hcY (by omega) (Nat.succ_le_of_lt HVY.out.x.lt) ?_
                                  intro v9 Z ho9 hg9
                                  obtain ⟨A9, n9, c9, rfl, hn9, _, _, _⟩ := ho9.formN
                                  change K (Act.put _ (some 138) (.slice A9 n9 c9)) Z
                                  have hfZ : CAt Z gx 55 _ := (ButT.grown hg9 (fun q e => HVY.out.v.has q e) gx _ ⟨_, _, HVY.out.x⟩ (by decide)).trans HVY.out.x
                                  have fZ := hfZ.frozen 2
                                  have qZ := hfZ.cell (j := 2) (by simp)
                                  simp only [List.getElem_cons_zero, List.getElem_cons_succ] at qZ
                                  have HS := Lib.hid (HVY.out.addI hg9 ho9)
                                  clear hfZ ho9 hg9
                                  refine hK.out _ _ trivial (fun hHeld => ?_)
                                  clear hK K
                                  (try simp only [Act.put, List.setIfInBounds_toArray, List.set_cons_zero, List.set_cons_succ])
                                  refine heldTake (i := 6) (d := some 139) (v := ?_) rfl rfl (by kernel_rfl) (by kernel_rfl) (by kernel_rfl) (fun _ _ _ h => h) (by kernel_rfl) ?hyq_19 (by assumption) ?restq_19
                                  case hyq_19 => (intro W9 hSw; (try dsimp only at hSw); go_simp; try (with_reducible rfl))
                                  (try simp only [Act.put, List.setIfInBounds_toArray, List.set_cons_zero, List.set_cons_succ])
                                  refine wpAnyH_ready (rs := [7]) (by kernel_rfl) (by simp) ?_
                                  refine AllReadyH.cons rfl (fun K hK => ?_) AllReadyH.nil
                                  go_simp
                                  refine hK.out _ _ trivial (fun hHeld => ?_)
                                  clear hK K
                                  (try simp only [Act.put, List.setIfInBounds_toArray, List.set_cons_zero, List.set_cons_succ])
                                  refine wpAnyH_done (by kernel_rfl) ?_ _
                                  obtain ⟨W9, hW9⟩ : ∃ W9, Z.setCell ⟨gx, 2, none⟩ (.slice A9 n9 c9) = W9 := ⟨_, rfl⟩
                                  rw [hW9] at HS ⊢
                                  clear hW9 qZ fZ
                                  have HPN := Lib.hid (show P = ((xs ++ [dnX b 64 s5]) ++ (goL (fun q => q.1.no) (nmD b 64) k (dnS b 64 s5, ())).1, (goL (fun q => q.1.no) (nmD b 64) k (dnS b 64 s5, ())).2) by
                                    rw [HPS.out, List.append_assoc]
                                    rfl)
                                  go_wp2_with fail
                                  go_roundw
                                  case rel => exact ⟨xs ++ [dnX b 64 s5], k, dnS b 64 s5, _, by rw [List.length_append]; go_num, by rw [List.length_append, List.length_singleton]; omega, hle, HS, HPN⟩
                                  case measure => simp [intOf]; omega
                                · (try rw [if_pos (by kernel_rfl)])
                                  refine El.op_build1 eI X 53 (.int .i64 0) 8 Tryz.underlying53 int_info rfl (by decide) (.tmp 136) rfl (.int .i64 (dnX b 64 s5)) (dnX b 64 s5) rfl rfl ?_
                                  change K (Act.put _ (some 137) (.slice (some ⟨X.heap.size, 0, none⟩) 1 1)) (X.alloc (.cells #[.int .i64 (dnX b 64 s5)] 3))
                                  have hbY := below_lnew X (.cells #[.int .i64 (dnX b 64 s5)] 3)
                                  have hcY := heap_alloc_new X (.cells #[.int .i64 (dnX b 64 s5)] 3)
                                  obtain ⟨Y, hY⟩ : ∃ Y, X.alloc (.cells #[.int .i64 (dnX b 64 s5)] 3) = Y := ⟨_, rfl⟩
                                  rw [hY] at hbY hcY ⊢
                                  have HVY := Lib.hid (HVX.out.below hbY)
                                  have qY := HVY.out.x.cell (j := 2) (by simp)
                                  simp only [List.getElem_cons_zero, List.getElem_cons_succ] at qY
                                  have hzXY := hbY.size
                                  clear hY hbY
                                  refine hK.out _ _ trivial (fun hHeld => ?_)
                                  clear hK K
                                  (try simp only [Act.put, List.setIfInBounds_toArray, List.set_cons_zero, List.set_cons_succ])
                                  refine wpAnyH_ready (rs := [1]) (by kernel_rfl) (by simp) ?_
                                  refine AllReadyH.cons rfl (fun K hK => ?_) AllReadyH.nil
                                  go_simp
                                  refine hK.out _ _ trivial (fun hHeld => ?_)
                                  clear hK K
                                  (try simp only [Act.put, List.setIfInBounds_toArray, List.set_cons_zero, List.set_cons_succ])
                                  refine wpAnyH_ready (rs := [5]) (by kernel_rfl) (by simp) ?_
                                  refine AllReadyH.cons rfl (fun K hK => ?_) AllReadyH.nil
                                  (try rw [if_pos (by kernel_rfl)])
                                  refine El.op_app1 eI Y 53 (.int .i64 0) 8 Tryz.underlying53 int_info rfl (by omega) (by decide) (.tmp 134) (.tmp 137) rfl (gx + 1) (.slice A1 xs.length c1) xs rfl HVY.out.v X.heap.size 1 (dnX b 64 s5) rfl 3 hcY (by omega) (Nat.succ_le_of_lt HVY.out.x.lt) ?_
                                  intro v9 Z ho9 hg9
                                  obtain ⟨A9, n9, c9, rfl, hn9, _, _, _⟩ := ho9.formN
                                  change K (Act.put _ (some 138) (.slice A9 n9 c9)) Z
                                  have hfZ : CAt Z gx 55 _ := (ButT.grown hg9 (fun q e => HVY.out.v.has q e) gx _ ⟨_, _, HVY.out.x⟩ (by decide)).trans HVY.out.x
                                  have fZ := hfZ.frozen 2
                                  have qZ := hfZ.cell (j := 2) (by simp)
                                  simp only [List.getElem_cons_zero, List.getElem_cons_succ] at qZ
                                  have HS := Lib.hid (HVY.out.addI hg9 ho9)
                                  clear hfZ ho9 hg9
                                  refine hK.out _ _ trivial (fun hHeld => ?_)
                                  clear hK K
                                  (try simp only [Act.put, List.setIfInBounds_toArray, List.set_cons_zero, List.set_cons_succ])
                                  refine heldTake (i := 6) (d := some 139) (v := ?_) rfl rfl (by kernel_rfl) (by kernel_rfl) (by kernel_rfl) (fun _ _ _ h => h) (by kernel_rfl) ?hyq_20 (by assumption) ?restq_20
                                  case hyq_20 => (intro W9 hSw; (try dsimp only at hSw); go_simp; try (with_reducible rfl))
                                  (try simp only [Act.put, List.setIfInBounds_toArray, List.set_cons_zero, List.set_cons_succ])
                                  refine wpAnyH_ready (rs := [7]) (by kernel_rfl) (by simp) ?_
                                  refine AllReadyH.cons rfl (fun K hK => ?_) AllReadyH.nil
                                  go_simp
                                  refine hK.out _ _ trivial (fun hHeld => ?_)
                                  clear hK K
                                  (try simp only [Act.put, List.setIfInBounds_toArray, List.set_cons_zero, List.set_cons_succ])
                                  refine wpAnyH_done (by kernel_rfl) ?_ _
                                  obtain ⟨W9, hW9⟩ : ∃ W9, Z.setCell ⟨gx, 2, none⟩ (.slice A9 n9 c9) = W9 := ⟨_, rfl⟩
                                  rw [hW9] at HS ⊢
                                  clear hW9 qZ fZ
                                  have HPN := Lib.hid (show P = ((xs ++ [dnX b 64 s5]) ++ (goL (fun q => q.1.no) (nmD b 64) k (dnS b 64 s5, ())).1, (goL (fun q => q.1.no) (nmD b 64) k (dnS b 64 s5, ())).2) by
                                    rw [HPS.out, List.append_assoc]
                                    rfl)
                                  go_wp2_with fail
                                  go_roundw
                                  case rel => exact ⟨xs ++ [dnX b 64 s5], k, dnS b 64 s5, _, by rw [List.length_append]; go_num, by rw [List.length_append, List.length_singleton]; omega, hle, HS, HPN⟩
                                  case measure => simp [intOf]; omega
                            · rw [hno2] at n2
                              have HF := show P = (xs, (s5, ())) by
                                rw [hPr.out]
                                unfold goL
                                rw [if_pos hno2, List.append_nil]
                              clear hPr hno2
                              subst HF
                              go_wp2_with fail
                              go_meet
                              exact ⟨xs, _, HX, rfl⟩
                          · obtain rfl : m2 = 0 := by omega
                            have HF := show P = (xs, (s5, ())) by
                              rw [hPr.out]
                              unfold goL
                              rw [List.append_nil]
                            clear hPr
                            subst HF
                            go_wp2_with fail
                            go_meet
                            exact ⟨xs, _, HX, rfl⟩
                    case rest =>
                      obtain ⟨xs, v1, HX8, HE1⟩ := hcut
                      obtain ⟨w8, rfl⟩ : ∃ x, x = wc := ⟨_, rfl⟩
                      clear HX7 HP0
                      obtain ⟨vA, vc, rfl, hPT⟩ := HX8.out.made
                      have y0 := HX8.out.x.cell (j := 0) (by simp)
                      have y1 := HX8.out.x.cell (j := 1) (by simp)
                      have y2 := HX8.out.x.cell (j := 2) (by simp)
                      simp only [List.getElem_cons_zero, List.getElem_cons_succ] at y0 y1 y2
                      have hbn8 := below_lnew w8 (.cells #[.int .i64 fn, .int .i64 ln, .slice vA xs.length vc] 55)
                      have hgr8 : ButT 60 w1 w8 := ButT.grown HX8.out.d.g (fun k e => by injection e with e; subst e; exact HIH.out)
                      have HO8 := Lib.hid ((HOW.out.but hgr8 (by decide)).below hbn8)
                      have HM8 := Lib.hid (fun q (hq : q ∈ ps) => ((HOM.out q hq).but hgr8 (by decide)).below hbn8)
                      have HPT := Lib.hid (hPT.below hbn8)
                      have HD8 := Lib.hid (HX8.out.d.below hbn8)
                      have HP8 := Lib.hid ((hP.out.grd HIH.out HX8.out.d.g).below hbn8)
                      have hz8 : w.heap.size ≤ (w8.alloc (.cells #[.int .i64 fn, .int .i64 ln, .slice vA xs.length vc] 55)).heap.size := Nat.le_of_lt (Nat.lt_of_lt_of_le HX8.out.d.i.lt hbn8.size)
                      have HB8 := Lib.hid ((hB.out.trans (below_gr HX8.out.d.g (Nat.le_refl _) (Nat.le_of_lt HX8.out.d.n))).trans (hbn8.mono (Nat.le_of_lt HX8.out.d.i.lt)))
                      have HC8 := Lib.hid (heap_alloc_new w8 (.cells #[.int .i64 fn, .int .i64 ln, .slice vA xs.length vc] 55))
                      clear hbn8 hgr8 hPT
                      go_wp2_with (first
                        | (at_builtin
                           go_must (refine El.app1 eQ _ rfl 26 (.agg #[.int .i64 0, .int .i64 0, .slice none 0 0]) 40 Tryz.underlying26 point_info rfl (by omega) (by decide) (.tmp 140) (.tmp 142) rfl w.heap.size (.slice AL ps.length cL) ps rfl HO8.out w8.heap.size 1 ⟨⟨fn, ln, xs⟩, vA, vc⟩ rfl 55 HC8.out (by omega) hz8 ?_)
                           intro v9 w9 ho9 hg9
                           have HPO9 := Lib.hid (show QO w9 w.heap.size v9 (qs ++ [⟨fn, ln, P.1⟩]) by rw [← HPSM.out, ← HE1.out]; exact QO.add HM8.out HO8.out HPT.out hg9 ho9)
                           have hbt := ButT.grown hg9 (fun q e => HO8.out.has q e)
                           have HI9 := Lib.hid (show DdAt w9 w.heap.size A c b P.2.1 from (hbt w.heap.size _ HD8.out.i.has (by decide)).trans HD8.out.i)
                           have HP9 := Lib.hid (HP8.out.butQ hbt)
                           have hb9 := (Below.refl w.heap.size _).grown hg9 hz8 (fun q e => (HO8.out.lt q e).1)
                           have HL9 := Lib.hid (HD8.out.l.below hb9)
                           have HB9 := Lib.hid (HB8.out.trans hb9)
                           clear ho9 hg9 hb9 hbt))
                      go_roundw
                      case rel => exact ⟨qs ++ [⟨fn, ln, P.1⟩], k, P.2.1, by rw [List.length_append]; go_num, by rw [List.length_append, List.length_singleton]; omega, hle, HP9, HPO9, HG3, HI9, HL9, HB9⟩
                      case measure => simp [intOf]; omega
                  · rw [hno] at n2
                    have HF := show H = (qs, (s, ())) by
                      rw [hr.out]
                      unfold goL
                      rw [if_pos hno, List.append_nil]
                    clear hr hno
                    subst HF
                    go_wp2_with fail
                    go_meet
                    exact ⟨hP, hO, hI, hB⟩
                · obtain rfl : m = 0 := by omega
                  have HF := show H = (qs, (s, ())) by
                    rw [hr.out]
                    unfold goL
                    rw [List.append_nil]
                  clear hr
                  subst HF
                  go_wp2_with fail
                  go_meet
                  exact ⟨hP, hO, hI, hB⟩
          case rest =>
            obtain ⟨HO6, HQ6, HI6, HB6⟩ := hcut
            obtain ⟨w6, rfl⟩ : ∃ x, x = wc := ⟨_, rfl⟩
            clear HO5 HH2 HI5 HL5 HB5 hNI hrn
            obtain ⟨vq, rfl⟩ : ∃ x, x = u10 := ⟨_, rfl⟩
            obtain ⟨A1, c1, ps, rfl, hps, _, _, hTL⟩ := HO6.out.form
            obtain ⟨A2, c2, qs, rfl, hqs, _, _, hUL⟩ := HQ6.out.form
            have hd := dgot_sm hbn (hps.trans (congrArg Prod.fst HG.out.symm)) (hqs.trans (congrArg Prod.fst HH.out.symm))
            have HR := Lib.hid (refRight9_any A1 A2 c1 c2 ps qs w6 ⟨by omega, by omega⟩ hd.2.1 hd.2.2 hTL hUL)
            have HOKE := Lib.hid (show H.2.1.no = false → gdOk b i = right9 (ps.map Pp.d) (qs.map Pq.d) from fun q => by unfold gdOk; rw [HH.out, HG.out, q, hps, hqs]; rfl)
            have HOKN := Lib.hid (show H.2.1.no = true → gdOk b i = false from fun q => by unfold gdOk; rw [HH.out, q]; rfl)
            have n2 := HI6.out.n2
            have a2 := HI6.out.a1
            clear hd hps hqs hTL hUL
            cases hno : H.2.1.no
            · rw [hno] at n2
              have HE := Lib.hid (HOKE.out hno)
              clear hno HOKE HOKN
              cases hr9 : right9 (ps.map Pp.d) (qs.map Pq.d)
              · rw [hr9] at HR
                have HF := Lib.hid (show gdE b i = 5 from by rw [HOK.out, HE.out, hr9]; rfl)
                clear hr9 HE
                go_wp2_with fail
                refine HR.out.mono ?_
                rintro e w7 ⟨rfl, hb7⟩
                have HB7 := Lib.hid (HB6.out.trans (hb7.mono HB6.out.size))
                clear hb7 HR n2 a2
                go_wp2_with fail
                refine bodyPost_ret (results_tmp4 rfl _ _ _) rfl ?_
                exact ⟨_, _, by rw [HF.out]; rfl, by rw [HF.out]; exact PO.nil _ _, by rw [HF.out]; exact QO.nil _ _, HB7.out⟩
              · rw [hr9] at HR
                have HF := Lib.hid (show gdE b i = 0 from by rw [HOK.out, HE.out, hr9]; rfl)
                clear hr9 HE
                go_wp2_with fail
                refine HR.out.mono ?_
                rintro e w7 ⟨rfl, hb7⟩
                have a7 := (hb7.cell (p := ⟨w.heap.size, 1, none⟩) HI6.out.lt).trans a2
                have HB7 := Lib.hid (HB6.out.trans (hb7.mono HB6.out.size))
                have HW7 := Lib.hid hb7
                clear hb7 HR n2 a2
                go_wp2_with fail
                go_quiet (fail)
                have hbq := below_draws (B := w7.heap.size) (w := w7) nq
                go_wp2_with fail
                refine bodyPost_ret (results_tmp4 rfl _ _ _) rfl ?_
                exact ⟨_, _, by rw [HF.out, HH.out]; rfl, by rw [HF.out, HG.out]; exact (HO6.out.below HW7.out).below hbq, by rw [HF.out, HH.out]; exact (HQ6.out.below HW7.out).below hbq, HB7.out.trans (hbq.mono HB7.out.size)⟩
            · rw [hno] at n2
              have HE := Lib.hid (show gdE b i = 5 from by rw [HOK.out, HOKN.out hno]; rfl)
              clear hno HOKE HOKN
              go_wp2_with fail
              refine bodyPost_ret (results_tmp4 rfl _ _ _) rfl ?_
              exact ⟨_, _, by rw [HE.out]; rfl, by rw [HE.out]; exact PO.nil _ _, by rw [HE.out]; exact QO.nil _ _, HB6.out⟩
end Go.Proofs.YtbkfkdiadeaooaaGreat
