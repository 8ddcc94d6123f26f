/-
  Merged for a claim: T9Y.
-/
import Derived.Test.YtbkfkdiadeaooaaGreatHT9X
namespace Go.Proofs.YtbkfkdiadeaooaaGreat
open Go Go.RowKit

theorem DvW.back {gr : Nat} {A : Option Addr} {c : Nat} {b : List UInt8} {s : RS} {w W : World} {g2 g3 : Nat} {k : List Value} (h : DvW gr A c b s w W g2 g3 k) (p : Pv) (hp : VT W p) (x : Vr × RS) (hx : p.d = x.1) (hs : s = x.2) (u0 u1 u2 u3 u4 u5 : Value) :
    DvR gr A c b x w (.returned (.agg (vK p))) ((((((W.setCell ⟨g2, 0, none⟩ u0).setCell ⟨g2, 1, none⟩ u1).setCell ⟨g2, 2, none⟩ u2).setCell ⟨g2, 3, none⟩ u3).setCell ⟨g2, 4, none⟩ u4).setCell ⟨g2, 5, none⟩ u5) := by
  have hn := h.n
  have h3 := hn.1
  have t : HasT W g2 67 := ⟨_, _, h.c2⟩
  have hq := (((((ButT.set (p := ⟨g2, 0, none⟩) t u0).trans (ButT.set (p := ⟨g2, 1, none⟩) (t.set _ _) u1)).trans (ButT.set (p := ⟨g2, 2, none⟩) ((t.set _ _).set _ _) u2)).trans (ButT.set (p := ⟨g2, 3, none⟩) (((t.set _ _).set _ _).set _ _) u3)).trans (ButT.set (p := ⟨g2, 4, none⟩) ((((t.set _ _).set _ _).set _ _).set _ _) u4)).trans (ButT.set (p := ⟨g2, 5, none⟩) (((((t.set _ _).set _ _).set _ _).set _ _).set _ _) u5)
  have hb := ((((((Below.refl w.heap.size W).setCell (p := ⟨g2, 0, none⟩) h3 u0).setCell (p := ⟨g2, 1, none⟩) h3 u1).setCell (p := ⟨g2, 2, none⟩) h3 u2).setCell (p := ⟨g2, 3, none⟩) h3 u3).setCell (p := ⟨g2, 4, none⟩) h3 u4).setCell (p := ⟨g2, 5, none⟩) h3 u5
  subst hs
  exact ⟨p, rfl, hx, hp.but hq (by decide), h.i.below hb hn.2.2, grown_new h.g hb⟩

theorem DvW.low {gr : Nat} {A : Option Addr} {c : Nat} {b : List UInt8} {s : RS} {w W Z : World} {g2 g3 : Nat} {k : List Value} (h : DvW gr A c b s w W g2 g3 k) (hb : Below (g3 + 1) W Z) : DvW gr A c b s w Z g2 g3 k := by
  have hn := h.n
  exact ⟨h.i.below hb (by omega), h.l.below (hb.mono (by omega)), grown_new h.g (hb.mono (by omega)), h.c3.below hb (by omega), h.c2.below hb (by omega), hn⟩

set_option maxRecDepth 100000 in
set_option maxHeartbeats 8000000 in
theorem dvar_any (gr : Nat) (A : Option Addr) (c : Nat) (b : List UInt8) (s : RS) (w : World) (hv : Vd b s) (hc : b.length ≤ c) (hbn : b.length ≤ 1099511627776) (hl : Lies w gr A b) (hr : DdAt w gr A c b s) :
    Calls Tryz.prog 23 #[.pointer (some ⟨gr, 0, none⟩)] w (DvR gr A c b (vaD b s) w) := by
  have hgr := hr.lt
  have hb0 := below_lnew w (.cells #[.string ⟨#[]⟩, .int .u8 0, .int .i64 0, .string ⟨#[]⟩, .int .i64 0, .slice none 0 0] 67)
  have HI0 := Lib.hid (hr.below hb0 hgr)
  have HL0 := Lib.hid (hl.below (hb0.mono (Nat.le_of_lt hgr)))
  have HB0 := Lib.hid hb0
  have HN1 := Lib.hid (dtext_any gr A c b s _ hc hbn HL0.out HI0.out)
  have c0 := heap_alloc_new w (.cells #[.string ⟨#[]⟩, .int .u8 0, .int .i64 0, .string ⟨#[]⟩, .int .i64 0, .slice none 0 0] 67)
  obtain ⟨r, hr9⟩ : ∃ r, vaD b s = r := ⟨_, rfl⟩
  rw [hr9]
  unfold vaD at hr9
  have HR := Lib.hid hr9.symm
  have HV1 := Lib.hid (vd_tx hv)
  clear hr hb0 hr9 hl hv
  go_enter Tryz.func23, Tryz.ntmps23
  go_wp2_with fail
  refine HN1.out.mono ?_
  rintro e w2 ⟨rfl, hr2, hg2⟩
  have hz0 : gr < (w.alloc (.cells #[.string ⟨#[]⟩, .int .u8 0, .int .i64 0, .string ⟨#[]⟩, .int .i64 0, .slice none 0 0] 67)).heap.size := by simp; omega
  have HL2 := Lib.hid (HL0.out.below (below_gr hg2 (Nat.le_refl _) (Nat.le_of_lt hz0)))
  have d0 := (hg2.block w.heap.size (by simp) (fun q => by injection q with q; omega)).trans c0
  have HG2 := Lib.hid (grown_trans (grown_below HB0.out (some gr)) hg2)
  have hs2 := hg2.size
  simp only [World.size_alloc] at hs2
  generalize txX b s = nm at *
  generalize txT b s = s1 at *
  have HN2 := Lib.hid (dbyte_vd gr A c b s1 w2 HV1.out hbn HL2.out hr2)
  have HV2 := Lib.hid (vd_ox HV1.out)
  clear hr2 hg2 HI0 HL0 HN1 c0 HB0 hz0
  go_wp2_with fail
  refine HN2.out.mono ?_
  rintro e w3 ⟨rfl, hr3, hg3⟩
  generalize oxX b s1 = kd at *
  generalize oxS b s1 = s2 at *
  have hs3 := hg3.size
  have HV3 := Lib.hid (show DvW gr A c b s2 w (w3.alloc (.cells #[.string (str nm), .int .u8 kd, .int .i64 0, .string ⟨#[]⟩, .int .i64 1, .slice none 0 0] 67)) w.heap.size w3.heap.size [.string (str nm), .int .u8 kd, .int .i64 0, .string ⟨#[]⟩, .int .i64 1, .slice none 0 0] from by
    have hb := below_lnew w3 (.cells #[.string (str nm), .int .u8 kd, .int .i64 0, .string ⟨#[]⟩, .int .i64 1, .slice none 0 0] 67)
    exact ⟨hr3.below hb hr3.lt, (HL2.out.below (below_gr hg3 (Nat.le_refl _) (by omega))).below (hb.mono (by omega)), grown_trans (grown_trans HG2.out hg3) (grown_below hb _), heap_alloc_new w3 _, (hb.block w.heap.size (by omega)).trans ((hg3.block w.heap.size (by omega) (fun q => by injection q with q; omega)).trans d0), Nat.le_refl _, by omega, hgr⟩)
  have HD3 := Lib.hid (show CAt w3 w.heap.size 67 [.string ⟨#[]⟩, .int .u8 0, .int .i64 0, .string ⟨#[]⟩, .int .i64 0, .slice none 0 0] from (hg3.block w.heap.size (by omega) (fun q => by injection q with q; omega)).trans d0)
  have HI3 := Lib.hid hr3
  have HG3 := Lib.hid (grown_trans HG2.out hg3)
  clear hr3 hg3 HL2 HG2 HN2 d0 HV1
  have y0 := HV3.out.c3.cell (j := 0) (by simp)
  have yf0 := HV3.out.c3.frozen 0
  have y1 := HV3.out.c3.cell (j := 1) (by simp)
  have yf1 := HV3.out.c3.frozen 1
  have y2 := HV3.out.c3.cell (j := 2) (by simp)
  have yf2 := HV3.out.c3.frozen 2
  have y3 := HV3.out.c3.cell (j := 3) (by simp)
  have yf3 := HV3.out.c3.frozen 3
  have y4 := HV3.out.c3.cell (j := 4) (by simp)
  have yf4 := HV3.out.c3.frozen 4
  have y5 := HV3.out.c3.cell (j := 5) (by simp)
  have yf5 := HV3.out.c3.frozen 5
  simp only [List.getElem_cons_zero, List.getElem_cons_succ] at y0 y1 y2 y3 y4 y5
  by_cases h3 : kd = 3
  · have HR3 := Lib.hid (show r = _ from by rw [HR.out, if_pos h3])
    clear HR
    subst h3
    have HN4 := Lib.hid (HV3.out.num hbn 16 (by decide))
    go_wp2_with fail
    refine HN4.out.mono ?_
    rintro e w5 ⟨rfl, hv5⟩
    generalize dnX b 16 s2 = n at *
    generalize dnS b 16 s2 = s3 at *
    have HV5 := Lib.hid hv5
    clear y0 yf0 y1 yf1 y2 yf2 y3 yf3 y4 yf4 y5 yf5 
    clear hv5 HN4 HV3
    have y0 := HV5.out.c3.cell (j := 0) (by simp)
    have yf0 := HV5.out.c3.frozen 0
    have y1 := HV5.out.c3.cell (j := 1) (by simp)
    have yf1 := HV5.out.c3.frozen 1
    have y2 := HV5.out.c3.cell (j := 2) (by simp)
    have yf2 := HV5.out.c3.frozen 2
    have y3 := HV5.out.c3.cell (j := 3) (by simp)
    have yf3 := HV5.out.c3.frozen 3
    have y4 := HV5.out.c3.cell (j := 4) (by simp)
    have yf4 := HV5.out.c3.frozen 4
    have y5 := HV5.out.c3.cell (j := 5) (by simp)
    have yf5 := HV5.out.c3.frozen 5
    have z0 := HV5.out.c2.cell (j := 0) (by simp)
    have zf0 := HV5.out.c2.frozen 0
    have z1 := HV5.out.c2.cell (j := 1) (by simp)
    have zf1 := HV5.out.c2.frozen 1
    have z2 := HV5.out.c2.cell (j := 2) (by simp)
    have zf2 := HV5.out.c2.frozen 2
    have z3 := HV5.out.c2.cell (j := 3) (by simp)
    have zf3 := HV5.out.c2.frozen 3
    have z4 := HV5.out.c2.cell (j := 4) (by simp)
    have zf4 := HV5.out.c2.frozen 4
    have z5 := HV5.out.c2.cell (j := 5) (by simp)
    have zf5 := HV5.out.c2.frozen 5
    have hne := HV5.out.n.2.1
    simp only [List.getElem_cons_zero, List.getElem_cons_succ] at y0 y1 y2 y3 y4 y5 z0 z1 z2 z3 z4 z5
    go_wp2_with fail
    have hva := (HV5.out.set 2 (.int .i64 n)).set 4 (.int .i64 n)
    refine bodyPost_ret (va_back rfl rfl ((((((hva.c2.set 0 _).set 1 _).set 2 _).set 3 _).set 4 _).set 5 _)) rfl ?_
    exact hva.back ⟨⟨nm, 3, n, [], n, []⟩, none, 0⟩ ⟨El.LiesT.nil _ _, Nat.le_refl _, fun _ => rfl⟩ r (by rw [HR3.out]) (by rw [HR3.out]) _ _ _ _ _ _
  · by_cases h4 : kd = 4
    · have HR3 := Lib.hid (show r = _ from by rw [HR.out, if_neg h3, if_pos h4])
      clear HR
      subst h4
      have HN4 := Lib.hid (HV3.out.txt hc hbn)
      go_wp2_with fail
      refine HN4.out.mono ?_
      rintro e w5 ⟨rfl, hv5⟩
      have HV4 := Lib.hid (vd_tx HV2.out)
      generalize txX b s2 = tn at *
      generalize txT b s2 = s3 at *
      have HV5 := Lib.hid hv5
      clear y0 yf0 y1 yf1 y2 yf2 y3 yf3 y4 yf4 y5 yf5 
      clear hv5 HN4 HV3 HV2
      have y0 := HV5.out.c3.cell (j := 0) (by simp)
      have yf0 := HV5.out.c3.frozen 0
      have y1 := HV5.out.c3.cell (j := 1) (by simp)
      have yf1 := HV5.out.c3.frozen 1
      have y2 := HV5.out.c3.cell (j := 2) (by simp)
      have yf2 := HV5.out.c3.frozen 2
      have y3 := HV5.out.c3.cell (j := 3) (by simp)
      have yf3 := HV5.out.c3.frozen 3
      have y4 := HV5.out.c3.cell (j := 4) (by simp)
      have yf4 := HV5.out.c3.frozen 4
      have y5 := HV5.out.c3.cell (j := 5) (by simp)
      have yf5 := HV5.out.c3.frozen 5
      simp only [List.getElem_cons_zero, List.getElem_cons_succ] at y0 y1 y2 y3 y4 y5
      have HV6 := Lib.hid (HV5.out.set 3 (.string (str tn)))
      have HN6 := Lib.hid (HV6.out.num hbn 8 (by decide))
      have HNR := Lib.hid (dnX_rng b 8 (by decide) s3)
      go_wp2_with fail
      refine HN6.out.mono ?_
      rintro e w7 ⟨rfl, hv7⟩
      have hlsD : lsD b 8 (tx9 b) (s3, ()) = goL (fun q => q.1.no) (tx9 b) (dnX b 8 s3).toNat (dnS b 8 s3, ()) := rfl
      rw [hlsD] at HR3
      have HVS := Lib.hid (vd_dn (m := 8) (by decide) HV4.out)
      generalize dnX b 8 s3 = n at *
      generalize dnS b 8 s3 = s4 at *
      have HV7 := Lib.hid hv7
      clear y0 yf0 y1 yf1 y2 yf2 y3 yf3 y4 yf4 y5 yf5 
      clear hv7 HN6 HV6 HV5 HV4 hlsD
      have y0 := HV7.out.c3.cell (j := 0) (by simp)
      have yf0 := HV7.out.c3.frozen 0
      have y1 := HV7.out.c3.cell (j := 1) (by simp)
      have yf1 := HV7.out.c3.frozen 1
      have y2 := HV7.out.c3.cell (j := 2) (by simp)
      have yf2 := HV7.out.c3.frozen 2
      have y3 := HV7.out.c3.cell (j := 3) (by simp)
      have yf3 := HV7.out.c3.frozen 3
      have y4 := HV7.out.c3.cell (j := 4) (by simp)
      have yf4 := HV7.out.c3.frozen 4
      have y5 := HV7.out.c3.cell (j := 5) (by simp)
      have yf5 := HV7.out.c3.frozen 5
      simp only [List.set_cons_zero, List.set_cons_succ, List.getElem_cons_zero, List.getElem_cons_succ] at y0 y1 y2 y3 y4 y5
      have HV8 := Lib.hid (HV7.out.set 4 (.int .i64 n))
      generalize w3.heap.size = g3 at *
      have hnr := HNR.out
      obtain ⟨N, hN⟩ : ∃ N, n.toNat = N := ⟨_, rfl⟩
      have hNI : (N : Int) = n := by omega
      rw [hN] at HR3
      clear hN HNR
      go_wp2_with fail
      go_loopw [4] (fun i wr => ∃ (xs : List (List UInt8)) (m : Nat) (s5 : RS) (v : Value), i = .int .i64 (xs.length : Int) ∧ xs.length + m = N ∧ Hid (eS.Own wr (g3 + 1) v xs) ∧ Hid (r = (⟨nm, 4, 0, tn, n, xs ++ (goL (fun q => q.1.no) (tx9 b) m (s5, ())).1⟩, (goL (fun q => q.1.no) (tx9 b) m (s5, ())).2.1)) ∧ Hid (Vd b s5) ∧ Hid (DvW gr A c b s5 w wr w.heap.size g3 [.string (str nm), .int .u8 4, .int .i64 0, .string (str tn), .int .i64 n, v])) (fun i _ => (n - intOf i).toNat)
      case atStart => exact ⟨[], N, s4, .slice none 0 0, rfl, by simp, El.Own.nil _ _, HR3, HVS, HV8⟩
      case round =>
        obtain ⟨xs, m, s5, v, rfl, hm, hO, hr, hV, hD⟩ := hrel
        obtain ⟨Ax, cx, rfl, h1x, h2x, hTx⟩ := hO.out.form
        have n2 := hD.out.i.n2
        have y0 := hD.out.c3.cell (j := 0) (by simp)
        have yf0 := hD.out.c3.frozen 0
        have y1 := hD.out.c3.cell (j := 1) (by simp)
        have yf1 := hD.out.c3.frozen 1
        have y2 := hD.out.c3.cell (j := 2) (by simp)
        have yf2 := hD.out.c3.frozen 2
        have y3 := hD.out.c3.cell (j := 3) (by simp)
        have yf3 := hD.out.c3.frozen 3
        have y4 := hD.out.c3.cell (j := 4) (by simp)
        have yf4 := hD.out.c3.frozen 4
        have y5 := hD.out.c3.cell (j := 5) (by simp)
        have yf5 := hD.out.c3.frozen 5
        have z0 := hD.out.c2.cell (j := 0) (by simp)
        have zf0 := hD.out.c2.frozen 0
        have z1 := hD.out.c2.cell (j := 1) (by simp)
        have zf1 := hD.out.c2.frozen 1
        have z2 := hD.out.c2.cell (j := 2) (by simp)
        have zf2 := hD.out.c2.frozen 2
        have z3 := hD.out.c2.cell (j := 3) (by simp)
        have zf3 := hD.out.c2.frozen 3
        have z4 := hD.out.c2.cell (j := 4) (by simp)
        have zf4 := hD.out.c2.frozen 4
        have z5 := hD.out.c2.cell (j := 5) (by simp)
        have zf5 := hD.out.c2.frozen 5
        have hne := hD.out.n.2.1
        simp only [List.getElem_cons_zero, List.getElem_cons_succ] at y0 y1 y2 y3 y4 y5 z0 z1 z2 z3 z4 z5
        by_cases hlt : (xs.length : Int) < n
        · obtain ⟨k, rfl⟩ : ∃ k, m = k + 1 := ⟨m - 1, by omega⟩
          cases hno : s5.no
          · rw [hno] at n2
            obtain ⟨T, hT9⟩ : ∃ T, txX b s5 = T := ⟨_, rfl⟩
            have HN := Lib.hid (show r = (⟨nm, 4, 0, tn, n, (xs ++ [T]) ++ (goL (fun q => q.1.no) (tx9 b) k (txT b s5, ())).1⟩, (goL (fun q => q.1.no) (tx9 b) k (txT b s5, ())).2.1) by
              rw [hr.out, goL_step (no := fun q : RS × Unit => q.1.no) (tx9 b) k (s5, ()) hno, ← hT9, List.append_assoc]
              rfl)
            have HVT := Lib.hid (vd_tx hV.out)
            clear hr hno hV h1x h2x hTx
            go_wp2_with fail
            refine wp_region_held_drew (S := fun W9 => True) (by kernel_rfl) (trivial) (fun hHeld => ?_)
            have HVd := Lib.hid (hD.out.low ((Below.refl _ _).drew))
            have HOd := Lib.hid (hO.out.below ((Below.refl _ _).drew))
            clear hD hO n2 y0 yf0 z0 zf0 y1 yf1 z1 zf1 y2 yf2 z2 zf2 y3 yf3 z3 zf3 y4 yf4 z4 zf4 y5 yf5 z5 zf5
            generalize wr.drew = Wd at *
            have qd := HVd.out.c3.cell (j := 5) (by simp)
            simp only [List.getElem_cons_zero, List.getElem_cons_succ] at qd
            have HC := Lib.hid (dtext_any gr A c b s5 Wd hc hbn HVd.out.l HVd.out.i)
            rw [hT9] at HC
            clear hT9
            refine heldTake (i := 0) (d := some 46) (v := ?_) rfl rfl (by kernel_rfl) (by kernel_rfl) (by kernel_rfl) (fun _ _ _ h => h) (by kernel_rfl) ?hyq_1 (by assumption) ?restq_1
            case hyq_1 => (intro W9 hSw; (try dsimp only at hSw); go_simp; try (with_reducible rfl))
            (try simp only [Act.put, List.setIfInBounds_toArray, List.set_cons_zero, List.set_cons_succ])
            refine heldTake (i := 2) (d := some 48) (v := ?_) rfl rfl (by kernel_rfl) (by kernel_rfl) (by kernel_rfl) (fun _ _ _ h => h) (by kernel_rfl) ?hyq_2 (by assumption) ?restq_2
            case hyq_2 => (intro W9 hSw; (try dsimp only at hSw); go_simp; try (with_reducible rfl))
            (try simp only [Act.put, List.setIfInBounds_toArray, List.set_cons_zero, List.set_cons_succ])
            refine wpAnyH_ready (rs := [1, 3]) (by kernel_rfl) (by simp) ?_
            refine AllReadyH.cons rfl (fun K hK => ?_) (AllReadyH.cons rfl (fun K hK => ?_) AllReadyH.nil)
            · go_simp
              refine hK.out _ _ trivial (fun hHeld => ?_)
              clear hK K
              (try simp only [Act.put, List.setIfInBounds_toArray, List.set_cons_zero, List.set_cons_succ])
              refine wpAnyH_ready (rs := [3]) (by kernel_rfl) (by simp) ?_
              refine AllReadyH.cons rfl (fun K hK => ?_) AllReadyH.nil
              go_simp
              go_at_call 22
              refine HC.out.mono ?_
              rintro e9 X ⟨rfl, hrX, hgX⟩
              have HVX := Lib.hid (HVd.out.read hrX hgX)
              have HOX := Lib.hid (HOd.out.but (ButT.grown hgX (fun k e => by injection e with e; subst e; exact HVd.out.i.has)) (by decide))
              have qX := HVX.out.c3.cell (j := 5) (by simp)
              simp only [List.getElem_cons_zero, List.getElem_cons_succ] at qX
              clear hrX hgX
              go_wp2_with fail
              refine hK.out _ _ trivial (fun hHeld => ?_)
              clear hK K
              (try simp only [Act.put, List.setIfInBounds_toArray, List.set_cons_zero, List.set_cons_succ])
              refine wpAnyH_ready (rs := [4]) (by kernel_rfl) (by simp) ?_
              refine AllReadyH.cons rfl (fun K hK => ?_) AllReadyH.nil
              go_simp
              have hbY := below_lnew X (.cells #[.string (str T)] 9)
              have hcY := heap_alloc_new X (.cells #[.string (str T)] 9)
              obtain ⟨Y, hY⟩ : ∃ Y, X.alloc (.cells #[.string (str T)] 9) = Y := ⟨_, rfl⟩
              rw [hY] at hbY hcY ⊢
              have HVY := Lib.hid (HVX.out.low (hbY.mono (Nat.succ_le_of_lt HVX.out.c3.lt)))
              have HOY := Lib.hid (HOX.out.below hbY)
              have qY := HVY.out.c3.cell (j := 5) (by simp)
              simp only [List.getElem_cons_zero, List.getElem_cons_succ] at qY
              have hzXY := hbY.size
              clear hY hbY
              refine hK.out _ _ trivial (fun hHeld => ?_)
              clear hK K
              (try simp only [Act.put, List.setIfInBounds_toArray, List.set_cons_zero, List.set_cons_succ])
              refine wpAnyH_ready (rs := [5]) (by kernel_rfl) (by simp) ?_
              refine AllReadyH.cons rfl (fun K hK => ?_) AllReadyH.nil
              (try rw [if_pos (by kernel_rfl)])
              refine El.op_app1 eS Y 65 (.string ⟨#[]⟩) 16 Tryz.underlying65 str_info rfl (by omega) (by decide) (.tmp 47) (.tmp 50) rfl (g3 + 1) (.slice Ax xs.length cx) xs rfl HOY.out X.heap.size 1 T rfl 9 hcY (by omega) (by have := HVY.out.c3.lt; omega) ?_
              intro v9 Z ho9 hg9
              obtain ⟨A9, n9, c9, rfl, hn9, hc9, _, _⟩ := ho9.formN
              change K (Act.put _ (some 51) (.slice A9 n9 c9)) Z
              have HVZ := Lib.hid (HVY.out.low (El.below_grown (Below.refl (g3 + 1) Y) hg9 HOY.out (by have := HVY.out.c3.lt; omega)))
              have qZ := HVZ.out.c3.cell (j := 5) (by simp)
              simp only [List.getElem_cons_zero, List.getElem_cons_succ] at qZ
              have fZ := HVZ.out.c3.frozen 5
              have HVS2 := Lib.hid (HVZ.out.set 5 (.slice A9 n9 c9))
              have HOS := Lib.hid (ho9.set (p := ⟨g3, 5, none⟩) (Nat.lt_succ_self g3) (.slice A9 n9 c9))
              refine hK.out _ _ trivial (fun hHeld => ?_)
              clear hK K
              (try simp only [Act.put, List.setIfInBounds_toArray, List.set_cons_zero, List.set_cons_succ])
              refine heldTake (i := 6) (d := some 52) (v := ?_) rfl rfl (by kernel_rfl) (by kernel_rfl) (by kernel_rfl) (fun _ _ _ h => h) (by kernel_rfl) ?hyq_3 (by assumption) ?restq_3
              case hyq_3 => (intro W9 hSw; (try dsimp only at hSw); go_simp; try (with_reducible rfl))
              (try simp only [Act.put, List.setIfInBounds_toArray, List.set_cons_zero, List.set_cons_succ])
              refine wpAnyH_ready (rs := [7]) (by kernel_rfl) (by simp) ?_
              refine AllReadyH.cons rfl (fun K hK => ?_) AllReadyH.nil
              go_simp
              refine hK.out _ _ trivial (fun hHeld => ?_)
              clear hK K
              (try simp only [Act.put, List.setIfInBounds_toArray, List.set_cons_zero, List.set_cons_succ])
              refine wpAnyH_done (by kernel_rfl) ?_ _
              obtain ⟨W9, hW9⟩ : ∃ W9, Z.setCell ⟨g3, 5, none⟩ (.slice A9 n9 c9) = W9 := ⟨_, rfl⟩
              rw [hW9] at HVS2 HOS ⊢
              clear hW9 ho9 hg9 qZ fZ HVZ
              go_wp2_with fail
              go_roundw
              case rel => exact ⟨xs ++ [T], k, txT b s5, .slice A9 n9 c9, by rw [List.length_append]; go_num, by rw [List.length_append, List.length_singleton]; omega, HOS, HN, HVT, HVS2⟩
              case measure => simp [intOf]; omega
            · go_simp
              go_at_call 22
              refine HC.out.mono ?_
              rintro e9 X ⟨rfl, hrX, hgX⟩
              have HVX := Lib.hid (HVd.out.read hrX hgX)
              have HOX := Lib.hid (HOd.out.but (ButT.grown hgX (fun k e => by injection e with e; subst e; exact HVd.out.i.has)) (by decide))
              have qX := HVX.out.c3.cell (j := 5) (by simp)
              simp only [List.getElem_cons_zero, List.getElem_cons_succ] at qX
              clear hrX hgX
              go_wp2_with fail
              refine hK.out _ _ trivial (fun hHeld => ?_)
              clear hK K
              (try simp only [Act.put, List.setIfInBounds_toArray, List.set_cons_zero, List.set_cons_succ])
              refine wpAnyH_ready (rs := [1, 4]) (by kernel_rfl) (by simp) ?_
              refine AllReadyH.cons rfl (fun K hK => ?_) (AllReadyH.cons rfl (fun K hK => ?_) AllReadyH.nil)
              · go_simp
                refine hK.out _ _ trivial (fun hHeld => ?_)
                clear hK K
                (try simp only [Act.put, List.setIfInBounds_toArray, List.set_cons_zero, List.set_cons_succ])
                refine wpAnyH_ready (rs := [4]) (by kernel_rfl) (by simp) ?_
                refine AllReadyH.cons rfl (fun K hK => ?_) AllReadyH.nil
                go_simp
                have hbY := below_lnew X (.cells #[.string (str T)] 9)
                have hcY := heap_alloc_new X (.cells #[.string (str T)] 9)
                obtain ⟨Y, hY⟩ : ∃ Y, X.alloc (.cells #[.string (str T)] 9) = Y := ⟨_, rfl⟩
                rw [hY] at hbY hcY ⊢
                have HVY := Lib.hid (HVX.out.low (hbY.mono (Nat.succ_le_of_lt HVX.out.c3.lt)))
                have HOY := Lib.hid (HOX.out.below hbY)
                have qY := HVY.out.c3.cell (j := 5) (by simp)
                simp only [List.getElem_cons_zero, List.getElem_cons_succ] at qY
                have hzXY := hbY.size
                clear hY hbY
                refine hK.out _ _ trivial (fun hHeld => ?_)
                clear hK K
                (try simp only [Act.put, List.setIfInBounds_toArray, List.set_cons_zero, List.set_cons_succ])
                refine wpAnyH_ready (rs := [5]) (by kernel_rfl) (by simp) ?_
                refine AllReadyH.cons rfl (fun K hK => ?_) AllReadyH.nil
                (try rw [if_pos (by kernel_rfl)])
                refine El.op_app1 eS Y 65 (.string ⟨#[]⟩) 16 Tryz.underlying65 str_info rfl (by omega) (by decide) (.tmp 47) (.tmp 50) rfl (g3 + 1) (.slice Ax xs.length cx) xs rfl HOY.out X.heap.size 1 T rfl 9 hcY (by omega) (by have := HVY.out.c3.lt; omega) ?_
                intro v9 Z ho9 hg9
                obtain ⟨A9, n9, c9, rfl, hn9, hc9, _, _⟩ := ho9.formN
                change K (Act.put _ (some 51) (.slice A9 n9 c9)) Z
                have HVZ := Lib.hid (HVY.out.low (El.below_grown (Below.refl (g3 + 1) Y) hg9 HOY.out (by have := HVY.out.c3.lt; omega)))
                have qZ := HVZ.out.c3.cell (j := 5) (by simp)
                simp only [List.getElem_cons_zero, List.getElem_cons_succ] at qZ
                have fZ := HVZ.out.c3.frozen 5
                have HVS2 := Lib.hid (HVZ.out.set 5 (.slice A9 n9 c9))
                have HOS := Lib.hid (ho9.set (p := ⟨g3, 5, none⟩) (Nat.lt_succ_self g3) (.slice A9 n9 c9))
                refine hK.out _ _ trivial (fun hHeld => ?_)
                clear hK K
                (try simp only [Act.put, List.setIfInBounds_toArray, List.set_cons_zero, List.set_cons_succ])
                refine heldTake (i := 6) (d := some 52) (v := ?_) rfl rfl (by kernel_rfl) (by kernel_rfl) (by kernel_rfl) (fun _ _ _ h => h) (by kernel_rfl) ?hyq_4 (by assumption) ?restq_4
                case hyq_4 => (intro W9 hSw; (try dsimp only at hSw); go_simp; try (with_reducible rfl))
                (try simp only [Act.put, List.setIfInBounds_toArray, List.set_cons_zero, List.set_cons_succ])
                refine wpAnyH_ready (rs := [7]) (by kernel_rfl) (by simp) ?_
                refine AllReadyH.cons rfl (fun K hK => ?_) AllReadyH.nil
                go_simp
                refine hK.out _ _ trivial (fun hHeld => ?_)
                clear hK K
                (try simp only [Act.put, List.setIfInBounds_toArray, List.set_cons_zero, List.set_cons_succ])
                refine wpAnyH_done (by kernel_rfl) ?_ _
                obtain ⟨W9, hW9⟩ : ∃ W9, Z.setCell ⟨g3, 5, none⟩ (.slice A9 n9 c9) = W9 := ⟨_, rfl⟩
                rw [hW9] at HVS2 HOS ⊢
                clear hW9 ho9 hg9 qZ fZ HVZ
                go_wp2_with fail
                go_roundw
                case rel => exact ⟨xs ++ [T], k, txT b s5, .slice A9 n9 c9, by rw [List.length_append]; go_num, by rw [List.length_append, List.length_singleton]; omega, HOS, HN, HVT, HVS2⟩
                case measure => simp [intOf]; omega
              · go_simp
                have hbY := below_lnew X (.cells #[.string (str T)] 9)
                have hcY := heap_alloc_new X (.cells #[.string (str T)] 9)
                obtain ⟨Y, hY⟩ : ∃ Y, X.alloc (.cells #[.string (str T)] 9) = Y := ⟨_, rfl⟩
                rw [hY] at hbY hcY ⊢
                have HVY := Lib.hid (HVX.out.low (hbY.mono (Nat.succ_le_of_lt HVX.out.c3.lt)))
                have HOY := Lib.hid (HOX.out.below hbY)
                have qY := HVY.out.c3.cell (j := 5) (by simp)
                simp only [List.getElem_cons_zero, List.getElem_cons_succ] at qY
                have hzXY := hbY.size
                clear hY hbY
                refine hK.out _ _ trivial (fun hHeld => ?_)
                clear hK K
                (try simp only [Act.put, List.setIfInBounds_toArray, List.set_cons_zero, List.set_cons_succ])
                refine wpAnyH_ready (rs := [1]) (by kernel_rfl) (by simp) ?_
                refine AllReadyH.cons rfl (fun K hK => ?_) AllReadyH.nil
                go_simp
                refine hK.out _ _ trivial (fun hHeld => ?_)
                clear hK K
                (try simp only [Act.put, List.setIfInBounds_toArray, List.set_cons_zero, List.set_cons_succ])
                refine wpAnyH_ready (rs := [5]) (by kernel_rfl) (by simp) ?_
                refine AllReadyH.cons rfl (fun K hK => ?_) AllReadyH.nil
                (try rw [if_pos (by kernel_rfl)])
                refine El.op_app1 eS Y 65 (.string ⟨#[]⟩) 16 Tryz.underlying65 str_info rfl (by omega) (by decide) (.tmp 47) (.tmp 50) rfl (g3 + 1) (.slice Ax xs.length cx) xs rfl HOY.out X.heap.size 1 T rfl 9 hcY (by omega) (by have := HVY.out.c3.lt; omega) ?_
                intro v9 Z ho9 hg9
                obtain ⟨A9, n9, c9, rfl, hn9, hc9, _, _⟩ := ho9.formN
                change K (Act.put _ (some 51) (.slice A9 n9 c9)) Z
                have HVZ := Lib.hid (HVY.out.low (El.below_grown (Below.refl (g3 + 1) Y) hg9 HOY.out (by have := HVY.out.c3.lt; omega)))
                have qZ := HVZ.out.c3.cell (j := 5) (by simp)
                simp only [List.getElem_cons_zero, List.getElem_cons_succ] at qZ
                have fZ := HVZ.out.c3.frozen 5
                have HVS2 := Lib.hid (HVZ.out.set 5 (.slice A9 n9 c9))
                have HOS := Lib.hid (ho9.set (p := ⟨g3, 5, none⟩) (Nat.lt_succ_self g3) (.slice A9 n9 c9))
                refine hK.out _ _ trivial (fun hHeld => ?_)
                clear hK K
                (try simp only [Act.put, List.setIfInBounds_toArray, List.set_cons_zero, List.set_cons_succ])
                refine heldTake (i := 6) (d := some 52) (v := ?_) rfl rfl (by kernel_rfl) (by kernel_rfl) (by kernel_rfl) (fun _ _ _ h => h) (by kernel_rfl) ?hyq_5 (by assumption) ?restq_5
                case hyq_5 => (intro W9 hSw; (try dsimp only at hSw); go_simp; try (with_reducible rfl))
                (try simp only [Act.put, List.setIfInBounds_toArray, List.set_cons_zero, List.set_cons_succ])
                refine wpAnyH_ready (rs := [7]) (by kernel_rfl) (by simp) ?_
                refine AllReadyH.cons rfl (fun K hK => ?_) AllReadyH.nil
                go_simp
                refine hK.out _ _ trivial (fun hHeld => ?_)
                clear hK K
                (try simp only [Act.put, List.setIfInBounds_toArray, List.set_cons_zero, List.set_cons_succ])
                refine wpAnyH_done (by kernel_rfl) ?_ _
                obtain ⟨W9, hW9⟩ : ∃ W9, Z.setCell ⟨g3, 5, none⟩ (.slice A9 n9 c9) = W9 := ⟨_, rfl⟩
                rw [hW9] at HVS2 HOS ⊢
                clear hW9 ho9 hg9 qZ fZ HVZ
                go_wp2_with fail
                go_roundw
                case rel => exact ⟨xs ++ [T], k, txT b s5, .slice A9 n9 c9, by rw [List.length_append]; go_num, by rw [List.length_append, List.length_singleton]; omega, HOS, HN, HVT, HVS2⟩
                case measure => simp [intOf]; omega
          · rw [hno] at n2
            have HF := Lib.hid (show r = (⟨nm, 4, 0, tn, n, xs⟩, s5) by
              rw [hr.out]
              unfold goL
              rw [if_pos hno, List.append_nil])
            clear hr hno hV
            go_wp2_with fail
            refine bodyPost_ret (va_back rfl rfl ((((((hD.out.c2.set 0 _).set 1 _).set 2 _).set 3 _).set 4 _).set 5 _)) rfl ?_
            exact hD.out.back ⟨⟨nm, 4, 0, tn, n, xs⟩, Ax, cx⟩ ⟨hTx, h1x, h2x⟩ r (by rw [HF.out]) (by rw [HF.out]) _ _ _ _ _ _
        · obtain rfl : m = 0 := by omega
          have HF := Lib.hid (show r = (⟨nm, 4, 0, tn, n, xs⟩, s5) by
            rw [hr.out]
            unfold goL
            rw [List.append_nil])
          clear hr hV
          cases hno : s5.no
          all_goals
            rw [hno] at n2
            clear hno
            go_wp2_with fail
            refine bodyPost_ret (va_back rfl rfl ((((((hD.out.c2.set 0 _).set 1 _).set 2 _).set 3 _).set 4 _).set 5 _)) rfl ?_
            exact hD.out.back ⟨⟨nm, 4, 0, tn, n, xs⟩, Ax, cx⟩ ⟨hTx, h1x, h2x⟩ r (by rw [HF.out]) (by rw [HF.out]) _ _ _ _ _ _
    · have HR3 := Lib.hid (show r = _ from by rw [HR.out, if_neg h3, if_neg h4])
      clear HR
      clear y0 yf0 y1 yf1 y2 yf2 y3 yf3 y4 yf4 y5 yf5 
      have hlt3 : w.heap.size < w3.heap.size := by omega
      have hne4 : w.heap.size ≠ w3.heap.size := by omega
      have y0 := HV3.out.c3.cell (j := 0) (by simp)
      have yf0 := HV3.out.c3.frozen 0
      have y1 := HV3.out.c3.cell (j := 1) (by simp)
      have yf1 := HV3.out.c3.frozen 1
      have y2 := HV3.out.c3.cell (j := 2) (by simp)
      have yf2 := HV3.out.c3.frozen 2
      have y3 := HV3.out.c3.cell (j := 3) (by simp)
      have yf3 := HV3.out.c3.frozen 3
      have y4 := HV3.out.c3.cell (j := 4) (by simp)
      have yf4 := HV3.out.c3.frozen 4
      have y5 := HV3.out.c3.cell (j := 5) (by simp)
      have yf5 := HV3.out.c3.frozen 5
      have z0 := HV3.out.c2.cell (j := 0) (by simp)
      have zf0 := HV3.out.c2.frozen 0
      have z1 := HV3.out.c2.cell (j := 1) (by simp)
      have zf1 := HV3.out.c2.frozen 1
      have z2 := HV3.out.c2.cell (j := 2) (by simp)
      have zf2 := HV3.out.c2.frozen 2
      have z3 := HV3.out.c2.cell (j := 3) (by simp)
      have zf3 := HV3.out.c2.frozen 3
      have z4 := HV3.out.c2.cell (j := 4) (by simp)
      have zf4 := HV3.out.c2.frozen 4
      have z5 := HV3.out.c2.cell (j := 5) (by simp)
      have zf5 := HV3.out.c2.frozen 5
      have hne := HV3.out.n.2.1
      simp only [List.getElem_cons_zero, List.getElem_cons_succ] at y0 y1 y2 y3 y4 y5 z0 z1 z2 z3 z4 z5
      have x0 := HD3.out.cell (j := 0) (by simp)
      have xf0 := HD3.out.frozen 0
      have x1 := HD3.out.cell (j := 1) (by simp)
      have xf1 := HD3.out.frozen 1
      have x2 := HD3.out.cell (j := 2) (by simp)
      have xf2 := HD3.out.frozen 2
      have x3 := HD3.out.cell (j := 3) (by simp)
      have xf3 := HD3.out.frozen 3
      have x4 := HD3.out.cell (j := 4) (by simp)
      have xf4 := HD3.out.frozen 4
      have x5 := HD3.out.cell (j := 5) (by simp)
      have xf5 := HD3.out.frozen 5
      simp only [List.getElem_cons_zero, List.getElem_cons_succ] at x0 x1 x2 x3 x4 x5
      go_wp2_with fail
      clear x0 x1 x2 x3 x4 x5 xf0 xf1 xf2 xf3 xf4 xf5 y0 y1 y2 y3 y4 y5 yf0 yf1 yf2 yf3 yf4 yf5 z0 z1 z2 z3 z4 z5 zf0 zf1 zf2 zf3 zf4 zf5 HV3
      have hC := (((((HD3.out.set 0 (.string (str nm))).set 1 (.int .u8 kd)).set 2 (.int .i64 0)).set 3 (.string ⟨#[]⟩)).set 4 (.int .i64 1)).set 5 (.slice none 0 0)
      have hb6 := ((((((Below.refl w.heap.size w3).setCell (p := ⟨w.heap.size, 0, none⟩) (Nat.le_refl _) (.string (str nm))).setCell (p := ⟨w.heap.size, 1, none⟩) (Nat.le_refl _) (.int .u8 kd)).setCell (p := ⟨w.heap.size, 2, none⟩) (Nat.le_refl _) (.int .i64 0)).setCell (p := ⟨w.heap.size, 3, none⟩) (Nat.le_refl _) (.string ⟨#[]⟩)).setCell (p := ⟨w.heap.size, 4, none⟩) (Nat.le_refl _) (.int .i64 1)).setCell (p := ⟨w.heap.size, 5, none⟩) (Nat.le_refl _) (.slice none 0 0)
      have hr := HR3.out
      subst hr
      generalize (((((w3.setCell ⟨w.heap.size, 0, none⟩ (.string (str nm))).setCell ⟨w.heap.size, 1, none⟩ (.int .u8 kd)).setCell ⟨w.heap.size, 2, none⟩ (.int .i64 0)).setCell ⟨w.heap.size, 3, none⟩ (.string ⟨#[]⟩)).setCell ⟨w.heap.size, 4, none⟩ (.int .i64 1)).setCell ⟨w.heap.size, 5, none⟩ (.slice none 0 0) = W6 at hC hb6 ⊢
      have hb7 := hb6.trans ((below_lnew W6 (.cells #[.string (str nm), .int .u8 kd, .int .i64 0, .string ⟨#[]⟩, .int .i64 1, .slice none 0 0] 67)).mono (Nat.le_trans (by omega) hb6.size))
      refine bodyPost_ret (va_back rfl rfl (hC.below (below_lnew W6 _) hC.lt)) rfl ?_
      exact ⟨⟨⟨nm, kd, 0, [], 1, []⟩, none, 0⟩, rfl, rfl, ⟨El.LiesT.nil _ _, Nat.le_refl _, fun _ => rfl⟩, HI3.out.below hb7 hgr, grown_new HG3.out hb7⟩
end Go.Proofs.YtbkfkdiadeaooaaGreat
