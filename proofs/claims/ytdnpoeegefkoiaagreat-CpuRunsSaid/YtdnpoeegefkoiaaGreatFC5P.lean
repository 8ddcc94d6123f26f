/-
  Merged for a claim: C5P.
-/
import Derived.Test.YtdnpoeegefkoiaaGreatFJ9
import Derived.Test.YtdnpoeegefkoiaaGreatFJ4
import Derived.RegionTactic
import Derived.Deep.RegionHeld3
namespace Go.Proofs.YtdnpoeegefkoiaaGreat
open Go Go.RowKit

/-- between the loops of the law -/
structure Law5 (w1 : World) (B lo mid g g' : Nat) (M : Mc) (A3 : Option Addr) (n3 : Nat) (A4 : Option Addr) (n4 : Nat) (w : World) : Prop where
  bl : Below w1.heap.size w1 w
  bo : Bo B w g g' M M
  by_ : Slots .u8 lo mid w A3 n3
  nu : Slots .i64 mid B w A4 n4
  sz : B ≤ w.heap.size
/-- between two steps -/
structure Law6 (w1 : World) (B g g' : Nat) (M : Mc) (n : Nat) (w : World) : Prop where
  bl : Below w1.heap.size w1 w
  bo : Bo B w g g' M M
  ok : Ok5 M n
  h0 : M.how = 0
  sz : B ≤ w.heap.size
theorem Law5.set1 {w1 w : World} {B lo mid g g' : Nat} {M : Mc} {A3 : Option Addr} {n3 : Nat} {A4 : Option Addr} {n4 gi oj : Nat} {y : Int} (h : Law5 w1 B lo mid g g' M A3 n3 A4 n4 w) (h1 : w1.heap.size ≤ lo) (h2 : mid ≤ B) (ha : lo ≤ gi) (hb : gi < mid) :
    Law5 w1 B lo mid g g' M A3 n3 A4 n4 (w.setCell ⟨gi, oj, none⟩ (.int .u8 y)) :=
  ⟨h.bl.setCell (p := ⟨gi, oj, none⟩) (Nat.le_trans h1 ha) _, h.bo.set _ (Nat.lt_of_lt_of_le hb h2) _, h.by_.set _ _, h.nu.far _ (.inl hb) _, by have := h.sz; simpa [World.setCell] using this⟩
theorem Law5.set2 {w1 w : World} {B lo mid g g' : Nat} {M : Mc} {A3 : Option Addr} {n3 : Nat} {A4 : Option Addr} {n4 gi oj : Nat} {y : Int} (h : Law5 w1 B lo mid g g' M A3 n3 A4 n4 w) (h1 : w1.heap.size ≤ mid) (ha : mid ≤ gi) (hb : gi < B) :
    Law5 w1 B lo mid g g' M A3 n3 A4 n4 (w.setCell ⟨gi, oj, none⟩ (.int .i64 y)) :=
  ⟨h.bl.setCell (p := ⟨gi, oj, none⟩) (Nat.le_trans h1 ha) _, h.bo.set _ hb _, h.by_.far _ (.inr ha) _, h.nu.set _ _, by have := h.sz; simpa [World.setCell] using this⟩
set_option maxRecDepth 100000 in
set_option maxHeartbeats 4000000 in
theorem cpuRuns_any (c : Cs) (W : World) (hC : CsIn W c) (hn2 : c.A2 = none → c.c2 = 0) : Calls Tryz.prog 3 #[.agg (csC c)] W (Yes4 W) := by
  have HB0 := Lib.hid (below_box W (.cells (csC c) 26))
  have HA0 := Lib.hid (csat_new c W)
  have HC := Lib.hid hC
  have HV := Lib.hid (vast_any c (W.alloc (.cells (csC c) 26)))
  obtain ⟨W1, hW1⟩ : ∃ W1, W1 = W.alloc (.cells (csC c) 26) := ⟨_, rfl⟩
  have hz0 : W1.heap.size = W.heap.size + 1 := by rw [hW1]; simp
  have HW1 := Lib.hid hW1
  have HA1 : Hid (CsAt W1 W.heap.size c) := by rw [hW1]; exact HA0.out
  have HB1 : Hid (Below W.heap.size W W1) := by rw [hW1]; exact HB0.out
  rw [← hW1] at HV
  clear hC hW1 HA0 HB0
  obtain ⟨vb, hvb⟩ : ∃ vb, vb = vastB c := ⟨_, rfl⟩
  have HVB := Lib.hid hvb
  unfold VastR at HV
  rw [← hvb] at HV
  clear hvb
  unfold csC at HW1 HV
  unfold csC
  by_cases hv : vb = true
  · subst hv
    go_enter Tryz.func3, Tryz.ntmps3
    go_wp2_with fail
    rw [← HW1.out]
    refine HV.out.mono ?_
    rintro e w1 ⟨rfl, hb1⟩
    have HB2 := Lib.hid (HB1.out.trans (hb1.mono HB1.out.size))
    clear hb1
    go_wp2_with fail
    refine (works4_any w1).mono ?_
    rintro e w2 ⟨rfl, hb2⟩
    have HB3 := Lib.hid (HB2.out.trans (hb2.mono HB2.out.size))
    clear hb2
    go_wp2_with fail
    go_ret
    exact ⟨rfl, HB3.out⟩
  obtain rfl : vb = false := by simpa using hv
  clear hv
  go_enter Tryz.func3, Tryz.ntmps3
  go_wp2_with fail
  rw [← HW1.out]
  refine HV.out.mono ?_
  rintro e w1 ⟨rfl, hb1⟩
  have HB2 := Lib.hid hb1
  have HA2 := Lib.hid (HA1.out.below hb1 (by omega))
  have hzz : W.heap.size < w1.heap.size := by have := hb1.size; omega
  have hinp : c.inp.length ≤ 1099511627776 := by have := (vast_no HVB.out.symm).2.2.2.1; omega
  have hfu : c.fu ≤ 1000 := (vast_no HVB.out.symm).2.2.2.2
  have HCW := Lib.hid (fun (w : World) (hb : Below w1.heap.size w1 w) => HC.out.below ((HB1.out.trans (hb1.mono HB1.out.size)).trans (hb.mono (by omega))))
  have HBY := Lib.hid (fun (w : World) (hb : Below w1.heap.size w1 w) => bytes_any c w (HCW.out w hb) HVB.out.symm)
  have HN2 := Lib.hid hn2
  clear hn2
  have HAW := Lib.hid (fun (w : World) (hb : Below w1.heap.size w1 w) => (HA2.out.below hb hzz).cells)
  obtain ⟨k0, k1, k2, k3, k4, k5⟩ := HA2.out.cells
  unfold csC PutW at HBY
  have HR1 := Lib.hid (Below.refl w1.heap.size w1)
  clear hb1 HV HW1
  have HINP := Lib.hid hinp
  clear hinp
  go_wp2_with fail
  refine (HBY.out w1 HR1.out).mono ?_
  rintro e w2 ⟨v2, l, rfl, ho2, hle, hb2⟩
  have HLE := Lib.hid hle
  obtain ⟨A2, z2, rfl, hz2, -, hL2⟩ := ho2.form
  have HR2 := Lib.hid hb2
  have HL2 := Lib.hid hL2
  clear ho2 hL2 hb2 hle HBY
  go_wp2_with fail
  refine (copyBytes_any A2 z2 l w2 (by have := HLE.out; omega) HL2.out).mono ?_
  rintro e w3 ⟨v3, rfl, ho3, hb3⟩
  obtain ⟨A3, z3, rfl, hz3, -, hL3⟩ := ho3.form
  have HS3 := Lib.hid (own_slots ho3)
  have HR3 := Lib.hid (HR2.out.trans (hb3.mono HR2.out.size))
  have HZ3 := Lib.hid hb3.size
  have HL3 := Lib.hid hL3
  have HL23 := Lib.hid (HL2.out.below hb3)
  clear ho3 hL3 hb3
  obtain ⟨k0, k1, k2, k3, k4, k5⟩ := (HAW.out _ HR3.out)
  have HE3 := Lib.hid (irow_new w3)
  have hb3b := below_box w3 (.cells #[] 2)
  have HR3b := Lib.hid (HR3.out.trans (hb3b.mono HR3.out.size))
  have HL3b := Lib.hid ((HL3.out.below hb3b).more hb3b.size)
  have HL23b := Lib.hid (HL23.out.below (hb3b.mono HZ3.out))
  have HS3b := Lib.hid (HS3.out.below hb3b)
  have HC3b := Lib.hid (HCW.out _ HR3b.out).l2
  obtain ⟨k0', k1', k2', k3', k4', k5'⟩ := (HAW.out _ HR3b.out)
  have hzw3 : W.heap.size < w3.heap.size := by have := HR3.out.size; omega
  clear hb3b
  have hb3c := Lib.hid (below_box w3 (.cells #[] 2))
  go_wp2_with (at_builtin
               refine app_any _ rfl (.tmp 23) (.tmp 25) rfl _ [] rfl HE3.out c.A2 c.c2 c.inp rfl HN2.out HC3b.out (by have := HINP.out; simp; omega) ?_
               intro v4 w4 h4 g4 o4
               have hb34 := hb3c.out.grown g4 (by simp) (fun j e => by have e2 : w3.heap.size = j := Option.some.inj e; omega)
               have HB34 := Lib.hid hb34
               have HR4 := Lib.hid (HR3.out.trans (hb34.mono HR3.out.size))
               have HL34 := Lib.hid ((HL3.out.below hb34).more hb34.size)
               have HL24 := Lib.hid (HL23.out.below (hb34.mono HZ3.out))
               have HS34 := Lib.hid (HS3.out.below hb34)
               have HO4 := Lib.hid (fun k (e : v4.ownBlock = some k) => own_new o4 (Nat.le_refl w3.heap.size) (by simp) e)
               obtain ⟨A4, z4, rfl, hz4, hI4, hS4⟩ := irow_slots (lo := w3.heap.size) (by simpa using h4) HO4.out
               have HI4 := Lib.hid hI4
               have HS4 := Lib.hid hS4
               clear k0 k1 k2 k3 k4 k5 k0' k1' k2' k3' k4' k5' g4 o4 hb34 hI4 hS4 h4 HO4 hb3c HE3 HR3b HL3b HL23b HS3b HC3b
               obtain ⟨k0, k1, k2, k3, k4, k5⟩ := (HAW.out _ HR4.out))
  refine (new_all5 A3 A4 z3 z4 l c.inp c.st c.wd w4 HL34.out HI4.out HINP.out).mono ?_
  rintro e w5 ⟨P, E, rfl, hb5, hcase5⟩
  have HR5 := Lib.hid (HR4.out.trans (hb5.mono HR4.out.size))
  have HL35 := Lib.hid ((HL34.out.below hb5).more hb5.size)
  have HL25 := Lib.hid ((HL24.out.below (hb5.mono (Nat.le_trans HZ3.out HB34.out.size))).more (Nat.le_trans HZ3.out (Nat.le_trans HB34.out.size hb5.size)))
  have HS35 := Lib.hid ((HS34.out.below hb5))
  have HS45 := Lib.hid ((HS4.out.below hb5))
  have HC5 := Lib.hid (HCW.out _ HR5.out).l2
  have HZ5 := Lib.hid hb5.size
  have HCA5 := Lib.hid hcase5
  clear k0 k1 k2 k3 k4 k5 hb5 hcase5 HL34 HL24 HI4 HS34 HS4
  obtain ⟨k0, k1, k2, k3, k4, k5⟩ := (HAW.out _ HR5.out)
  go_wp2_with fail
  refine (dnew_all A2 c.A2 z2 c.c2 l c.inp c.st c.wd w5 HL25.out HC5.out HN2.out HINP.out).mono ?_
  rintro e w6 ⟨P2, E2, rfl, hb6, hcase6⟩
  have HR6 := Lib.hid (HR5.out.trans (hb6.mono HR5.out.size))
  have HL36 := Lib.hid (HL35.out.below hb6)
  have HL26 := Lib.hid (HL25.out.below hb6)
  have HS36 := Lib.hid ((HS35.out.below hb6))
  have HS46 := Lib.hid ((HS45.out.below hb6))
  have HB6 := Lib.hid hb6
  have HQ := Lib.hid (eqBytes_same A3 A2 z3 z2 l w6 _ _ (by have := HLE.out; omega) HL36.out HL26.out)
  clear k0 k1 k2 k3 k4 k5 hb6 HL35 HL25 HS35 HS45 HC5 HL36 HL26
  have hcase5 := HCA5.out
  clear HCA5
  rcases hcase5.symm with ⟨hno, rfl, rfl⟩ | ⟨hok, rfl, g, p, rfl, hM⟩
  · obtain ⟨rfl, rfl⟩ : P2 = none ∧ E2 = 1 := by
      rcases hcase6 with ⟨h, _⟩ | ⟨_, h1, h2⟩
      · exact absurd h hno
      · exact ⟨h1, h2⟩
    clear hno hcase5 hcase6
    go_wp2_with fail
    refine HQ.out.mono ?_
    rintro e w' ⟨rfl, rfl⟩
    go_wp2_with fail
    refine (works4_any _).mono ?_
    rintro e w7 ⟨rfl, hb7⟩
    have HE7 := Lib.hid ((HB1.out.trans (HB2.out.mono HB1.out.size)).trans (((HR6.out.trans (hb7.mono HR6.out.size))).mono (Nat.le_trans HB1.out.size HB2.out.size)))
    clear hb7
    go_wp2_with fail
    go_ret
    exact ⟨rfl, HE7.out⟩
  obtain ⟨g', q, rfl, rfl, hD⟩ : ∃ g' q, P2 = some ⟨g', 0, none⟩ ∧ E2 = 0 ∧ DIn w6 (grow none_ w5 w6) g' (m0 l c.st c.wd c.inp) q := by
    rcases hcase6 with ⟨_, h1, g', q, h2, h3⟩ | ⟨h, _⟩
    · exact ⟨g', q, h2, h1, h3⟩
    · exact absurd hok h
  obtain ⟨M0, hM0⟩ : ∃ M, M = m0 l c.st c.wd c.inp := ⟨_, rfl⟩
  rw [← hM0] at hM hD
  have HK0 : Hid (Ok5 M0 1001) := ⟨by rw [hM0]; exact Okm.make5 (by have := hok.1; omega) hok.2.2.2.2 _ (by omega), by rw [hM0]; exact HINP.out, by rw [hM0]; exact fun _ => rfl⟩
  have HH0 : Hid (M0.how = 0) := by rw [hM0]; rfl
  have HSZ6 := Lib.hid (Nat.le_trans HZ5.out HB6.out.size)
  have HBO := Lib.hid (bo_new hM HB6.out hD HZ5.out)
  have hzl := HLE.out
  clear hM hD hok hcase5 hcase6 hM0 HB6
  go_wp2_with fail
  refine HQ.out.mono ?_
  rintro e w' ⟨rfl, rfl⟩
  clear HQ
  have hinp5 := HINP.out
  have hn12 : w1.heap.size ≤ w2.heap.size := HR2.out.size
  have hn23 : w2.heap.size ≤ w3.heap.size := HZ3.out
  have hn34 : w3.heap.size ≤ w4.heap.size := HB34.out.size
  have HLI : Hid (Law5 w1 w4.heap.size w2.heap.size w3.heap.size g g' M0 A3 l.length A4 c.inp.length w6) := ⟨HR6.out, HBO.out, HS36.out, HS46.out, HSZ6.out⟩
  go_wp2_with fail
  go_loopw [10] (fun v wr => ∃ q : Nat, q ≤ l.length ∧ v = .int .i64 q ∧ Hid (Law5 w1 w4.heap.size w2.heap.size w3.heap.size g g' M0 A3 l.length A4 c.inp.length wr)) (fun v _ => l.length - (intOf v).toNat)
  case atStart => exact ⟨0, by omega, rfl, HLI⟩
  case round =>
    obtain ⟨q, hq, rfl, hI⟩ := hrel
    clear HLI HBO HS36 HS46
    by_cases hlt : q < l.length
    · obtain ⟨gi, oi, x, rfl, ha, hb, hgl, hcx, hfx⟩ := hI.out.by_ q hlt
      go_wp2_with fail
      go_roundw
      case rel => exact ⟨q + 1, by omega, by go_num, Law5.set1 hI.out hn12 hn34 ha hb⟩
      case measure => simp [intOf]; omega
    · obtain rfl : q = l.length := by omega
      go_wp2_with fail
      go_loopw [11] (fun v wr => ∃ q : Nat, q ≤ c.inp.length ∧ v = .int .i64 q ∧ Hid (Law5 w1 w4.heap.size w2.heap.size w3.heap.size g g' M0 A3 l.length A4 c.inp.length wr)) (fun v _ => c.inp.length - (intOf v).toNat)
      case atStart => exact ⟨0, by omega, rfl, hI⟩
      case round =>
        obtain ⟨q, hq, rfl, hI⟩ := hrel
        by_cases hlt : q < c.inp.length
        · obtain ⟨gi, oi, x, rfl, ha, hb, hgl, hcx, hfx⟩ := hI.out.nu q hlt
          go_wp2_with fail
          go_roundw
          case rel => exact ⟨q + 1, by omega, by go_num, Law5.set2 hI.out (by omega) ha hb⟩
          case measure => simp [intOf]; omega
        · obtain rfl : q = c.inp.length := by omega
          have HBO := Lib.hid hI.out.bo
          have HBL := Lib.hid hI.out.bl
          have HSB := Lib.hid hI.out.sz
          clear hI
          rename_i wr _
          go_wp2_with fail
          refine (bo_like HBO.out (HK0.out.ok.less (Nat.zero_le _))).mono ?_
          rintro e w7 ⟨rfl, hb7⟩
          have HB7 := Lib.hid (HBL.out.trans (hb7.mono HBL.out.size))
          have HO7 := Lib.hid (HBO.out.below hb7)
          have HZ7 := Lib.hid (Nat.le_trans HSB.out hb7.size)
          clear hb7 HBO HBL HSB
          go_wp2_with fail
          go_loopw [12] (fun v wr => ∃ (q : Nat) (M : Mc), q ≤ 1000 ∧ v = .int .i64 q ∧ Hid (Law6 w1 w4.heap.size g g' M (1001 - q) wr)) (fun v _ => 1000 - (intOf v).toNat)
          case atStart => exact ⟨0, M0, by omega, rfl, ⟨HB7.out, HO7.out, HK0.out, HH0.out, HZ7.out⟩⟩
          case round =>
            obtain ⟨q, M, hq, rfl, hI⟩ := hrel
            obtain ⟨k0, k1, k2, k3, k4, k5⟩ := (HAW.out _ hI.out.bl)
            have hzr := hI.out.bl.size
            clear HB7 HO7 HZ7 HLE HINP HR3 HR4 HR5 HR6 HL3 HC HN2 HCW
            by_cases hlt : (q : Int) < c.fu
            · go_wp2_with fail
              have hok := hI.out.ok
              have HOK' := Lib.hid (Ok5.step (m := M) (n := 1000 - q) (by have := hok; rwa [show 1001 - q = 1000 - q + 1 by omega] at this) hI.out.h0)
              have HOK := Lib.hid hok
              have HD0 := Lib.hid (Below.refl wr.heap.size wr).drew
              have HBD := Lib.hid (hI.out.bo.below HD0.out)
              have HSZ := Lib.hid (show w4.heap.size ≤ wr.drew.heap.size from hI.out.sz)
              have HBLD := Lib.hid (hI.out.bl.trans (HD0.out.mono hI.out.bl.size))
              have hw14 : w1.heap.size ≤ w4.heap.size := by omega
              clear hok hI
              refine wp_region_held_drew (S := fun _ => True) (by kernel_rfl) (by exact trivial) (fun hHeld => ?_)
              refine wpAnyH_takeE (i := 0) (d := some 95) (v := ?_) rfl rfl (by kernel_rfl) (by kernel_rfl) (by kernel_rfl) (fun _ _ _ h => h) (by kernel_rfl) ?hyR0 (by assumption) ?restR0
              case hyR0 => (intro W hSw; (try dsimp only at hSw); go_simp; try (with_reducible rfl))
              (try simp only [Act.put, List.setIfInBounds_toArray, List.set_cons_zero, List.set_cons_succ])
              refine wpAnyH_takeE (i := 2) (d := some 97) (v := ?_) rfl rfl (by kernel_rfl) (by kernel_rfl) (by kernel_rfl) (fun _ _ _ h => h) (by kernel_rfl) ?hyR2 (by assumption) ?restR2
              case hyR2 => (intro W hSw; (try dsimp only at hSw); go_simp; try (with_reducible rfl))
              (try simp only [Act.put, List.setIfInBounds_toArray, List.set_cons_zero, List.set_cons_succ])
              refine wpAnyH_ready (rs := [1]) (by kernel_rfl) (by simp) ?_
              refine AllReadyH.cons rfl (fun K hK => ?_) AllReadyH.nil
              go_simp
              go_at_call 12
              refine (bo_step1 HBD.out HSZ.out (HOK.out.ok.less (Nat.zero_le _))).mono ?_
              rintro e wa ⟨rfl, hba, hbl1, hbs1⟩
              go_wp2_with fail
              refine hK.out _ _ (by exact trivial) (fun hHeld => ?_)
              clear hK K
              (try simp only [Act.put, List.setIfInBounds_toArray, List.set_cons_zero, List.set_cons_succ])
              refine wpAnyH_ready (rs := [3]) (by kernel_rfl) (by simp) ?_
              refine AllReadyH.cons rfl (fun K hK => ?_) AllReadyH.nil
              go_simp
              go_at_call 13
              refine (bo_step2 hba (Nat.le_trans HSZ.out hbs1) (HOK.out.less (Nat.zero_le _))).mono ?_
              rintro e wb ⟨rfl, hbb, hbl2, hbs2⟩
              go_wp2_with fail
              refine hK.out _ _ (by exact trivial) (fun hHeld => ?_)
              clear hK K
              (try simp only [Act.put, List.setIfInBounds_toArray, List.set_cons_zero, List.set_cons_succ])
              have HBW := Lib.hid hbb
              have HLW := Lib.hid (HBLD.out.trans ((hbl1.trans (hbl2.mono (Nat.le_refl _))).mono hw14))
              have HSW := Lib.hid (Nat.le_trans (Nat.le_trans HSZ.out hbs1) hbs2)
              clear HBD HSZ HBLD hbb hbl1 hbl2 hba hbs1 hbs2 HOK HD0
              generalize stepM M = M' at *
              obtain ⟨gr, gw, hg', h16, hRI, hWI, d1, d2, d3, d6⟩ := bo_cells HBW.out
              have HRI := Lib.hid hRI
              have H16 := Lib.hid h16
              clear hRI h16 hWI d3 hHeld
              refine wpAnyH_weaken (S2 := fun W => W.cell? ⟨g', 1, none⟩ = some (.int .i64 M'.pc) ∧ W.cell? ⟨g', 2, none⟩ = some (.slice (some ⟨gr, 0, none⟩) 16 16) ∧ W.cell? ⟨g', 6, none⟩ = some (.int .u8 M'.how)) (fun _ _ => trivial) _ _ _ _ ?_
              have hHeld : wb.cell? ⟨g', 1, none⟩ = some (.int .i64 M'.pc) ∧ wb.cell? ⟨g', 2, none⟩ = some (.slice (some ⟨gr, 0, none⟩) 16 16) ∧ wb.cell? ⟨g', 6, none⟩ = some (.int .u8 M'.how) := ⟨d1, d2, d6⟩
              refine wpAnyH_takeE (i := 4) (d := some 99) (v := ?_) rfl rfl (by kernel_rfl) (by kernel_rfl) (by kernel_rfl) (fun _ _ _ h => h) (by kernel_rfl) ?hyA4 (by assumption) ?restA4
              case hyA4 => (intro W hSw; (try dsimp only at hSw); go_simp; try (with_reducible rfl))
              (try simp only [Act.put, List.setIfInBounds_toArray, List.set_cons_zero, List.set_cons_succ])
              refine wpAnyH_takeE (i := 5) (d := some 100) (v := ?_) rfl rfl (by kernel_rfl) (by kernel_rfl) (by kernel_rfl) (fun _ _ _ h => h) (by kernel_rfl) ?hyA5 (by assumption) ?restA5
              case hyA5 => (intro W hSw; (try dsimp only at hSw); go_simp; try (with_reducible rfl))
              (try simp only [Act.put, List.setIfInBounds_toArray, List.set_cons_zero, List.set_cons_succ])
              refine wpAnyH_takeE (i := 6) (d := some 101) (v := ?_) rfl rfl (by kernel_rfl) (by kernel_rfl) (by kernel_rfl) (fun _ _ _ h => h) (by kernel_rfl) ?hyA6 (by assumption) ?restA6
              case hyA6 => (intro W hSw; (try dsimp only at hSw); go_simp; try (with_reducible rfl))
              (try simp only [Act.put, List.setIfInBounds_toArray, List.set_cons_zero, List.set_cons_succ])
              refine wpAnyH_takeE (i := 8) (d := some 103) (v := ?_) rfl rfl (by kernel_rfl) (by kernel_rfl) (by kernel_rfl) (fun _ _ _ h => h) (by kernel_rfl) ?hyA8 (by assumption) ?restA8
              case hyA8 => (intro W hSw; (try dsimp only at hSw); go_simp; try (with_reducible rfl))
              (try simp only [Act.put, List.setIfInBounds_toArray, List.set_cons_zero, List.set_cons_succ])
              refine wpAnyH_takeE (i := 9) (d := some 104) (v := ?_) rfl rfl (by kernel_rfl) (by kernel_rfl) (by kernel_rfl) (fun _ _ _ h => h) (by kernel_rfl) ?hyA9 (by assumption) ?restA9
              case hyA9 => (intro W hSw; (try dsimp only at hSw); go_simp; try (with_reducible rfl))
              (try simp only [Act.put, List.setIfInBounds_toArray, List.set_cons_zero, List.set_cons_succ])
              refine wpAnyH_takeE (i := 10) (d := some 105) (v := ?_) rfl rfl (by kernel_rfl) (by kernel_rfl) (by kernel_rfl) (fun _ _ _ h => h) (by kernel_rfl) ?hyA10 (by assumption) ?restA10
              case hyA10 => (intro W hSw; (try dsimp only at hSw); go_simp; try (with_reducible rfl))
              (try simp only [Act.put, List.setIfInBounds_toArray, List.set_cons_zero, List.set_cons_succ])
              refine wpAnyH_takeE (i := 11) (d := some 106) (v := ?_) rfl rfl (by kernel_rfl) (by kernel_rfl) (by kernel_rfl) (fun _ _ _ h => h) (by kernel_rfl) ?hyA11 (by assumption) ?restA11
              case hyA11 => (intro W hSw; (try dsimp only at hSw); go_simp; try (with_reducible rfl))
              (try simp only [Act.put, List.setIfInBounds_toArray, List.set_cons_zero, List.set_cons_succ])
              refine wpAnyH_ready (rs := [7]) (by kernel_rfl) (by simp) ?_
              refine AllReadyH.cons rfl (fun K hK => ?_) AllReadyH.nil
              (try rw [if_pos (by kernel_rfl)])
              go_simp
              go_at_call 14
              refine (bo_how HBW.out).mono ?_
              rintro e w9 ⟨rfl, rfl⟩
              go_wp2_with fail
              refine hK.out _ _ (by exact ⟨d1, d2, d6⟩) (fun hHeld => ?_)
              clear hK K
              (try simp only [Act.put, List.setIfInBounds_toArray, List.set_cons_zero, List.set_cons_succ])
              refine wpAnyH_takeE (i := 12) (d := some 107) (v := ?_) rfl rfl (by kernel_rfl) (by kernel_rfl) (by kernel_rfl) (fun _ _ _ h => h) (by kernel_rfl) ?hyA12 (by assumption) ?restA12
              case hyA12 => (intro W hSw; (try dsimp only at hSw); go_simp; try (with_reducible rfl))
              (try simp only [Act.put, List.setIfInBounds_toArray, List.set_cons_zero, List.set_cons_succ])
              refine wpAnyH_takeE (i := 13) (d := some 108) (v := ?_) rfl rfl (by kernel_rfl) (by kernel_rfl) (by kernel_rfl) (fun _ _ _ h => h) (by kernel_rfl) ?hyA13 (by assumption) ?restA13
              case hyA13 => (intro W hSw; (try dsimp only at hSw); go_simp; try (with_reducible rfl))
              (try simp only [Act.put, List.setIfInBounds_toArray, List.set_cons_zero, List.set_cons_succ])
              refine wpAnyH_takeE (i := 14) (d := some 109) (v := ?_) rfl rfl (by kernel_rfl) (by kernel_rfl) (by kernel_rfl) (fun _ _ _ h => h) (by kernel_rfl) ?hyA14 (by assumption) ?restA14
              case hyA14 => (intro W hSw; (try dsimp only at hSw); go_simp; try (with_reducible rfl))
              (try simp only [Act.put, List.setIfInBounds_toArray, List.set_cons_zero, List.set_cons_succ])
              refine wpAnyH_takeE (i := 15) (d := some 110) (v := ?_) rfl rfl (by kernel_rfl) (by kernel_rfl) (by kernel_rfl) (fun _ _ _ h => h) (by kernel_rfl) ?hyA15 (by assumption) ?restA15
              case hyA15 => (intro W hSw; (try dsimp only at hSw); go_simp; try (with_reducible rfl))
              (try simp only [Act.put, List.setIfInBounds_toArray, List.set_cons_zero, List.set_cons_succ])
              refine wpAnyH_takeE (i := 17) (d := some 112) (v := ?_) rfl rfl (by kernel_rfl) (by kernel_rfl) (by kernel_rfl) (fun _ _ _ h => h) (by kernel_rfl) ?hyA17 (by assumption) ?restA17
              case hyA17 => (intro W hSw; (try dsimp only at hSw); go_simp; try (with_reducible rfl))
              (try simp only [Act.put, List.setIfInBounds_toArray, List.set_cons_zero, List.set_cons_succ])
              refine wpAnyH_takeE (i := 18) (d := some 113) (v := ?_) rfl rfl (by kernel_rfl) (by kernel_rfl) (by kernel_rfl) (fun _ _ _ h => h) (by kernel_rfl) ?hyA18 (by assumption) ?restA18
              case hyA18 => (intro W hSw; (try dsimp only at hSw); go_simp; try (with_reducible rfl))
              (try simp only [Act.put, List.setIfInBounds_toArray, List.set_cons_zero, List.set_cons_succ])
              refine wpAnyH_takeE (i := 19) (d := some 114) (v := ?_) rfl rfl (by kernel_rfl) (by kernel_rfl) (by kernel_rfl) (fun _ _ _ h => h) (by kernel_rfl) ?hyA19 (by assumption) ?restA19
              case hyA19 => (intro W hSw; (try dsimp only at hSw); go_simp; try (with_reducible rfl))
              (try simp only [Act.put, List.setIfInBounds_toArray, List.set_cons_zero, List.set_cons_succ])
              refine wpAnyH_takeE (i := 20) (d := some 115) (v := ?_) rfl rfl (by kernel_rfl) (by kernel_rfl) (by kernel_rfl) (fun _ _ _ h => h) (by kernel_rfl) ?hyA20 (by assumption) ?restA20
              case hyA20 => (intro W hSw; (try dsimp only at hSw); go_simp; try (with_reducible rfl))
              (try simp only [Act.put, List.setIfInBounds_toArray, List.set_cons_zero, List.set_cons_succ])
              refine wpAnyH_ready (rs := [16]) (by kernel_rfl) (by simp) ?_
              refine AllReadyH.cons rfl (fun K hK => ?_) AllReadyH.nil
              (try rw [if_pos (by kernel_rfl)])
              go_simp
              go_at_call 15
              refine (bo_pc HBW.out).mono ?_
              rintro e w9 ⟨rfl, rfl⟩
              go_wp2_with fail
              refine hK.out _ _ (by exact ⟨d1, d2, d6⟩) (fun hHeld => ?_)
              clear hK K
              (try simp only [Act.put, List.setIfInBounds_toArray, List.set_cons_zero, List.set_cons_succ])
              refine wpAnyH_takeE (i := 21) (d := some 116) (v := ?_) rfl rfl (by kernel_rfl) (by kernel_rfl) (by kernel_rfl) (fun _ _ _ h => h) (by kernel_rfl) ?hyA21 (by assumption) ?restA21
              case hyA21 => (intro W hSw; (try dsimp only at hSw); go_simp; try (with_reducible rfl))
              (try simp only [Act.put, List.setIfInBounds_toArray, List.set_cons_zero, List.set_cons_succ])
              refine wpAnyH_takeE (i := 22) (d := some 117) (v := ?_) rfl rfl (by kernel_rfl) (by kernel_rfl) (by kernel_rfl) (fun _ _ _ h => h) (by kernel_rfl) ?hyA22 (by assumption) ?restA22
              case hyA22 => (intro W hSw; (try dsimp only at hSw); go_simp; try (with_reducible rfl))
              (try simp only [Act.put, List.setIfInBounds_toArray, List.set_cons_zero, List.set_cons_succ])
              refine wpAnyH_takeE (i := 23) (d := some 118) (v := ?_) rfl rfl (by kernel_rfl) (by kernel_rfl) (by kernel_rfl) (fun _ _ _ h => h) (by kernel_rfl) ?hyA23 (by assumption) ?restA23
              case hyA23 => (intro W hSw; (try dsimp only at hSw); go_simp; try (with_reducible rfl))
              (try simp only [Act.put, List.setIfInBounds_toArray, List.set_cons_zero, List.set_cons_succ])
              refine wpAnyH_takeE (i := 24) (d := some 119) (v := ?_) rfl rfl (by kernel_rfl) (by kernel_rfl) (by kernel_rfl) (fun _ _ _ h => h) (by kernel_rfl) ?hyA24 (by assumption) ?restA24
              case hyA24 => (intro W hSw; (try dsimp only at hSw); go_simp; try (with_reducible rfl))
              (try simp only [Act.put, List.setIfInBounds_toArray, List.set_cons_zero, List.set_cons_succ])
              refine wpAnyH_takeE (i := 26) (d := some 121) (v := ?_) rfl rfl (by kernel_rfl) (by kernel_rfl) (by kernel_rfl) (fun _ _ _ h => h) (by kernel_rfl) ?hyA26 (by assumption) ?restA26
              case hyA26 => (intro W hSw; (try dsimp only at hSw); go_simp; try (with_reducible rfl))
              (try simp only [Act.put, List.setIfInBounds_toArray, List.set_cons_zero, List.set_cons_succ])
              refine wpAnyH_takeE (i := 27) (d := some 122) (v := ?_) rfl rfl (by kernel_rfl) (by kernel_rfl) (by kernel_rfl) (fun _ _ _ h => h) (by kernel_rfl) ?hyA27 (by assumption) ?restA27
              case hyA27 => (intro W hSw; (try dsimp only at hSw); go_simp; try (with_reducible rfl))
              (try simp only [Act.put, List.setIfInBounds_toArray, List.set_cons_zero, List.set_cons_succ])
              refine wpAnyH_takeE (i := 28) (d := some 123) (v := ?_) rfl rfl (by kernel_rfl) (by kernel_rfl) (by kernel_rfl) (fun _ _ _ h => h) (by kernel_rfl) ?hyA28 (by assumption) ?restA28
              case hyA28 => (intro W hSw; (try dsimp only at hSw); go_simp; try (with_reducible rfl))
              (try simp only [Act.put, List.setIfInBounds_toArray, List.set_cons_zero, List.set_cons_succ])
              refine wpAnyH_takeE (i := 29) (d := some 124) (v := ?_) rfl rfl (by kernel_rfl) (by kernel_rfl) (by kernel_rfl) (fun _ _ _ h => h) (by kernel_rfl) ?hyA29 (by assumption) ?restA29
              case hyA29 => (intro W hSw; (try dsimp only at hSw); go_simp; try (with_reducible rfl))
              (try simp only [Act.put, List.setIfInBounds_toArray, List.set_cons_zero, List.set_cons_succ])
              refine wpAnyH_ready (rs := [25]) (by kernel_rfl) (by simp) ?_
              refine AllReadyH.cons rfl (fun K hK => ?_) AllReadyH.nil
              (try rw [if_pos (by kernel_rfl)])
              go_simp
              go_at_call 17
              refine (bo_regs HBW.out).mono ?_
              rintro e wc ⟨vc, rfl, hoc, hbc, hkc⟩
              obtain ⟨Ac, cc, rfl, hcc, hIc⟩ := hoc.ils
              have HIC := Lib.hid hIc
              have HBC := Lib.hid hbc
              have e1 := (hbc.cell (p := ⟨g', 1, none⟩) hg').trans d1
              have e2 := (hbc.cell (p := ⟨g', 2, none⟩) hg').trans d2
              have e6 := (hbc.cell (p := ⟨g', 6, none⟩) hg').trans d6
              clear hoc hIc hkc hbc d1 d2 d6
              go_wp2_with fail
              refine hK.out _ _ (by exact ⟨e1, e2, e6⟩) (fun hHeld => ?_)
              clear hK K
              (try simp only [Act.put, List.setIfInBounds_toArray, List.set_cons_zero, List.set_cons_succ])
              refine wpAnyH_ready (rs := [30]) (by kernel_rfl) (by simp) ?_
              refine AllReadyH.cons rfl (fun K hK => ?_) AllReadyH.nil
              (try rw [if_pos (by kernel_rfl)])
              go_simp
              go_at_call 16
              refine (numbers_n Ac (some ⟨gr, 0, none⟩) cc 16 M'.regs.length 16 M'.regs wc rfl H16.out HIC.out (HRI.out.below HBC.out) hcc (Nat.le_refl _) (by have := H16.out; omega)).mono ?_
              rintro e wq ⟨rfl, hbd⟩
              have hg2 : g' < wc.heap.size := Nat.lt_of_lt_of_le hg' HBC.out.size
              have f1 := (hbd.cell (p := ⟨g', 1, none⟩) hg2).trans e1
              have f2 := (hbd.cell (p := ⟨g', 2, none⟩) hg2).trans e2
              have f6 := (hbd.cell (p := ⟨g', 6, none⟩) hg2).trans e6
              have HBN := Lib.hid (HBC.out.trans (hbd.mono HBC.out.size))
              have hg3 : g' < wq.heap.size := Nat.lt_of_lt_of_le hg2 hbd.size
              clear e1 e2 e6 hbd HIC HBC hg2 hg'
              go_wp2_with fail
              refine hK.out _ _ (by exact ⟨f1, f2, f6⟩) (fun hHeld => ?_)
              clear hK K
              (try simp only [Act.put, List.setIfInBounds_toArray, List.set_cons_zero, List.set_cons_succ])
              refine wpAnyH_takeE (i := 31) (d := some 126) (v := ?_) rfl rfl (by kernel_rfl) (by kernel_rfl) (by kernel_rfl) (fun _ _ _ h => h) (by kernel_rfl) ?hyA31 (by assumption) ?restA31
              case hyA31 => (intro W hSw; (try dsimp only at hSw); go_simp; try (with_reducible rfl))
              (try simp only [Act.put, List.setIfInBounds_toArray, List.set_cons_zero, List.set_cons_succ])
              refine wpAnyH_takeE (i := 32) (d := some 127) (v := ?_) rfl rfl (by kernel_rfl) (by kernel_rfl) (by kernel_rfl) (fun _ _ _ h => h) (by kernel_rfl) ?hyA32 (by assumption) ?restA32
              case hyA32 => (intro W hSw; (try dsimp only at hSw); go_simp; try (with_reducible rfl))
              (try simp only [Act.put, List.setIfInBounds_toArray, List.set_cons_zero, List.set_cons_succ])
              refine wpAnyH_done (by kernel_rfl) ?_ _
              clear hHeld f1 f2 HRI H16 k0 k1 k2 k3 k4 k5
              have HBT := Lib.hid (HBW.out.below HBN.out)
              have HLT := Lib.hid (HLW.out.trans (HBN.out.mono HLW.out.size))
              have HST := Lib.hid (Nat.le_trans HSW.out HBN.out.size)
              have HOT := Lib.hid (HOK'.out.ok.less (Nat.zero_le _))
              clear HBW HLW HSW HBN
              by_cases h0' : M'.how = 0
              · rw [h0'] at f6
                go_wp2_with fail
                go_roundw
                case rel => exact ⟨q + 1, M', by omega, by go_num, ⟨HLT.out, HBT.out, by have := HOK'.out; rwa [show 1001 - (q + 1) = 1000 - q by omega], h0', HST.out⟩⟩
                case measure => simp [intOf]; omega
              · have hne : (M'.how != 0) = true := by simpa using h0'
                obtain ⟨grT, gwT, hgT, h16T, hRT, hWT, d1T, d2T, d3T, d6T⟩ := bo_cells HBT.out
                clear h16T hRT d1T d2T d6T
                have HWT := Lib.hid hWT
                clear hWT
                have k5T := (HAW.out _ HLT.out).2.2.2.2.2
                have hzT : W.heap.size < wq.heap.size := by have := HLT.out.size; omega
                have HV := Lib.hid (show ∀ k : Nat, c.fu = k → k < M'.words.length → ∃ x, wordV M' c.fu = x ∧ wq.cell? ⟨gwT, k, none⟩ = some (.int .i64 x) from fun k hk hl => by
                  obtain ⟨g1, o1, e1, _, hc1⟩ := HWT.out (by omega)
                  cases e1
                  have hh : hasW M' c.fu = true := decide_eq_true ⟨by omega, by omega⟩
                  refine ⟨_, rfl, ?_⟩
                  have := hc1 k hl
                  rw [Nat.zero_add] at this
                  rw [this]
                  unfold wordV
                  rw [if_pos hh, hk]
                  simp [wd])
                have HY := Lib.hid (fun hh : ¬ (0 ≤ c.fu ∧ c.fu < (M'.words.length : Int)) => (show hasW M' c.fu = false ∧ wordV M' c.fu = 0 from by
                  have h1 : hasW M' c.fu = false := decide_eq_false hh
                  exact ⟨h1, by unfold wordV; rw [if_neg (by rw [h1]; simp)]⟩))
                have HYY := Lib.hid (fun hh : (0 ≤ c.fu ∧ c.fu < (M'.words.length : Int)) => (show hasW M' c.fu = true from decide_eq_true hh))
                have HWD := Lib.hid (bo_word HBT.out c.fu)
                go_wp2_with fail
                refine HWD.out.mono ?_
                rintro e w' ⟨rfl, rfl⟩
                clear HWD
                by_cases hf0 : 0 ≤ c.fu
                · by_cases hf1 : c.fu < (M'.words.length : Int)
                  · obtain ⟨k, hk⟩ : ∃ k : Nat, c.fu = k := ⟨c.fu.toNat, by omega⟩
                    obtain ⟨x, hx, hcx⟩ := HV.out k hk (by omega)
                    rw [hx, HYY.out ⟨hf0, hf1⟩]
                    rw [hk] at k5T hf0 hf1 ⊢
                    have hd0 : decide ((k : Int) ≥ 0) = true := decide_eq_true hf0
                    have hd1 : decide ((k : Int) < (M'.words.length : Int)) = true := decide_eq_true hf1
                    clear HV HY HYY HWT hx hk
                    go_wp2_with fail
                    go_region
                    go_wp2_with fail
                    go_region
                    go_wp2_with fail
                    refine (bo_like (HBT.out.below (Below.refl _ _).drew.drew) HOT.out).mono ?_
                    rintro e w8 ⟨rfl, hb8⟩
                    have HL8 := Lib.hid (HLT.out.drew.drew.trans (hb8.mono HLT.out.size))
                    clear hb8
                    go_wp2_with fail
                    refine (works4_any _).mono ?_
                    rintro e w9 ⟨rfl, hb9⟩
                    have HE9 := Lib.hid ((HB1.out.trans (HB2.out.mono HB1.out.size)).trans (((HL8.out.trans (hb9.mono HL8.out.size))).mono (Nat.le_trans HB1.out.size HB2.out.size)))
                    clear hb9
                    go_wp2_with fail
                    go_ret
                    exact ⟨rfl, HE9.out⟩
                  · have hh := HY.out (fun h => hf1 h.2)
                    rw [hh.1, hh.2]
                    have hd0 : decide (c.fu ≥ 0) = true := decide_eq_true hf0
                    have hd1 : decide (c.fu < (M'.words.length : Int)) = false := decide_eq_false hf1
                    clear HV HY HYY HWT hh
                    go_wp2_with fail
                    go_region
                    go_wp2_with fail
                    go_region
                    go_wp2_with fail
                    refine (bo_like (HBT.out.below (Below.refl _ _).drew.drew) HOT.out).mono ?_
                    rintro e w8 ⟨rfl, hb8⟩
                    have HL8 := Lib.hid (HLT.out.drew.drew.trans (hb8.mono HLT.out.size))
                    clear hb8
                    go_wp2_with fail
                    refine (works4_any _).mono ?_
                    rintro e w9 ⟨rfl, hb9⟩
                    have HE9 := Lib.hid ((HB1.out.trans (HB2.out.mono HB1.out.size)).trans (((HL8.out.trans (hb9.mono HL8.out.size))).mono (Nat.le_trans HB1.out.size HB2.out.size)))
                    clear hb9
                    go_wp2_with fail
                    go_ret
                    exact ⟨rfl, HE9.out⟩
                · exfalso; omega
            · go_wp2_with fail
              have HBT := Lib.hid hI.out.bo
              have HLT := Lib.hid hI.out.bl
              have HST := Lib.hid hI.out.sz
              have HOT := Lib.hid (hI.out.ok.ok.less (Nat.zero_le _))
              clear hI k0 k1 k2 k3 k4 k5
              obtain ⟨grT, gwT, hgT, h16T, hRT, hWT, d1T, d2T, d3T, d6T⟩ := bo_cells HBT.out
              clear h16T hRT d1T d2T d6T
              have HWT := Lib.hid hWT
              clear hWT
              have k5T := (HAW.out _ HLT.out).2.2.2.2.2
              have hzT : W.heap.size < wr.heap.size := by have := HLT.out.size; omega
              have HV := Lib.hid (show ∀ k : Nat, c.fu = k → k < M.words.length → ∃ x, wordV M c.fu = x ∧ wr.cell? ⟨gwT, k, none⟩ = some (.int .i64 x) from fun k hk hl => by
                obtain ⟨g1, o1, e1, _, hc1⟩ := HWT.out (by omega)
                cases e1
                have hh : hasW M c.fu = true := decide_eq_true ⟨by omega, by omega⟩
                refine ⟨_, rfl, ?_⟩
                have := hc1 k hl
                rw [Nat.zero_add] at this
                rw [this]
                unfold wordV
                rw [if_pos hh, hk]
                simp [wd])
              have HY := Lib.hid (fun hh : ¬ (0 ≤ c.fu ∧ c.fu < (M.words.length : Int)) => (show hasW M c.fu = false ∧ wordV M c.fu = 0 from by
                have h1 : hasW M c.fu = false := decide_eq_false hh
                exact ⟨h1, by unfold wordV; rw [if_neg (by rw [h1]; simp)]⟩))
              have HYY := Lib.hid (fun hh : (0 ≤ c.fu ∧ c.fu < (M.words.length : Int)) => (show hasW M c.fu = true from decide_eq_true hh))
              have HWD := Lib.hid (bo_word HBT.out c.fu)
              refine HWD.out.mono ?_
              rintro e w' ⟨rfl, rfl⟩
              clear HWD
              by_cases hf0 : 0 ≤ c.fu
              · by_cases hf1 : c.fu < (M.words.length : Int)
                · obtain ⟨k, hk⟩ : ∃ k : Nat, c.fu = k := ⟨c.fu.toNat, by omega⟩
                  obtain ⟨x, hx, hcx⟩ := HV.out k hk (by omega)
                  rw [hx, HYY.out ⟨hf0, hf1⟩]
                  rw [hk] at k5T hf0 hf1 ⊢
                  have hd0 : decide ((k : Int) ≥ 0) = true := decide_eq_true hf0
                  have hd1 : decide ((k : Int) < (M.words.length : Int)) = true := decide_eq_true hf1
                  clear HV HY HYY HWT hx hk
                  go_wp2_with fail
                  go_region
                  go_wp2_with fail
                  go_region
                  go_wp2_with fail
                  refine (bo_like (HBT.out.below (Below.refl _ _).drew.drew) HOT.out).mono ?_
                  rintro e w8 ⟨rfl, hb8⟩
                  have HL8 := Lib.hid (HLT.out.drew.drew.trans (hb8.mono HLT.out.size))
                  clear hb8
                  go_wp2_with fail
                  refine (works4_any _).mono ?_
                  rintro e w9 ⟨rfl, hb9⟩
                  have HE9 := Lib.hid ((HB1.out.trans (HB2.out.mono HB1.out.size)).trans (((HL8.out.trans (hb9.mono HL8.out.size))).mono (Nat.le_trans HB1.out.size HB2.out.size)))
                  clear hb9
                  go_wp2_with fail
                  go_ret
                  exact ⟨rfl, HE9.out⟩
                · have hh := HY.out (fun h => hf1 h.2)
                  rw [hh.1, hh.2]
                  have hd0 : decide (c.fu ≥ 0) = true := decide_eq_true hf0
                  have hd1 : decide (c.fu < (M.words.length : Int)) = false := decide_eq_false hf1
                  clear HV HY HYY HWT hh
                  go_wp2_with fail
                  go_region
                  go_wp2_with fail
                  go_region
                  go_wp2_with fail
                  refine (bo_like (HBT.out.below (Below.refl _ _).drew.drew) HOT.out).mono ?_
                  rintro e w8 ⟨rfl, hb8⟩
                  have HL8 := Lib.hid (HLT.out.drew.drew.trans (hb8.mono HLT.out.size))
                  clear hb8
                  go_wp2_with fail
                  refine (works4_any _).mono ?_
                  rintro e w9 ⟨rfl, hb9⟩
                  have HE9 := Lib.hid ((HB1.out.trans (HB2.out.mono HB1.out.size)).trans (((HL8.out.trans (hb9.mono HL8.out.size))).mono (Nat.le_trans HB1.out.size HB2.out.size)))
                  clear hb9
                  go_wp2_with fail
                  go_ret
                  exact ⟨rfl, HE9.out⟩
              · have hh := HY.out (fun h => hf0 h.1)
                rw [hh.1, hh.2]
                have hd0 : decide (c.fu ≥ 0) = false := decide_eq_false hf0
                clear HV HY HYY HWT hh
                go_wp2_with fail
                go_region
                go_wp2_with fail
                go_region
                go_wp2_with fail
                refine (bo_like (HBT.out.below (Below.refl _ _).drew.drew) HOT.out).mono ?_
                rintro e w8 ⟨rfl, hb8⟩
                have HL8 := Lib.hid (HLT.out.drew.drew.trans (hb8.mono HLT.out.size))
                clear hb8
                go_wp2_with fail
                refine (works4_any _).mono ?_
                rintro e w9 ⟨rfl, hb9⟩
                have HE9 := Lib.hid ((HB1.out.trans (HB2.out.mono HB1.out.size)).trans (((HL8.out.trans (hb9.mono HL8.out.size))).mono (Nat.le_trans HB1.out.size HB2.out.size)))
                clear hb9
                go_wp2_with fail
                go_ret
                exact ⟨rfl, HE9.out⟩
end Go.Proofs.YtdnpoeegefkoiaaGreat
