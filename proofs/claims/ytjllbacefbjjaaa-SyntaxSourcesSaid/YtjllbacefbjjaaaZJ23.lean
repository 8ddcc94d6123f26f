/-
  Merged for a claim: S1O, TKB, S1J, VKD, VKE, VKF, VKG, VKH, VKI, R0A.
-/
import Derived.Test.YtjllbacefbjjaaaZS1N
import Derived.Test.YtjllbacefbjjaaaZJ22
import Derived.Test.YtjllbacefbjjaaaZJ3
import Derived.Test.YtjllbacefbjjaaaZJ21
import Derived.KernelRfl
import Derived.Test.YtjllbacefbjjaaaZJ4
import Derived.Test.YtjllbacefbjjaaaProg
import Derived.Maps.OwnSet
import Derived.WalkKit
import Derived.Test.YtjllbacefbjjaaaZJ8
import Derived.WalkMore
import Derived.Test.YtjllbacefbjjaaaZJ2
import Derived.Deep.QuietTactic
import Derived.BigQuiet
namespace Go.Proofs.Ytjllbacefbjjaaa
open Go Go.RowKit

theorem row_below {α : Type} {K : El α} {W Z : World} {A : Option Addr} {xs : List α} (h : K.LiesT W A xs) (hb : Below W.heap.size W Z) : K.LiesT Z A xs := lies_eq h fun g ht => hb.block g ht.lt
theorem map_len {α β γ : Type} {f : α → γ} {g : β → γ} {l : List α} {k : List β} (h : l.map f = k.map g) : k.length = l.length := by
 have := congrArg List.length h
 rw [List.length_map, List.length_map] at this
 exact this.symm
theorem map_at {α β γ : Type} {f : α → γ} {g : β → γ} {l : List α} {k : List β} (h : l.map f = k.map g) (j : Nat) (hj : j < l.length) (hj2 : j < k.length) : f l[j] = g k[j] := by
 have := congrArg (fun q => q[j]?) h
 simpa [hj, hj2] using this
set_option maxRecDepth 100000 in
set_option maxHeartbeats 16000000 in
theorem same12_any (P Q : Nat → Prop) (m q : PgM) (w : World) (h1 : m.Ok w P) (h2 : q.Ok w Q) (h3 : m.d = q.d) (h4 : m.d.few) :
 Calls Try.prog 9 #[.agg m.cs.toArray, .agg q.cs.toArray] w (fun e w' => e = .returned (.bool true) ∧ Below w.heap.size w w') := by
 obtain ⟨A1, c1, ss, A2, c2, fs⟩ := m
 obtain ⟨B1, d1, ss2, B2, d2, fs2⟩ := q
 injection h3 with e1 e2
 dsimp only at e1 e2
 have HS := Lib.hid e1
 have HD := Lib.hid e2
 have hl1 := map_len e1
 have hl2 := map_len e2
 have HL1 := Lib.hid hl1
 have HL2 := Lib.hid hl2
 obtain ⟨k1, k2, k3, k4⟩ := h1
 obtain ⟨q1, q2, q3, q4⟩ := h2
 obtain ⟨f1, f2, f3⟩ := h4
 dsimp only at k1 k2 k3 k4 q1 q2 q3 q4
 have hn1 : ss.length ≤ 1000000 := by simp [PgM.d, mostT] at f1; omega
 have hn2 : fs.length ≤ 1000000 := by simp [PgM.d, mostT] at f1; omega
 have HF2 := Lib.hid (show ∀ s ∈ ss, s.fs.length ≤ 1000000 from fun s h => f2 s.d (List.mem_map.2 ⟨s, h, rfl⟩))
 have HF3 := Lib.hid (show ∀ d ∈ fs, d.ps.length ≤ 1000000 ∧ stsF (xssd d.bd) from fun s h => f3 s.d (List.mem_map.2 ⟨s, h, rfl⟩))
 have hal := below_al2 w (.cells #[.slice A1 ss.length c1, .slice A2 fs.length c2] 27) (.cells #[.slice B1 ss.length d1, .slice B2 fs.length d2] 27)
 have K1 := Lib.hid (row_below k1.1 hal)
 have K2 := Lib.hid (row_below k2.1 hal)
 have K3 := Lib.hid (show ∀ s ∈ ss, s.Ok _ P from fun s h => (k3 s h).keep (fun g _ ht => hal.block g ht.lt) (fun _ q => q))
 have K4 := Lib.hid (show ∀ s ∈ fs, s.Ok _ P from fun s h => (k4 s h).keep (fun g _ ht => hal.block g ht.lt) (fun g _ ht => hal.block g ht.lt) (fun g _ ht => hal.block g ht.lt) (fun _ q => q))
 have Q1 := Lib.hid (row_below q1.1 hal)
 have Q2 := Lib.hid (row_below q2.1 hal)
 have Q3 := Lib.hid (show ∀ s ∈ ss2, s.Ok _ Q from fun s h => (q3 s h).keep (fun g _ ht => hal.block g ht.lt) (fun _ q => q))
 have Q4 := Lib.hid (show ∀ s ∈ fs2, s.Ok _ Q from fun s h => (q4 s h).keep (fun g _ ht => hal.block g ht.lt) (fun g _ ht => hal.block g ht.lt) (fun g _ ht => hal.block g ht.lt) (fun _ q => q))
 have HC1 := Lib.hid (show CAt ((w.alloc (.cells #[.slice A1 ss.length c1, .slice A2 fs.length c2] 27)).alloc (.cells #[.slice B1 ss.length d1, .slice B2 fs.length d2] 27)) w.heap.size 27 [.slice A1 ss.length c1, .slice A2 fs.length c2] from ((below_lnew _ _).block w.heap.size (by simp)).trans (heap_alloc_new w _))
 have HC2 := Lib.hid (show CAt ((w.alloc (.cells #[.slice A1 ss.length c1, .slice A2 fs.length c2] 27)).alloc (.cells #[.slice B1 ss.length d1, .slice B2 fs.length d2] 27)) (w.heap.size + 1) 27 [.slice B1 ss.length d1, .slice B2 fs.length d2] from new_at _ _ (by simp) _)
 have HAL := Lib.hid hal
 unfold PgM.cs
 dsimp only
 rw [hl1, hl2]
 clear e1 e2 hl1 hl2 k1 k2 k3 k4 q1 q2 q3 q4 f1 f2 f3 hal
 go_enter Try.func9, Try.ntmps9
 go_wp2_with fail
 generalize hg2 : w.heap.size + 1 = b2 at *
 generalize hg1 : w.heap.size = b1 at *
 obtain ⟨W0, hW0⟩ : ∃ W0, (w.alloc (.cells #[.slice A1 ss.length c1, .slice A2 fs.length c2] 27)).alloc (.cells #[.slice B1 ss.length d1, .slice B2 fs.length d2] 27) = W0 := ⟨_, rfl⟩
 rw [hW0] at K1 K2 K3 K4 Q1 Q2 Q3 Q4 HC1 HC2 HAL ⊢
 have HG := Lib.hid hg1
 clear hW0 hg1 hg2
 have HBX := Lib.hid (show ∀ W, Below W0.heap.size W0 W → W.cell? ⟨b1, 0, none⟩ = some (.slice A1 ss.length c1) ∧ W.cell? ⟨b1, 1, none⟩ = some (.slice A2 fs.length c2) ∧ W.cell? ⟨b2, 0, none⟩ = some (.slice B1 ss.length d1) ∧ W.cell? ⟨b2, 1, none⟩ = some (.slice B2 fs.length d2) from
  fun W hb => ⟨(HC1.out.below hb HC1.out.lt).cell (j := 0) (by simp), (HC1.out.below hb HC1.out.lt).cell (j := 1) (by simp), (HC2.out.below hb HC2.out.lt).cell (j := 0) (by simp), (HC2.out.below hb HC2.out.lt).cell (j := 1) (by simp)⟩)
 go_loopw [5] (fun i wr => ∃ k : Nat, k ≤ ss.length ∧ i = .int .i64 k ∧ Hid (Below W0.heap.size W0 wr)) (fun i _ => ss.length - (intOf i).toNat)
 case atStart => exact ⟨0, by omega, rfl, Below.refl _ _⟩
 case round =>
  obtain ⟨k, hk, rfl, hB⟩ := hrel
  by_cases hlt : k < ss.length
  · have hlt2 : k < ss2.length := by rw [HL1.out]; exact hlt
    have hd := map_at HS.out k hlt hlt2
    have hko := K3.out _ (List.getElem_mem hlt)
    have hqo := Q3.out _ (List.getElem_mem hlt2)
    have hfl := HF2.out _ (List.getElem_mem hlt)
    obtain ⟨g, o, rfl, hg, hcx⟩ := K1.out.lies.at_ hlt
    obtain ⟨g2, o2, rfl, hg2, hcy⟩ := Q1.out.lies.at_ hlt2
    generalize ss[k] = s at *
    generalize ss2[k] = t at *
    obtain ⟨nm, fA, fc, fl⟩ := s
    obtain ⟨nm2, fB, fc2, fl2⟩ := t
    injection hd with e1 e2
    dsimp only at e1 e2 hfl
    subst e1 e2
    have a0 := hcx 0 _ rfl
    have a1 := hcx 1 _ rfl
    have b0 := hcy 0 _ rfl
    have b1' := hcy 1 _ rfl
    simp only [Nat.add_zero, show eSc.sz = 2 from rfl] at a0 a1 b0 b1'
    have FX := Lib.hid (show ∀ W, Below W0.heap.size W0 W → W.cell? ⟨g, o + k * 2, none⟩ = some (.string (str nm)) ∧ W.cell? ⟨g, o + k * 2 + 1, none⟩ = some (.slice fA fl.length fc) ∧ W.cell? ⟨g2, o2 + k * 2, none⟩ = some (.string (str nm)) ∧ W.cell? ⟨g2, o2 + k * 2 + 1, none⟩ = some (.slice fB fl.length fc2) from
     fun W hb => ⟨(hb.cell (p := ⟨g, _, none⟩) hg).trans a0, (hb.cell (p := ⟨g, _, none⟩) hg).trans a1, (hb.cell (p := ⟨g2, _, none⟩) hg2).trans b0, (hb.cell (p := ⟨g2, _, none⟩) hg2).trans b1'⟩)
    have HR1 := Lib.hid (show eSr.LiesT W0 fA fl from hko.1)
    have HR2 := Lib.hid (show eSr.LiesT W0 fB fl from hqo.1)
    have hki : (k : Int) < (ss.length : Int) := by omega
    clear hcx hcy hko hqo a0 a1 b0 b1' hlt2
    obtain ⟨x1, x2, x3, x4⟩ := HBX.out _ hB.out
    obtain ⟨y1, y2, y3, y4⟩ := FX.out _ hB.out
    go_wp2_with fail
    go_quiet (fail)
    have HB2 := Lib.hid (hB.out.trans ((below_draws nq).mono hB.out.size) : Below W0.heap.size W0 (wr.drewN nq))
    clear x1 x2 x3 x4 y1 y2 y3 y4
    go_wp2_with fail
    go_loopw [6] (fun i wr => ∃ j : Nat, j ≤ fl.length ∧ i = .int .i64 j ∧ Hid (Below W0.heap.size W0 wr)) (fun i _ => fl.length - (intOf i).toNat)
    case atStart => exact ⟨0, by omega, rfl, HB2⟩
    case round =>
     obtain ⟨j, hj, rfl, hB3⟩ := hrel
     obtain ⟨wq, rfl⟩ : ∃ z, z = wr := ⟨_, rfl⟩
     obtain ⟨x1, x2, x3, x4⟩ := HBX.out _ hB3.out
     obtain ⟨y1, y2, y3, y4⟩ := FX.out _ hB3.out
     by_cases hlj : j < fl.length
     · obtain ⟨gf, of_, rfl, hgf, hcf⟩ := HR1.out.lies.at_ hlj
       obtain ⟨gf2, of2, rfl, hgf2, hcf2⟩ := HR2.out.lies.at_ hlj
       have z1 := (hB3.out.cell (p := ⟨gf, _, none⟩) hgf).trans (hcf 0 _ rfl)
       have z2 := (hB3.out.cell (p := ⟨gf2, _, none⟩) hgf2).trans (hcf2 0 _ rfl)
       simp only [Nat.add_zero, show eSr.sz = 1 from rfl, Nat.mul_one] at z1 z2
       have hji : (j : Int) < (fl.length : Int) := by omega
       clear hcf hcf2
       go_wp2_with fail
       go_quiet (fail)
       have HB4 := Lib.hid (hB3.out.trans ((below_draws nq).mono hB3.out.size) : Below W0.heap.size W0 (wq.drewN nq))
       go_wp2_with fail
       exact ⟨⟨j + 1, by omega, by go_num, HB4⟩, by simp [intOf]; omega⟩
     · obtain rfl : j = fl.length := by omega
       go_wp2_with fail
       exact ⟨⟨k + 1, by omega, by go_num, hB3⟩, by simp [intOf]; omega⟩
  · obtain rfl : k = ss.length := by omega
    obtain ⟨x1, x2, x3, x4⟩ := HBX.out _ hB.out
    go_wp2_with fail
    have HB5 := Lib.hid hB.out
    clear x1 x2 x3 x4
    go_loopw [7] (fun i wr => ∃ k : Nat, k ≤ fs.length ∧ i = .int .i64 k ∧ Hid (Below W0.heap.size W0 wr)) (fun i _ => fs.length - (intOf i).toNat)
    case atStart => exact ⟨0, by omega, rfl, HB5⟩
    case round =>
     clear hB HB5
     obtain ⟨k, hk, rfl, hB⟩ := hrel
     obtain ⟨wq, rfl⟩ : ∃ z, z = wr := ⟨_, rfl⟩
     by_cases hlt : k < fs.length
     · obtain ⟨x1, x2, x3, x4⟩ := HBX.out _ hB.out
       have hlt2 : k < fs2.length := by rw [HL2.out]; exact hlt
       have hd := map_at HD.out k hlt hlt2
       have hko := K4.out _ (List.getElem_mem hlt)
       have hqo := Q4.out _ (List.getElem_mem hlt2)
       have hfl := HF3.out _ (List.getElem_mem hlt)
       obtain ⟨g, o, rfl, hg, hcx⟩ := K2.out.lies.at_ hlt
       obtain ⟨g2, o2, rfl, hg2, hcy⟩ := Q2.out.lies.at_ hlt2
       generalize fs[k] = s at *
       generalize fs2[k] = t at *
       obtain ⟨nm, ln, pA, pc, ps, ⟨tk, tn, tm⟩, bA, bc, bd⟩ := s
       obtain ⟨nm2, ln2, pB, pc2, ps2, ⟨tk2, tn2, tm2⟩, bB, bc2, bd2⟩ := t
       injection hd with e1 e2 e3 e4 e5
       injection e4 with e41 e42 e43
       dsimp only at e1 e2 e3 e5 e41 e42 e43 hfl
       subst e1 e2 e3 e41 e42 e43
       have l1 : bd2.length = bd.length := by
        have := congrArg List.length e5
        rw [xssd_map, xssd_map, List.length_map, List.length_map] at this
        exact this.symm
       have HR1 := Lib.hid (show ePm.LiesT W0 pA ps from hko.1.1)
       have HR2 := Lib.hid (show ePm.LiesT W0 pB ps from hqo.1.1)
       have HSS := Lib.hid (fun W (hb : Below W0.heap.size W0 W) => sameStmts_any P Q bd bd2 bA bB bc bc2 W (row_below hko.2.1.1 hb) (row_below hqo.2.1.1 hb) (xssOk.keep (fun g _ ht => hb.block g ht.lt) (fun g _ ht => hb.block g ht.lt) (fun _ q => q) _ hko.2.2) (xssOk.keep (fun g _ ht => hb.block g ht.lt) (fun g _ ht => hb.block g ht.lt) (fun _ q => q) _ hqo.2.2) e5 hfl.2)
       rw [l1] at HSS
       have hps := hfl.1
       have d0 := (hB.out.cell (p := ⟨g, _, none⟩) hg).trans (hcx 0 _ rfl)
       have f0 := (hB.out.cell (p := ⟨g2, _, none⟩) hg2).trans (hcy 0 _ rfl)
       have d1 := (hB.out.cell (p := ⟨g, _, none⟩) hg).trans (hcx 1 _ rfl)
       have f1 := (hB.out.cell (p := ⟨g2, _, none⟩) hg2).trans (hcy 1 _ rfl)
       have d2 := (hB.out.cell (p := ⟨g, _, none⟩) hg).trans (hcx 2 _ rfl)
       have f2 := (hB.out.cell (p := ⟨g2, _, none⟩) hg2).trans (hcy 2 _ rfl)
       have d3 := (hB.out.cell (p := ⟨g, _, none⟩) hg).trans (hcx 3 _ rfl)
       have f3 := (hB.out.cell (p := ⟨g2, _, none⟩) hg2).trans (hcy 3 _ rfl)
       have d4 := (hB.out.cell (p := ⟨g, _, none⟩) hg).trans (hcx 4 _ rfl)
       have f4 := (hB.out.cell (p := ⟨g2, _, none⟩) hg2).trans (hcy 4 _ rfl)
       have d5 := (hB.out.cell (p := ⟨g, _, none⟩) hg).trans (hcx 5 _ rfl)
       have f5 := (hB.out.cell (p := ⟨g2, _, none⟩) hg2).trans (hcy 5 _ rfl)
       have d6 := (hB.out.cell (p := ⟨g, _, none⟩) hg).trans (hcx 6 _ rfl)
       have f6 := (hB.out.cell (p := ⟨g2, _, none⟩) hg2).trans (hcy 6 _ rfl)
       simp only [Nat.add_zero, show eDc.sz = 7 from rfl, l1] at d0 f0 d1 f1 d2 f2 d3 f3 d4 f4 d5 f5 d6 f6
       have hki : (k : Int) < (fs.length : Int) := by omega
       have hbs := hB.out.size
       have hb1l : b1 < wq.heap.size := Nat.lt_of_lt_of_le HC1.out.lt hbs
       have hb2l : b2 < wq.heap.size := Nat.lt_of_lt_of_le HC2.out.lt hbs
       have hgl : g < wq.heap.size := Nat.lt_of_lt_of_le hg hbs
       have hg2l : g2 < wq.heap.size := Nat.lt_of_lt_of_le hg2 hbs
       clear hbs
       have hal := below_al2 wq (.cells #[.string (str nm), .int .i64 ln, .slice pA ps.length pc, .int .u8 tk, .int .i64 tn, .string (str tm), .slice bA bd.length bc] 48) (.cells #[.string (str nm), .int .i64 ln, .slice pB ps.length pc2, .int .u8 tk, .int .i64 tn, .string (str tm), .slice bB bd.length bc2] 48)
       have HC3 := Lib.hid (show CAt ((wq.alloc (.cells #[.string (str nm), .int .i64 ln, .slice pA ps.length pc, .int .u8 tk, .int .i64 tn, .string (str tm), .slice bA bd.length bc] 48)).alloc (.cells #[.string (str nm), .int .i64 ln, .slice pB ps.length pc2, .int .u8 tk, .int .i64 tn, .string (str tm), .slice bB bd.length bc2] 48)) wq.heap.size 48 [.string (str nm), .int .i64 ln, .slice pA ps.length pc, .int .u8 tk, .int .i64 tn, .string (str tm), .slice bA bd.length bc] from ((below_lnew _ _).block wq.heap.size (by simp)).trans (heap_alloc_new wq _))
       have HC4 := Lib.hid (show CAt ((wq.alloc (.cells #[.string (str nm), .int .i64 ln, .slice pA ps.length pc, .int .u8 tk, .int .i64 tn, .string (str tm), .slice bA bd.length bc] 48)).alloc (.cells #[.string (str nm), .int .i64 ln, .slice pB ps.length pc2, .int .u8 tk, .int .i64 tn, .string (str tm), .slice bB bd.length bc2] 48)) (wq.heap.size + 1) 48 [.string (str nm), .int .i64 ln, .slice pB ps.length pc2, .int .u8 tk, .int .i64 tn, .string (str tm), .slice bB bd.length bc2] from new_at _ _ (by simp) _)
       have HBA := Lib.hid (hB.out.trans (hal.mono hB.out.size))
       clear hcx hcy hko hqo hfl e5 hal hlt2
       go_wp2_with fail
       refine (HSS.out _ HBA.out).mono ?_
       rintro e w2 ⟨rfl, hb2⟩
       have HB2 := Lib.hid (HBA.out.trans (hb2.mono HBA.out.size))
       have HX2 := Lib.hid (show ∀ W, Below w2.heap.size w2 W → W.cell? ⟨wq.heap.size, 2, none⟩ = some (.slice pA ps.length pc) ∧ W.cell? ⟨wq.heap.size + 1, 2, none⟩ = some (.slice pB ps.length pc2) from
        fun W hb => ⟨((HC3.out.below hb2 HC3.out.lt).below hb (Nat.lt_of_lt_of_le HC3.out.lt hb2.size)).cell (j := 2) (by simp), ((HC4.out.below hb2 HC4.out.lt).below hb (Nat.lt_of_lt_of_le HC4.out.lt hb2.size)).cell (j := 2) (by simp)⟩)
       clear hb2 HSS HC3 HC4 x1 x2 x3 x4 d0 f0 d1 f1 d2 f2 d3 f3 d4 f4 d5 f5 d6 f6
       go_wp2_with fail
       go_loopw [10] (fun i wr => ∃ j : Nat, j ≤ ps.length ∧ i = .int .i64 j ∧ Hid (Below w2.heap.size w2 wr)) (fun i _ => ps.length - (intOf i).toNat)
       case atStart => exact ⟨0, by omega, rfl, Below.refl _ _⟩
       case round =>
        obtain ⟨j, hj, rfl, hB3⟩ := hrel
        obtain ⟨w3, rfl⟩ : ∃ z, z = wr := ⟨_, rfl⟩
        obtain ⟨y1, y2⟩ := HX2.out _ hB3.out
        have HB03 := Lib.hid (HB2.out.trans (hB3.out.mono HB2.out.size))
        by_cases hlj : j < ps.length
        · obtain ⟨gf, of_, rfl, hgf, hcf⟩ := HR1.out.lies.at_ hlj
          obtain ⟨gf2, of2, rfl, hgf2, hcf2⟩ := HR2.out.lies.at_ hlj
          generalize ps[j] = pp at *
          obtain ⟨pn, ⟨pk, pm, pt⟩⟩ := pp
          have p0 := (HB03.out.cell (p := ⟨gf, _, none⟩) hgf).trans (hcf 0 _ rfl)
          have r0 := (HB03.out.cell (p := ⟨gf2, _, none⟩) hgf2).trans (hcf2 0 _ rfl)
          have p1 := (HB03.out.cell (p := ⟨gf, _, none⟩) hgf).trans (hcf 1 _ rfl)
          have r1 := (HB03.out.cell (p := ⟨gf2, _, none⟩) hgf2).trans (hcf2 1 _ rfl)
          have p2 := (HB03.out.cell (p := ⟨gf, _, none⟩) hgf).trans (hcf 2 _ rfl)
          have r2 := (HB03.out.cell (p := ⟨gf2, _, none⟩) hgf2).trans (hcf2 2 _ rfl)
          have p3 := (HB03.out.cell (p := ⟨gf, _, none⟩) hgf).trans (hcf 3 _ rfl)
          have r3 := (HB03.out.cell (p := ⟨gf2, _, none⟩) hgf2).trans (hcf2 3 _ rfl)
          simp only [Nat.add_zero, show ePm.sz = 4 from rfl] at p0 r0 p1 r1 p2 r2 p3 r3
          have hji : (j : Int) < (ps.length : Int) := by omega
          clear hcf hcf2
          go_wp2_with fail
          go_quiet (fail)
          have HB4 := Lib.hid (hB3.out.trans ((below_draws nq).mono hB3.out.size) : Below w2.heap.size w2 (w3.drewN nq))
          go_wp2_with fail
          exact ⟨⟨j + 1, by omega, by go_num, HB4⟩, by simp [intOf]; omega⟩
        · obtain rfl : j = ps.length := by omega
          go_wp2_with fail
          exact ⟨⟨k + 1, by omega, by go_num, HB03⟩, by simp [intOf]; omega⟩
     · obtain rfl : k = fs.length := by omega
       obtain ⟨x1, x2, x3, x4⟩ := HBX.out _ hB.out
       go_wp2_with fail
       go_ret
       exact ⟨rfl, by rw [HG.out]; exact HAL.out.trans (hB.out.mono (by rw [← HG.out]; exact HAL.out.size))⟩
end Go.Proofs.Ytjllbacefbjjaaa

namespace Go.Proofs.Ytjllbacefbjjaaa
open Go

theorem scan_rest {s : List UInt8} {l : List UInt8} (hs : s ≠ []) (hl : l = s ++ l.drop s.length) : (sk false (l.drop s.length)).length < l.length := by
 have h1 := sk_len false (l.drop s.length)
 have h2 := List.length_pos_iff.2 hs
 have h3 := congrArg List.length hl
 rw [List.length_append, List.length_drop] at h3
 rw [List.length_drop] at h1
 omega
theorem tok_nl {kd : Int} {s : List UInt8} {nu : Int} (h : TokOk kd s nu) : ∀ x ∈ s, tBl x = false := by
 intro x hx
 cases hb : tBl x with
 | false => rfl
 | true =>
  obtain ⟨q1, q2, q3⟩ := bl_cases hb
  rcases h.kind with ⟨_, ha, _⟩ | ⟨_, ha, _⟩ | ⟨_, _, _, _, ha, _⟩
  · exact (by rw [ha x hx] at q3; cases q3)
  · exact (by rw [ha x hx] at q2; cases q2)
  · exact (by rw [ha x hx] at hb; cases hb)
theorem nl_zero {s : List UInt8} (h : ∀ x ∈ s, tBl x = false) : nl s = 0 := by
 unfold nl
 rw [List.count_eq_zero]
 intro hm
 have := h 10 hm
 cases this
theorem scan_all (N : Nat) : ∀ (n : Nat) (l : List UInt8) (ts : List Tk), l.length ≤ n → scanS N l = .ok ts → (∀ t ∈ ts, TokOk t.kd t.tx t.nu) ∧ (ts.map fun t => t.tx.length).sum ≤ l.length ∧ ts.length ≤ l.length
 | n, [], ts, _, h => by
  rw [scanS_nil] at h
  injection h with h
  subst h
  simp
 | 0, c :: r, _, h, _ => by simp at h
 | n + 1, c :: r, ts, h, hs => by
  rcases ht : tok1 (c :: r) with _ | ⟨kd, s, nu⟩
  · rw [scanS_none _ (by simp) ht] at hs
    cases hs
  · obtain ⟨h1, h2⟩ := tok1_ok ht
    rw [scanS_some _ ht] at hs
    rcases hq : scanS N (sk false ((c :: r).drop s.length)) with e | us
    · rw [hq] at hs
      cases hs
    · rw [hq] at hs
      injection hs with hs
      subst hs
      have h3 := scan_rest h1.ne h2
      obtain ⟨r1, r2, r3⟩ := scan_all N n _ us (by omega) hq
      have h4 := sk_len false ((c :: r).drop s.length)
      have h5 := congrArg List.length h2
      rw [List.length_append] at h5
      rw [List.length_drop] at h4 h5
      have h6 := List.length_pos_iff.2 h1.ne
      refine ⟨?_, ?_, ?_⟩
      · intro t hm
        rcases List.mem_cons.1 hm with rfl | hm
        · exact h1
        · exact r1 t hm
      · simp only [List.map_cons, List.sum_cons]
        omega
      · simp only [List.length_cons] at *
        omega
end Go.Proofs.Ytjllbacefbjjaaa

namespace Go.Proofs.Ytjllbacefbjjaaa
open Go

def src1 : List UInt8 := [102, 117, 110, 99, 32, 109, 97, 105, 110, 40, 41, 32, 123, 32, 120, 32, 61, 32, 49, 32, 45, 32, 50, 32, 45, 32, 51, 32, 42, 32, 45, 121, 59, 32, 125]
def src2 : List UInt8 := [102, 117, 110, 99, 32, 109, 97, 105, 110, 40, 41, 32, 123, 32, 120, 32, 61, 32, 102, 40, 49, 41, 32, 43, 32, 50, 59, 32, 125]
def toTo (t : Tk) : To := ⟨t.kd, t.tx, t.nu, t.ln⟩
def toksP (l : List UInt8) : List To := if 16384 < l.length then [] else match scanP l with
 | .error _ => []
 | .ok ts => ts.map toTo
def ex1 : Ex := .mk 7 0 [] [] [45] [.mk 7 0 [] [] [45] [.mk 1 1 [] [] [] [], .mk 1 2 [] [] [] []], .mk 7 0 [] [] [42] [.mk 1 3 [] [] [] [], .mk 6 0 [] [] [45] [.mk 3 0 [121] [] [] []]]]
def dc1 : Dc := ⟨[109, 97, 105, 110], 1, [], ty0, [stm 2 1 [120] [] [] ty0 [ex1]]⟩
theorem par_src1 : parP (toksP src1) = (⟨[], [dc1]⟩, 0, 0) := by kernel_rfl
theorem par_src2 : parP (toksP src2) = (⟨[], []⟩, 11, 7) := by kernel_rfl
end Go.Proofs.Ytjllbacefbjjaaa

namespace Go.Proofs.Ytjllbacefbjjaaa
open Go Go.RowKit

theorem drop_len (p : UInt8 → Bool) (l : List UInt8) : l.drop (l.takeWhile p).length = l.dropWhile p := by
 induction l with
 | nil => rfl
 | cons c r ih =>
  rw [List.takeWhile_cons, List.dropWhile_cons]
  split
  · exact ih
  · rfl
theorem take_le (p : UInt8 → Bool) (l : List UInt8) : (l.takeWhile p).length ≤ l.length := by
 have := congrArg List.length (List.takeWhile_append_dropWhile (p := p) (l := l))
 rw [List.length_append] at this
 omega
end Go.Proofs.Ytjllbacefbjjaaa

namespace Go.Proofs.Ytjllbacefbjjaaa
open Go Go.RowKit Go.Maps Go.WideMaps

def KwN (w : World) (b : Nat) (acc : List (List UInt8)) : Prop := ∃ n, n ≤ acc.length ∧ w.ownsMap Try.prog 9 (unitElem (H := Unit)) b n (setOf (.agg []) (acc.map fun s => Lit.string s))
def Kw (w : World) (b : Nat) : Prop := KwN w b wordsL
theorem Kw.at_ {w w' : World} {b : Nat} (h : Kw w b) (hb : w'.heap[b]? = w.heap[b]?) : Kw w' b := by
 obtain ⟨n, hn, es, clock, h1, h2⟩ := h
 exact ⟨n, hn, es, clock, hb.trans h1, h2⟩
theorem Kw.lt {w : World} {b : Nat} (h : Kw w b) : b < w.heap.size := by
 obtain ⟨n, hn, h⟩ := h
 exact h.lt
theorem Kw.below {w w' : World} {b : Nat} (h : Kw w b) (hb : Below w.heap.size w w') : Kw w' b := h.at_ (hb.block b h.lt)
end Go.Proofs.Ytjllbacefbjjaaa

namespace Go.Proofs.Ytjllbacefbjjaaa
open Go Go.RowKit

def tokV (kd : Int) (s : List UInt8) (nu ln : Int) : Value := .agg #[.int .u8 kd, .string (str s), .int .i64 nu, .int .i64 ln]
def OneR (l : List UInt8) (w : World) (e : Ending) (w' : World) : Prop :=
 Below w.heap.size w w' ∧ ∃ kd s nu b, e = .returned (.tuple #[tokV kd s nu 0, .bool b]) ∧ (tok1 l = none ∧ b = false ∨ tok1 l = some (kd, s, nu) ∧ b = true)
theorem tokv_size : (Try.prog.info? 77).map (·.size) = some 4 := by kernel_rfl
theorem tokv_back {fn : Func} {p u : Tmp} (h : fn.results = #[.cell p 77, .tmp u]) {tmps : Array Value} {w : World} {g : Nat} {kd nu ln : Int} {s : List UInt8} {t : TypeId} {fr : Nat × Nat} (hp : tmps.getD p undef = .pointer (some ⟨g, 0, none⟩))
 (hg : w.heap[g]? = some (.cells #[.int .u8 kd, .string (str s), .int .i64 nu, .int .i64 ln] t fr)) : (results fn tmps).run Try.prog w = .ok (.tuple #[tokV kd s nu ln, tmps.getD u undef]) w :=
 res_row_tmp h tmps w g _ _ _ _ hp hg Try.underlying77 rfl tokv_size
theorem grown_set1 (w : World) (g j : Nat) (v : Value) : w.grownBy (w.setCell ⟨g, j, none⟩ v) (some g) :=
 ⟨rfl, rfl, rfl, by simp [World.setCell], fun k _ hk => Below.heap_setCell w ⟨g, j, none⟩ v k (fun e => hk (by rw [e]))⟩
theorem grown4 (w : World) (g : Nat) (a b c d : Value) : w.grownBy ((((w.setCell ⟨g, 0, none⟩ a).setCell ⟨g, 1, none⟩ b).setCell ⟨g, 2, none⟩ c).setCell ⟨g, 3, none⟩ d) (some g) :=
 (((grown_set1 w g 0 a).trans (grown_set1 _ g 1 b)).trans (grown_set1 _ g 2 c)).trans (grown_set1 _ g 3 d)
theorem take_len (p : UInt8 → Bool) (l : List UInt8) : l.take (l.takeWhile p).length = l.takeWhile p := by
 induction l with
 | nil => rfl
 | cons c r ih =>
  rw [List.takeWhile_cons]
  split
  · rw [List.length_cons, List.take_succ_cons, ih]
  · rfl
theorem valF_ge : ∀ (l : List UInt8) (a : Nat), a ≤ l.foldl (fun a c => 10 * a + (c.toNat - 48)) a
 | [], a => Nat.le_refl _
 | c :: l, a => by
  have := valF_ge l (10 * a + (c.toNat - 48))
  rw [List.foldl_cons]
  omega
theorem digit_range {c : UInt8} (h : tDi c = true) : 48 ≤ c.toNat ∧ c.toNat ≤ 57 := by
 have := of_decide_eq_true h
 omega
end Go.Proofs.Ytjllbacefbjjaaa

namespace Go.Proofs.Ytjllbacefbjjaaa
open Go Go.RowKit

theorem not_or3 {a b c : Prop} (ha : ¬ a) (hb : ¬ b) (hc : ¬ c) : ¬ (a ∨ b ∨ c) := fun h => h.elim ha fun h => h.elim hb hc
end Go.Proofs.Ytjllbacefbjjaaa

namespace Go.Proofs.Ytjllbacefbjjaaa
open Go Go.RowKit

def signsL : List (List UInt8) := [[40], [41], [123], [125], [91], [93], [44], [59], [46], [61], [43], [45], [42], [47], [37], [33], [38, 38], [124, 124], [60], [60, 61], [62], [62, 61], [61, 61], [33, 61]]
structure Laid (w : World) : Prop where
 sg : ∀ i (h : i < 24), w.cell? ⟨0, i, none⟩ = some (.string (str (signsL[i]'h)))
 er : ∃ tp p, w.cell? ⟨3, 0, none⟩ = some (.iface tp p)
theorem Laid.below {w w' : World} (h : Laid w) (hb : Below w.heap.size w w') : Laid w' := by
 obtain ⟨tp, p, he⟩ := h.er
 exact ⟨fun i hi => (hb.cell (World.block_lt_of_cell? w _ (h.sg i hi))).trans (h.sg i hi), tp, p, (hb.cell (World.block_lt_of_cell? w _ he)).trans he⟩
theorem pre_take {s l : List UInt8} (h : s.isPrefixOf l = true) : l.take s.length = s := by
 obtain ⟨t, rfl⟩ := List.isPrefixOf_iff_prefix.1 h
 rw [List.take_left]
theorem take_pre (l : List UInt8) (n : Nat) : (l.take n).isPrefixOf l = true := List.isPrefixOf_iff_prefix.2 (List.take_prefix n l)
def NoSg (l : List UInt8) (z j : Nat) : Prop := ∀ i (h : i < 24), i < j → (signsL[i]'h).length = z → (signsL[i]'h).isPrefixOf l = false
theorem NoSg.zero (l : List UInt8) (z : Nat) : NoSg l z 0 := fun _ _ h => absurd h (by omega)
theorem NoSg.next {l : List UInt8} {z j : Nat} (h : NoSg l z j) (hj : j < 24) (hn : (signsL[j]'hj).length = z → (signsL[j]'hj).isPrefixOf l = false) : NoSg l z (j + 1) := fun i hi hlt hl => by
 by_cases e : i = j
 · subst e
   exact hn hl
 · exact h i hi (by omega) hl
end Go.Proofs.Ytjllbacefbjjaaa

namespace Go.Proofs.Ytjllbacefbjjaaa
open Go Go.RowKit

def eT : El Tk where
 e := 77
 sz := 4
 f := fun t => [.int .u8 t.kd, .string (str t.tx), .int .i64 t.nu, .int .i64 (t.ln : Int)]
 len := fun _ => rfl
 one := by
  intro x u hu
  simp at hu
  rcases hu with rfl | rfl | rfl | rfl <;> rfl
 pos := by decide
theorem tokv_info : (Try.prog.info? 77).map (fun i => (i.zero, i.size, i.bytes)) = some (some (.agg #[.int .u8 0, .string ⟨#[]⟩, .int .i64 0, .int .i64 0]), 4, 40) := by kernel_rfl
def ScanR (l : List UInt8) (w : World) (e : Ending) (w' : World) : Prop :=
 Below w.heap.size w w' ∧ ((16384 < l.length ∧ e = .returned (.tuple #[.slice none 0 0, .int .i64 0, .int .i64 11])) ∨ (l.length ≤ 16384 ∧ ((∃ k : Nat, scanP l = .error k ∧ e = .returned (.tuple #[.slice none 0 0, .int .i64 k, .int .i64 6])) ∨ (∃ ts v, scanP l = .ok ts ∧ e = .returned (.tuple #[v, .int .i64 0, .int .i64 0]) ∧ eT.Own w' w.heap.size v ts))))
theorem nl_le (l : List UInt8) : nl l ≤ l.length := List.count_le_length
theorem scan_step {N : Nat} {acc : List Tk} {r : List UInt8} {T : Except Nat (List Tk)} {kd : Int} {s : List UInt8} {nu : Int} (h : appT acc (scanS N r) = T) (ht : tok1 r = some (kd, s, nu)) (hN : nl r ≤ N) :
 s ≠ [] ∧ s.length ≤ r.length ∧ appT (acc ++ [⟨kd, s, nu, N - nl r⟩]) (scanS N (sk false (r.drop s.length))) = T ∧ (sk false (r.drop s.length)).length < r.length ∧ nl (sk false (r.drop s.length)) ≤ N ∧ nl (r.drop s.length) ≤ 1099511627776 + N ∧
  N - nl r + (nl (r.drop s.length) - nl (sk false (r.drop s.length))) = N - nl (sk false (r.drop s.length)) := by
 obtain ⟨h1, h2⟩ := tok1_ok ht
 have h3 := scan_rest h1.ne h2
 have h4 := sk_nl false (r.drop s.length)
 have h5 : nl r = nl (r.drop s.length) := by
  have := congrArg nl h2
  rw [nl_append, nl_zero (tok_nl h1), Nat.zero_add] at this
  exact this
 have h6 : s.length ≤ r.length := by
  have := congrArg List.length h2
  rw [List.length_append] at this
  omega
 refine ⟨h1.ne, h6, ?_, h3, by omega, by omega, by omega⟩
 rw [← h, scanS_some N ht, appT_cons]
end Go.Proofs.Ytjllbacefbjjaaa

namespace Go.Proofs.Ytjllbacefbjjaaa
open Go.RowKit

end Go.Proofs.Ytjllbacefbjjaaa
