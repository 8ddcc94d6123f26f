/-
  Merged for a claim: S1O.
-/
import Derived.Test.YtcgohlooelojfaaJS1N
import Derived.Test.YtcgohlooelojfaaJS1I
namespace Go.Proofs.Ytcgohlooelojfaa
open Go Go.RowKit

theorem row_below {α : Type} {K : El α} {W Z : World} {A : Option Addr} {xs : List α} (h : K.LiesT W A xs) (hb : Below W.heap.size W Z) : K.LiesT Z A xs := lies_eq h fun g ht => hb.block g ht.lt
theorem map_len {α β γ : Type} {f : α → γ} {g : β → γ} {l : List α} {k : List β} (h : l.map f = k.map g) : k.length = l.length := by
  have := congrArg List.length h
  rw [List.length_map, List.length_map] at this
  exact this.symm
theorem map_at {α β γ : Type} {f : α → γ} {g : β → γ} {l : List α} {k : List β} (h : l.map f = k.map g) (j : Nat) (hj : j < l.length) (hj2 : j < k.length) : f l[j] = g k[j] := by
  have := congrArg (fun q => q[j]?) h
  simpa [hj, hj2] using this
set_option maxRecDepth 100000 in
set_option maxHeartbeats 16000000 in
theorem same12_any (P Q : Nat → Prop) (m q : PgM) (w : World) (h1 : m.Ok w P) (h2 : q.Ok w Q) (h3 : m.d = q.d) (h4 : m.d.few) :
    Calls Try.prog 11 #[.agg m.cs.toArray, .agg q.cs.toArray] w (fun e w' => e = .returned (.bool true) ∧ Below w.heap.size w w') := by
  obtain ⟨A1, c1, ss, A2, c2, fs⟩ := m
  obtain ⟨B1, d1, ss2, B2, d2, fs2⟩ := q
  injection h3 with e1 e2
  dsimp only at e1 e2
  have HS := Lib.hid e1
  have HD := Lib.hid e2
  have hl1 := map_len e1
  have hl2 := map_len e2
  have HL1 := Lib.hid hl1
  have HL2 := Lib.hid hl2
  obtain ⟨k1, k2, k3, k4⟩ := h1
  obtain ⟨q1, q2, q3, q4⟩ := h2
  obtain ⟨f1, f2, f3⟩ := h4
  dsimp only at k1 k2 k3 k4 q1 q2 q3 q4
  have hn1 : ss.length ≤ 1000000 := by simp [PgM.d, mostT] at f1; omega
  have hn2 : fs.length ≤ 1000000 := by simp [PgM.d, mostT] at f1; omega
  have HF2 := Lib.hid (show ∀ s ∈ ss, s.fs.length ≤ 1000000 from fun s h => f2 s.d (List.mem_map.2 ⟨s, h, rfl⟩))
  have HF3 := Lib.hid (show ∀ d ∈ fs, d.ps.length ≤ 1000000 ∧ stsF (xssd d.bd) from fun s h => f3 s.d (List.mem_map.2 ⟨s, h, rfl⟩))
  have hal := below_al2 w (.cells #[.slice A1 ss.length c1, .slice A2 fs.length c2] 27) (.cells #[.slice B1 ss.length d1, .slice B2 fs.length d2] 27)
  have K1 := Lib.hid (row_below k1.1 hal)
  have K2 := Lib.hid (row_below k2.1 hal)
  have K3 := Lib.hid (show ∀ s ∈ ss, s.Ok _ P from fun s h => (k3 s h).keep (fun g _ ht => hal.block g ht.lt) (fun _ q => q))
  have K4 := Lib.hid (show ∀ s ∈ fs, s.Ok _ P from fun s h => (k4 s h).keep (fun g _ ht => hal.block g ht.lt) (fun g _ ht => hal.block g ht.lt) (fun g _ ht => hal.block g ht.lt) (fun _ q => q))
  have Q1 := Lib.hid (row_below q1.1 hal)
  have Q2 := Lib.hid (row_below q2.1 hal)
  have Q3 := Lib.hid (show ∀ s ∈ ss2, s.Ok _ Q from fun s h => (q3 s h).keep (fun g _ ht => hal.block g ht.lt) (fun _ q => q))
  have Q4 := Lib.hid (show ∀ s ∈ fs2, s.Ok _ Q from fun s h => (q4 s h).keep (fun g _ ht => hal.block g ht.lt) (fun g _ ht => hal.block g ht.lt) (fun g _ ht => hal.block g ht.lt) (fun _ q => q))
  have HC1 := Lib.hid (show CAt ((w.alloc (.cells #[.slice A1 ss.length c1, .slice A2 fs.length c2] 27)).alloc (.cells #[.slice B1 ss.length d1, .slice B2 fs.length d2] 27)) w.heap.size 27 [.slice A1 ss.length c1, .slice A2 fs.length c2] from ((below_lnew _ _).block w.heap.size (by simp)).trans (heap_alloc_new w _))
  have HC2 := Lib.hid (show CAt ((w.alloc (.cells #[.slice A1 ss.length c1, .slice A2 fs.length c2] 27)).alloc (.cells #[.slice B1 ss.length d1, .slice B2 fs.length d2] 27)) (w.heap.size + 1) 27 [.slice B1 ss.length d1, .slice B2 fs.length d2] from new_at _ _ (by simp) _)
  have HAL := Lib.hid hal
  unfold PgM.cs
  dsimp only
  rw [hl1, hl2]
  clear e1 e2 hl1 hl2 k1 k2 k3 k4 q1 q2 q3 q4 f1 f2 f3 hal
  go_enter Try.func11, Try.ntmps11
  go_wp2_with fail
  generalize hg2 : w.heap.size + 1 = b2 at *
  generalize hg1 : w.heap.size = b1 at *
  obtain ⟨W0, hW0⟩ : ∃ W0, (w.alloc (.cells #[.slice A1 ss.length c1, .slice A2 fs.length c2] 27)).alloc (.cells #[.slice B1 ss.length d1, .slice B2 fs.length d2] 27) = W0 := ⟨_, rfl⟩
  rw [hW0] at K1 K2 K3 K4 Q1 Q2 Q3 Q4 HC1 HC2 HAL ⊢
  have HG := Lib.hid hg1
  clear hW0 hg1 hg2
  have HBX := Lib.hid (show ∀ W, Below W0.heap.size W0 W → W.cell? ⟨b1, 0, none⟩ = some (.slice A1 ss.length c1) ∧ W.cell? ⟨b1, 1, none⟩ = some (.slice A2 fs.length c2) ∧ W.cell? ⟨b2, 0, none⟩ = some (.slice B1 ss.length d1) ∧ W.cell? ⟨b2, 1, none⟩ = some (.slice B2 fs.length d2) from
    fun W hb => ⟨(HC1.out.below hb HC1.out.lt).cell (j := 0) (by simp), (HC1.out.below hb HC1.out.lt).cell (j := 1) (by simp), (HC2.out.below hb HC2.out.lt).cell (j := 0) (by simp), (HC2.out.below hb HC2.out.lt).cell (j := 1) (by simp)⟩)
  go_loopw [5] (fun i wr => ∃ k : Nat, k ≤ ss.length ∧ i = .int .i64 k ∧ Hid (Below W0.heap.size W0 wr)) (fun i _ => ss.length - (intOf i).toNat)
  case atStart => exact ⟨0, by omega, rfl, Below.refl _ _⟩
  case round =>
    obtain ⟨k, hk, rfl, hB⟩ := hrel
    by_cases hlt : k < ss.length
    · have hlt2 : k < ss2.length := by rw [HL1.out]; exact hlt
      have hd := map_at HS.out k hlt hlt2
      have hko := K3.out _ (List.getElem_mem hlt)
      have hqo := Q3.out _ (List.getElem_mem hlt2)
      have hfl := HF2.out _ (List.getElem_mem hlt)
      obtain ⟨g, o, rfl, hg, hcx⟩ := K1.out.lies.at_ hlt
      obtain ⟨g2, o2, rfl, hg2, hcy⟩ := Q1.out.lies.at_ hlt2
      generalize ss[k] = s at *
      generalize ss2[k] = t at *
      obtain ⟨nm, fA, fc, fl⟩ := s
      obtain ⟨nm2, fB, fc2, fl2⟩ := t
      injection hd with e1 e2
      dsimp only at e1 e2 hfl
      subst e1 e2
      have a0 := hcx 0 _ rfl
      have a1 := hcx 1 _ rfl
      have b0 := hcy 0 _ rfl
      have b1' := hcy 1 _ rfl
      simp only [Nat.add_zero, show eSc.sz = 2 from rfl] at a0 a1 b0 b1'
      have FX := Lib.hid (show ∀ W, Below W0.heap.size W0 W → W.cell? ⟨g, o + k * 2, none⟩ = some (.string (str nm)) ∧ W.cell? ⟨g, o + k * 2 + 1, none⟩ = some (.slice fA fl.length fc) ∧ W.cell? ⟨g2, o2 + k * 2, none⟩ = some (.string (str nm)) ∧ W.cell? ⟨g2, o2 + k * 2 + 1, none⟩ = some (.slice fB fl.length fc2) from
        fun W hb => ⟨(hb.cell (p := ⟨g, _, none⟩) hg).trans a0, (hb.cell (p := ⟨g, _, none⟩) hg).trans a1, (hb.cell (p := ⟨g2, _, none⟩) hg2).trans b0, (hb.cell (p := ⟨g2, _, none⟩) hg2).trans b1'⟩)
      have HR1 := Lib.hid (show eSr.LiesT W0 fA fl from hko.1)
      have HR2 := Lib.hid (show eSr.LiesT W0 fB fl from hqo.1)
      have hki : (k : Int) < (ss.length : Int) := by omega
      clear hcx hcy hko hqo a0 a1 b0 b1' hlt2
      obtain ⟨x1, x2, x3, x4⟩ := HBX.out _ hB.out
      obtain ⟨y1, y2, y3, y4⟩ := FX.out _ hB.out
      go_wp2_with fail
      go_quiet (fail)
      have HB2 := Lib.hid (hB.out.trans ((below_draws nq).mono hB.out.size) : Below W0.heap.size W0 (wr.drewN nq))
      clear x1 x2 x3 x4 y1 y2 y3 y4
      go_wp2_with fail
      go_loopw [6] (fun i wr => ∃ j : Nat, j ≤ fl.length ∧ i = .int .i64 j ∧ Hid (Below W0.heap.size W0 wr)) (fun i _ => fl.length - (intOf i).toNat)
      case atStart => exact ⟨0, by omega, rfl, HB2⟩
      case round =>
        obtain ⟨j, hj, rfl, hB3⟩ := hrel
        obtain ⟨wq, rfl⟩ : ∃ z, z = wr := ⟨_, rfl⟩
        obtain ⟨x1, x2, x3, x4⟩ := HBX.out _ hB3.out
        obtain ⟨y1, y2, y3, y4⟩ := FX.out _ hB3.out
        by_cases hlj : j < fl.length
        · obtain ⟨gf, of_, rfl, hgf, hcf⟩ := HR1.out.lies.at_ hlj
          obtain ⟨gf2, of2, rfl, hgf2, hcf2⟩ := HR2.out.lies.at_ hlj
          have z1 := (hB3.out.cell (p := ⟨gf, _, none⟩) hgf).trans (hcf 0 _ rfl)
          have z2 := (hB3.out.cell (p := ⟨gf2, _, none⟩) hgf2).trans (hcf2 0 _ rfl)
          simp only [Nat.add_zero, show eSr.sz = 1 from rfl, Nat.mul_one] at z1 z2
          have hji : (j : Int) < (fl.length : Int) := by omega
          clear hcf hcf2
          go_wp2_with fail
          go_quiet (fail)
          have HB4 := Lib.hid (hB3.out.trans ((below_draws nq).mono hB3.out.size) : Below W0.heap.size W0 (wq.drewN nq))
          go_wp2_with fail
          exact ⟨⟨j + 1, by omega, by go_num, HB4⟩, by simp [intOf]; omega⟩
        · obtain rfl : j = fl.length := by omega
          go_wp2_with fail
          exact ⟨⟨k + 1, by omega, by go_num, hB3⟩, by simp [intOf]; omega⟩
    · obtain rfl : k = ss.length := by omega
      obtain ⟨x1, x2, x3, x4⟩ := HBX.out _ hB.out
      go_wp2_with fail
      have HB5 := Lib.hid hB.out
      clear x1 x2 x3 x4
      go_loopw [7] (fun i wr => ∃ k : Nat, k ≤ fs.length ∧ i = .int .i64 k ∧ Hid (Below W0.heap.size W0 wr)) (fun i _ => fs.length - (intOf i).toNat)
      case atStart => exact ⟨0, by omega, rfl, HB5⟩
      case round =>
        clear hB HB5
        obtain ⟨k, hk, rfl, hB⟩ := hrel
        obtain ⟨wq, rfl⟩ : ∃ z, z = wr := ⟨_, rfl⟩
        by_cases hlt : k < fs.length
        · obtain ⟨x1, x2, x3, x4⟩ := HBX.out _ hB.out
          have hlt2 : k < fs2.length := by rw [HL2.out]; exact hlt
          have hd := map_at HD.out k hlt hlt2
          have hko := K4.out _ (List.getElem_mem hlt)
          have hqo := Q4.out _ (List.getElem_mem hlt2)
          have hfl := HF3.out _ (List.getElem_mem hlt)
          obtain ⟨g, o, rfl, hg, hcx⟩ := K2.out.lies.at_ hlt
          obtain ⟨g2, o2, rfl, hg2, hcy⟩ := Q2.out.lies.at_ hlt2
          generalize fs[k] = s at *
          generalize fs2[k] = t at *
          obtain ⟨nm, ln, pA, pc, ps, ⟨tk, tn, tm⟩, bA, bc, bd⟩ := s
          obtain ⟨nm2, ln2, pB, pc2, ps2, ⟨tk2, tn2, tm2⟩, bB, bc2, bd2⟩ := t
          injection hd with e1 e2 e3 e4 e5
          injection e4 with e41 e42 e43
          dsimp only at e1 e2 e3 e5 e41 e42 e43 hfl
          subst e1 e2 e3 e41 e42 e43
          have l1 : bd2.length = bd.length := by
            have := congrArg List.length e5
            rw [xssd_map, xssd_map, List.length_map, List.length_map] at this
            exact this.symm
          have HR1 := Lib.hid (show ePm.LiesT W0 pA ps from hko.1.1)
          have HR2 := Lib.hid (show ePm.LiesT W0 pB ps from hqo.1.1)
          have HSS := Lib.hid (fun W (hb : Below W0.heap.size W0 W) => sameStmts_any P Q bd bd2 bA bB bc bc2 W (row_below hko.2.1.1 hb) (row_below hqo.2.1.1 hb) (xssOk.keep (fun g _ ht => hb.block g ht.lt) (fun g _ ht => hb.block g ht.lt) (fun _ q => q) _ hko.2.2) (xssOk.keep (fun g _ ht => hb.block g ht.lt) (fun g _ ht => hb.block g ht.lt) (fun _ q => q) _ hqo.2.2) e5 hfl.2)
          rw [l1] at HSS
          have hps := hfl.1
          have d0 := (hB.out.cell (p := ⟨g, _, none⟩) hg).trans (hcx 0 _ rfl)
          have f0 := (hB.out.cell (p := ⟨g2, _, none⟩) hg2).trans (hcy 0 _ rfl)
          have d1 := (hB.out.cell (p := ⟨g, _, none⟩) hg).trans (hcx 1 _ rfl)
          have f1 := (hB.out.cell (p := ⟨g2, _, none⟩) hg2).trans (hcy 1 _ rfl)
          have d2 := (hB.out.cell (p := ⟨g, _, none⟩) hg).trans (hcx 2 _ rfl)
          have f2 := (hB.out.cell (p := ⟨g2, _, none⟩) hg2).trans (hcy 2 _ rfl)
          have d3 := (hB.out.cell (p := ⟨g, _, none⟩) hg).trans (hcx 3 _ rfl)
          have f3 := (hB.out.cell (p := ⟨g2, _, none⟩) hg2).trans (hcy 3 _ rfl)
          have d4 := (hB.out.cell (p := ⟨g, _, none⟩) hg).trans (hcx 4 _ rfl)
          have f4 := (hB.out.cell (p := ⟨g2, _, none⟩) hg2).trans (hcy 4 _ rfl)
          have d5 := (hB.out.cell (p := ⟨g, _, none⟩) hg).trans (hcx 5 _ rfl)
          have f5 := (hB.out.cell (p := ⟨g2, _, none⟩) hg2).trans (hcy 5 _ rfl)
          have d6 := (hB.out.cell (p := ⟨g, _, none⟩) hg).trans (hcx 6 _ rfl)
          have f6 := (hB.out.cell (p := ⟨g2, _, none⟩) hg2).trans (hcy 6 _ rfl)
          simp only [Nat.add_zero, show eDc.sz = 7 from rfl, l1] at d0 f0 d1 f1 d2 f2 d3 f3 d4 f4 d5 f5 d6 f6
          have hki : (k : Int) < (fs.length : Int) := by omega
          have hbs := hB.out.size
          have hb1l : b1 < wq.heap.size := Nat.lt_of_lt_of_le HC1.out.lt hbs
          have hb2l : b2 < wq.heap.size := Nat.lt_of_lt_of_le HC2.out.lt hbs
          have hgl : g < wq.heap.size := Nat.lt_of_lt_of_le hg hbs
          have hg2l : g2 < wq.heap.size := Nat.lt_of_lt_of_le hg2 hbs
          clear hbs
          have hal := below_al2 wq (.cells #[.string (str nm), .int .i64 ln, .slice pA ps.length pc, .int .u8 tk, .int .i64 tn, .string (str tm), .slice bA bd.length bc] 50) (.cells #[.string (str nm), .int .i64 ln, .slice pB ps.length pc2, .int .u8 tk, .int .i64 tn, .string (str tm), .slice bB bd.length bc2] 50)
          have HC3 := Lib.hid (show CAt ((wq.alloc (.cells #[.string (str nm), .int .i64 ln, .slice pA ps.length pc, .int .u8 tk, .int .i64 tn, .string (str tm), .slice bA bd.length bc] 50)).alloc (.cells #[.string (str nm), .int .i64 ln, .slice pB ps.length pc2, .int .u8 tk, .int .i64 tn, .string (str tm), .slice bB bd.length bc2] 50)) wq.heap.size 50 [.string (str nm), .int .i64 ln, .slice pA ps.length pc, .int .u8 tk, .int .i64 tn, .string (str tm), .slice bA bd.length bc] from ((below_lnew _ _).block wq.heap.size (by simp)).trans (heap_alloc_new wq _))
          have HC4 := Lib.hid (show CAt ((wq.alloc (.cells #[.string (str nm), .int .i64 ln, .slice pA ps.length pc, .int .u8 tk, .int .i64 tn, .string (str tm), .slice bA bd.length bc] 50)).alloc (.cells #[.string (str nm), .int .i64 ln, .slice pB ps.length pc2, .int .u8 tk, .int .i64 tn, .string (str tm), .slice bB bd.length bc2] 50)) (wq.heap.size + 1) 50 [.string (str nm), .int .i64 ln, .slice pB ps.length pc2, .int .u8 tk, .int .i64 tn, .string (str tm), .slice bB bd.length bc2] from new_at _ _ (by simp) _)
          have HBA := Lib.hid (hB.out.trans (hal.mono hB.out.size))
          clear hcx hcy hko hqo hfl e5 hal hlt2
          go_wp2_with fail
          refine (HSS.out _ HBA.out).mono ?_
          rintro e w2 ⟨rfl, hb2⟩
          have HB2 := Lib.hid (HBA.out.trans (hb2.mono HBA.out.size))
          have HX2 := Lib.hid (show ∀ W, Below w2.heap.size w2 W → W.cell? ⟨wq.heap.size, 2, none⟩ = some (.slice pA ps.length pc) ∧ W.cell? ⟨wq.heap.size + 1, 2, none⟩ = some (.slice pB ps.length pc2) from
            fun W hb => ⟨((HC3.out.below hb2 HC3.out.lt).below hb (Nat.lt_of_lt_of_le HC3.out.lt hb2.size)).cell (j := 2) (by simp), ((HC4.out.below hb2 HC4.out.lt).below hb (Nat.lt_of_lt_of_le HC4.out.lt hb2.size)).cell (j := 2) (by simp)⟩)
          clear hb2 HSS HC3 HC4 x1 x2 x3 x4 d0 f0 d1 f1 d2 f2 d3 f3 d4 f4 d5 f5 d6 f6
          go_wp2_with fail
          go_loopw [10] (fun i wr => ∃ j : Nat, j ≤ ps.length ∧ i = .int .i64 j ∧ Hid (Below w2.heap.size w2 wr)) (fun i _ => ps.length - (intOf i).toNat)
          case atStart => exact ⟨0, by omega, rfl, Below.refl _ _⟩
          case round =>
            obtain ⟨j, hj, rfl, hB3⟩ := hrel
            obtain ⟨w3, rfl⟩ : ∃ z, z = wr := ⟨_, rfl⟩
            obtain ⟨y1, y2⟩ := HX2.out _ hB3.out
            have HB03 := Lib.hid (HB2.out.trans (hB3.out.mono HB2.out.size))
            by_cases hlj : j < ps.length
            · obtain ⟨gf, of_, rfl, hgf, hcf⟩ := HR1.out.lies.at_ hlj
              obtain ⟨gf2, of2, rfl, hgf2, hcf2⟩ := HR2.out.lies.at_ hlj
              generalize ps[j] = pp at *
              obtain ⟨pn, ⟨pk, pm, pt⟩⟩ := pp
              have p0 := (HB03.out.cell (p := ⟨gf, _, none⟩) hgf).trans (hcf 0 _ rfl)
              have r0 := (HB03.out.cell (p := ⟨gf2, _, none⟩) hgf2).trans (hcf2 0 _ rfl)
              have p1 := (HB03.out.cell (p := ⟨gf, _, none⟩) hgf).trans (hcf 1 _ rfl)
              have r1 := (HB03.out.cell (p := ⟨gf2, _, none⟩) hgf2).trans (hcf2 1 _ rfl)
              have p2 := (HB03.out.cell (p := ⟨gf, _, none⟩) hgf).trans (hcf 2 _ rfl)
              have r2 := (HB03.out.cell (p := ⟨gf2, _, none⟩) hgf2).trans (hcf2 2 _ rfl)
              have p3 := (HB03.out.cell (p := ⟨gf, _, none⟩) hgf).trans (hcf 3 _ rfl)
              have r3 := (HB03.out.cell (p := ⟨gf2, _, none⟩) hgf2).trans (hcf2 3 _ rfl)
              simp only [Nat.add_zero, show ePm.sz = 4 from rfl] at p0 r0 p1 r1 p2 r2 p3 r3
              have hji : (j : Int) < (ps.length : Int) := by omega
              clear hcf hcf2
              go_wp2_with fail
              go_quiet (fail)
              have HB4 := Lib.hid (hB3.out.trans ((below_draws nq).mono hB3.out.size) : Below w2.heap.size w2 (w3.drewN nq))
              go_wp2_with fail
              exact ⟨⟨j + 1, by omega, by go_num, HB4⟩, by simp [intOf]; omega⟩
            · obtain rfl : j = ps.length := by omega
              go_wp2_with fail
              exact ⟨⟨k + 1, by omega, by go_num, HB03⟩, by simp [intOf]; omega⟩
        · obtain rfl : k = fs.length := by omega
          obtain ⟨x1, x2, x3, x4⟩ := HBX.out _ hB.out
          go_wp2_with fail
          go_ret
          exact ⟨rfl, by rw [HG.out]; exact HAL.out.trans (hB.out.mono (by rw [← HG.out]; exact HAL.out.size))⟩
end Go.Proofs.Ytcgohlooelojfaa
