/-
  Merged for a claim: S9K.
-/
import Derived.Test.YtbkfkdiadeaooaaGreatHS9J
namespace Go.Proofs.YtbkfkdiadeaooaaGreat
open Go Go.RowKit

/-- spans that may be put -/
def SpnP (r : Rs) : Prop := Sm r.l ∧ (∀ p ∈ r.l, ∀ x ∈ p.a, x.Rng) ∧ rightL r.d = true
def PlcP (a : Int) (p : Pp) : Prop := p.nm.length ≤ 255 ∧ (0 ≤ a ∧ a ≤ p.fr ∧ p.fr ≤ p.tt ∧ p.tt ≤ 16777216) ∧ p.vs.length ≤ 64 ∧ p.ss.length = p.vs.length ∧ (∀ v ∈ p.vs, VarP v.d) ∧ ∀ r ∈ p.ss, SpnP r
theorem encV_len {v : Vr} (h : VarP v) : (encV v).length ≤ 3000 := by
  obtain ⟨h1, h2, _, _, h3, h4⟩ := h
  have a := txs_len h4
  have b := nb10 v.n
  have c := nb10 (v.fs.length : Int)
  unfold encV
  split
  · simp only [List.length_append, List.length_cons, txB]; omega
  · split
    · simp only [List.length_append, List.length_cons, txB] at *; omega
    · simp only [List.length_append, List.length_cons, List.length_nil, txB]; omega
theorem encVS_len {q : Pv × Rs} (h : VarP q.1.d) (h2 : SpnP q.2) : (encVS (prV q)).length ≤ 1003000 := by
  have a := encV_len h
  have b := ownS_len (ps := q.2.l) h2.2.2
  unfold encVS prV
  simp only [List.length_append, Rs.d] at *
  omega
theorem encVSs_len : ∀ {l : List (Pv × Rs)}, (∀ q ∈ l, VarP q.1.d ∧ SpnP q.2) → (l.flatMap (fun q => encVS (prV q))).length ≤ 1003000 * l.length
  | [], _ => by simp
  | q :: l, h => by
    have a := encVS_len (h q List.mem_cons_self).1 (h q List.mem_cons_self).2
    have b := encVSs_len (l := l) (fun p hp => h p (List.mem_cons_of_mem _ hp))
    rw [List.flatMap_cons, List.length_append, List.length_cons]
    omega
theorem zip_mem {α β : Type} {l : List α} {m : List β} {q : α × β} (h : q ∈ l.zip m) : q.1 ∈ l ∧ q.2 ∈ m := by
  obtain ⟨a, b⟩ := q
  exact ⟨(List.of_mem_zip h).1, (List.of_mem_zip h).2⟩
theorem enP9_zip (a : Int) (p : Pp) : enP9 a p.d = txB p.nm ++ (nB false (p.fr - a) ++ (nB false (p.tt - p.fr) ++ (nB false (p.vs.length : Int) ++ (p.vs.zip p.ss).flatMap (fun q => encVS (prV q))))) := by
  unfold enP9 Pp.d
  dsimp only
  rw [List.length_map, List.zip_map, List.flatMap_map]
  rfl
theorem enP9_len {a : Int} {p : Pp} (h : PlcP a p) : (enP9 a p.d).length ≤ 65000000 := by
  obtain ⟨h1, h2, h3, h4, h5, h6⟩ := h
  rw [enP9_zip]
  have a1 := encVSs_len (l := p.vs.zip p.ss) (fun q hq => ⟨h5 _ (zip_mem hq).1, h6 _ (zip_mem hq).2⟩)
  have b1 := nb10 (p.fr - a)
  have b2 := nb10 (p.tt - p.fr)
  have b3 := nb10 (p.vs.length : Int)
  rw [List.length_zip] at a1
  simp only [List.length_append, txB, List.length_cons]
  omega
theorem Own.form9 {w : World} {B : Nat} {v : Value} {l : List UInt8} (h : Own w B v l) : ∃ A c, v = .slice A l.length c ∧ (A = none → c = 0) ∧ Lies w w.heap.size A l ∧ ∀ a, A = some a → B ≤ a.block := by
  rcases h with ⟨rfl, rfl⟩ | ⟨g, r, rfl, hB, hm, hb⟩
  · exact ⟨none, 0, rfl, fun _ => rfl, Lies.empty _ _ _, fun a e => by cases e⟩
  · exact ⟨_, _, rfl, fun e => by (cases e), hb.lies (List.prefix_append l r) hb.lt, fun a e => by injection e with e; subst e; exact hB⟩
theorem lies_gr {w w' : World} {B : Nat} {A : Option Addr} {l : List UInt8} {v v' : Value} (h : Lies w B A l) (hg : Gr w v w' v') (hne : ∀ a, A = some a → some a.block ≠ v.ownBlock) : Lies w' w'.heap.size A l := fun hl => by
  obtain ⟨g, o, e, hgb, hc⟩ := h hl
  have hlt := World.block_lt_of_cell? w _ (hc 0 hl)
  have hs := hg.1.size
  refine ⟨g, o, e, by dsimp only at hlt; omega, fun j hj => (World.cell?_of_block (hg.1.block g hlt (hne _ e))).trans (hc j hj)⟩

set_option maxRecDepth 100000 in
set_option maxHeartbeats 8000000 in
theorem putPlace_any (v : Value) (l : List UInt8) (p : Pp) (a : Int) (w : World) (B : Nat) (hB : B ≤ w.heap.size) (ho : Own w B v l) (hl : l.length ≤ 800000000000) (h : PL w B p) (hp : PlcP a p) :
    Calls Tryz.prog 29 #[v, lV p, .int .i64 a] w (BR B w (l ++ enP9 a p.d)) := by
  have HE := Lib.hid (enP9_zip a p)
  have HSM := Lib.hid (fun k => encVSs_len (l := (p.vs.zip p.ss).take k) (fun q hq => ⟨hp.2.2.2.2.1 _ (zip_mem (List.mem_of_mem_take hq)).1, hp.2.2.2.2.2 _ (zip_mem (List.mem_of_mem_take hq)).2⟩))
  obtain ⟨pnm, fr, tt, vs, vA, vc, ss, sA, sc⟩ := p
  obtain ⟨hnm, ⟨ha0, ha1, ha2, ha3⟩, hvl, hsl, hvp, hsp⟩ := hp
  have hb0 := below_lnew w (.cells (lK ⟨pnm, fr, tt, vs, vA, vc, ss, sA, sc⟩) 49)
  have hf0 := heap_alloc_new w (.cells (lK ⟨pnm, fr, tt, vs, vA, vc, ss, sA, sc⟩) 49)
  unfold lV
  unfold lK tv at hb0 hf0 ⊢
  dsimp only at hb0 hf0 h hnm ha0 ha1 ha2 ha3 hvl hsl hvp hsp HE HSM ⊢
  have HO := Lib.hid ho
  have HVP := Lib.hid hvp
  have HSP := Lib.hid hsp
  have HSL := Lib.hid hsl
  have HPL := Lib.hid h
  clear ho hvp hsp hsl h
  go_enter Tryz.func29, Tryz.ntmps29
  go_upto_region 1 with fail
  obtain ⟨W, hW⟩ : ∃ W, W = w.alloc (.cells #[.string (str pnm), .int .i64 fr, .int .i64 tt, .slice vA vs.length vc, .slice sA ss.length sc] 49) := ⟨_, rfl⟩
  rw [← hW] at hb0 hf0 ⊢
  have hT : HasT W w.heap.size 49 := ⟨_, _, hf0⟩
  obtain ⟨c0, c1, c2, c3, c4⟩ : W.cell? ⟨w.heap.size, 0, none⟩ = some (.string (str pnm)) ∧ W.cell? ⟨w.heap.size, 1, none⟩ = some (.int .i64 fr) ∧ W.cell? ⟨w.heap.size, 2, none⟩ = some (.int .i64 tt) ∧ W.cell? ⟨w.heap.size, 3, none⟩ = some (.slice vA vs.length vc) ∧ W.cell? ⟨w.heap.size, 4, none⟩ = some (.slice sA ss.length sc) := by simp [World.cell?, hf0]
  have C4 := Lib.hid c4
  have HB0 := Lib.hid hb0
  have HT := Lib.hid hT
  have HO0 := Lib.hid (HO.out.below hb0)
  have hBW : B ≤ W.heap.size := Nat.le_trans hB hb0.size
  have htb : (txB pnm).length ≤ 256 := by simp [txB]; omega
  have n1 := nb10 (fr - a)
  have n2 := nb10 (tt - fr)
  have n3 := nb10 (vs.length : Int)
  clear hW hb0 hf0 hT HO
  go_wp2_with fail
  refine (putText9_any v l pnm W B hBW HO0.out (by omega) hnm).mono ?_
  rintro e w1 ⟨v1, rfl, ho1, hb1, ht1, _⟩
  have d1 := (ht1.cell (p := ⟨w.heap.size, 1, none⟩) HT.out (by decide)).trans c1
  have d2 := (ht1.cell (p := ⟨w.heap.size, 2, none⟩) HT.out (by decide)).trans c2
  have d3 := (ht1.cell (p := ⟨w.heap.size, 3, none⟩) HT.out (by decide)).trans c3
  have d4 := (ht1.cell (p := ⟨w.heap.size, 4, none⟩) HT.out (by decide)).trans c4
  have HO1 := Lib.hid ho1
  have HB1 := Lib.hid hb1
  have HT1 := Lib.hid ht1
  have HH1 := Lib.hid (HT.out.same (ht1 _ _ HT.out (by decide)))
  have hz1 : B ≤ w1.heap.size := Nat.le_trans hBW hb1.size
  clear c0 c1 c2 c3 c4 ho1 hb1 ht1 HO0
  go_wp2_with fail
  refine (putNumber_any v1 _ (fr - a) w1 B hz1 HO1.out (by simp only [List.length_append]; omega) (by omega) (by omega)).mono ?_
  rintro e w2 ⟨v2, rfl, ho2, hb2, ht2, _⟩
  have e1 := (ht2.cell (p := ⟨w.heap.size, 1, none⟩) HH1.out (by decide)).trans d1
  have e2 := (ht2.cell (p := ⟨w.heap.size, 2, none⟩) HH1.out (by decide)).trans d2
  have e3 := (ht2.cell (p := ⟨w.heap.size, 3, none⟩) HH1.out (by decide)).trans d3
  have e4 := (ht2.cell (p := ⟨w.heap.size, 4, none⟩) HH1.out (by decide)).trans d4
  have HO2 := Lib.hid ho2
  have HB2 := Lib.hid (HB1.out.trans hb2)
  have HT2 := Lib.hid (HT1.out.trans ht2)
  have HH2 := Lib.hid (HH1.out.same (ht2 _ _ HH1.out (by decide)))
  have hz2 : B ≤ w2.heap.size := Nat.le_trans hz1 hb2.size
  clear d1 d2 d3 d4 ho2 hb2 ht2 HO1 HB1 HT1 HH1
  go_wp2_with fail
  refine (putNumber_any v2 _ (tt - fr) w2 B hz2 HO2.out (by simp only [List.length_append]; omega) (by omega) (by omega)).mono ?_
  rintro e w3 ⟨v3, rfl, ho3, hb3, ht3, _⟩
  have f3 := (ht3.cell (p := ⟨w.heap.size, 3, none⟩) HH2.out (by decide)).trans e3
  have f4 := (ht3.cell (p := ⟨w.heap.size, 4, none⟩) HH2.out (by decide)).trans e4
  have HO3 := Lib.hid ho3
  have HB3 := Lib.hid (HB2.out.trans hb3)
  have HT3 := Lib.hid (HT2.out.trans ht3)
  have HH3 := Lib.hid (HH2.out.same (ht3 _ _ HH2.out (by decide)))
  have hz3 : B ≤ w3.heap.size := Nat.le_trans hz2 hb3.size
  clear e1 e2 e3 e4 ho3 hb3 ht3 HO2 HB2 HT2 HH2
  go_wp2_with fail
  refine (putNumber_any v3 _ (vs.length : Int) w3 B hz3 HO3.out (by simp only [List.length_append]; omega) (by omega) (by omega)).mono ?_
  rintro e w4 ⟨v4, rfl, ho4, hb4, ht4, _⟩
  have g3 := (ht4.cell (p := ⟨w.heap.size, 3, none⟩) HH3.out (by decide)).trans f3
  have g4 := (ht4.cell (p := ⟨w.heap.size, 4, none⟩) HH3.out (by decide)).trans f4
  have HB4 := Lib.hid (HB3.out.trans hb4)
  have HT4 := Lib.hid (HT3.out.trans ht4)
  have hz4 : B ≤ w4.heap.size := Nat.le_trans hz3 hb4.size
  obtain ⟨m, hm⟩ : ∃ m, m = l ++ txB pnm ++ nB false (fr - a) ++ nB false (tt - fr) ++ nB false (vs.length : Int) := ⟨_, rfl⟩
  rw [← hm] at ho4
  have hml : m.length ≤ 800000001000 := by rw [hm]; simp only [List.length_append]; omega
  have HM := Lib.hid hm
  have HO4 := Lib.hid (show Own w4 B v4 (m ++ ((vs.zip ss).take 0).flatMap (fun q => encVS (prV q))) by simpa using ho4)
  clear f3 f4 ho4 hb4 ht4 HO3 HB3 HT3 HH3 hm n1 n2 n3 htb
  go_wp2_with fail
  go_loopw [0, 36] (fun b i wr => ∃ k : Nat, k ≤ vs.length ∧ i = .int .i64 k ∧ Hid (Own wr B b (m ++ ((vs.zip ss).take k).flatMap (fun q => encVS (prV q)))) ∧ Hid (Below B W wr) ∧ Hid (ButT 5 W wr)) (fun _ i _ => vs.length - (intOf i).toNat)
  case atStart => exact ⟨0, by omega, rfl, HO4, HB4, HT4⟩
  case round =>
    obtain ⟨k, hk, rfl, hO, hBb, hTt⟩ := hrel
    clear HO4 HB4 HT4
    by_cases hlt : k < vs.length
    · have hks : k < ss.length := by rw [HSL.out]; exact hlt
      have hsz : k < (vs.zip ss).length := by rw [List.length_zip]; omega
      have hBw := (HB0.out.mono hB).trans hBb.out
      obtain ⟨g, o, e1, hg, x0, x1, x2, x3, x4, x5⟩ := eV_at (HPL.out.v.below hBw) hlt
      obtain ⟨g2, o2, e2, hg2, y0⟩ := eR_at (HPL.out.s.below hBw) hks
      have hvx := (HPL.out.vs _ (List.getElem_mem hlt)).below hBw
      have hry := (HPL.out.ss _ (List.getElem_mem hks)).below hBw
      have HVX := Lib.hid (HVP.out _ (List.getElem_mem hlt))
      have HSY := Lib.hid (HSP.out _ (List.getElem_mem hks))
      have HTK := Lib.hid (show (vs.zip ss).take (k + 1) = (vs.zip ss).take k ++ [(vs[k], ss[k])] from by rw [← List.take_append_getElem hsz, List.getElem_zip])
      have hln := HSM.out k
      rw [List.length_take] at hln
      have hlk : (((vs.zip ss).take k).flatMap (fun q => encVS (prV q))).length ≤ 1003000 * 64 := by omega
      have hcv : k < vc := by have := HPL.out.vc.1; dsimp only at this; omega
      have hcs : k < sc := by have := HPL.out.sc.1; dsimp only at this; omega
      dsimp only at e1 e2
      subst e1
      subst e2
      generalize vs[k] = x at *
      generalize ss[k] = y at *
      have hwz : B ≤ wr.heap.size := Nat.le_trans hBW hBb.out.size
      have j4 := (hTt.out.cell (p := ⟨w.heap.size, 4, none⟩) HT.out (by decide)).trans C4.out
      have hb2 := below_lnew wr (.cells (vK x) 67)
      have HTr := Lib.hid (HT.out.same (hTt.out _ _ HT.out (by decide)))
      obtain ⟨⟨xnm, xkd, xn, xtn, xwd, xfs⟩, xA, xc⟩ := x
      obtain ⟨yl, yA, yc⟩ := y
      unfold vK tv at hb2
      dsimp only at hb2 x0 x1 x2 x3 x4 x5 y0
      go_upto_region 8 with fail
      obtain ⟨W2, hW2⟩ : ∃ W2, W2 = wr.alloc (.cells #[.string (str xnm), .int .u8 xkd, .int .i64 xn, .string (str xtn), .int .i64 xwd, .slice xA xfs.length xc] 67) := ⟨_, rfl⟩
      have hzz : wr.heap.size < W2.heap.size := by rw [hW2]; simp
      rw [← hW2] at hb2 ⊢
      have f0 := heap_alloc_new wr (.cells #[.string (str xnm), .int .u8 xkd, .int .i64 xn, .string (str xtn), .int .i64 xwd, .slice xA xfs.length xc] 67)
      rw [← hW2] at f0
      obtain ⟨v0, v1', v2', v3', v4', v5⟩ : W2.cell? ⟨wr.heap.size, 0, none⟩ = some (.string (str xnm)) ∧ W2.cell? ⟨wr.heap.size, 1, none⟩ = some (.int .u8 xkd) ∧ W2.cell? ⟨wr.heap.size, 2, none⟩ = some (.int .i64 xn) ∧ W2.cell? ⟨wr.heap.size, 3, none⟩ = some (.string (str xtn)) ∧ W2.cell? ⟨wr.heap.size, 4, none⟩ = some (.int .i64 xwd) ∧ W2.cell? ⟨wr.heap.size, 5, none⟩ = some (.slice xA xfs.length xc) := by
        simp [World.cell?, f0]
      have k4 := (hb2.cell (p := ⟨w.heap.size, 4, none⟩) HTr.out.lt).trans j4
      have t0 := (hb2.cell (p := ⟨g2, o2 + k, none⟩) (by dsimp only; omega)).trans y0
      have hput := put7_any yA none yc 0 [] yl W2 (fun _ => rfl) HSY.out.1 HSY.out.2.1 (by simp) (Lies.empty _ _ _) ((hry.1.below (hb2.mono hwz)).more (by omega))
      simp only [List.length_nil] at hput
      have HPUT := Lib.hid hput
      have HO2' := Lib.hid (hO.out.below hb2)
      have HVX2 := Lib.hid (hvx.below (hb2.mono hwz))
      have HB2' := Lib.hid (hBb.out.trans (hb2.mono hwz))
      have HT2' := Lib.hid (hTt.out.trans (ButT.below hb2))
      have hzB : B ≤ W2.heap.size := by omega
      clear hW2 f0 hput hvx hry j4 y0 x0 x1 x2 x3 x4 x5 hb2
      go_wp2_with fail
      refine HPUT.out.mono ?_
      rintro e w5 ⟨yv, rfl, hyo, hb5⟩
      rw [(ptS_yes (b := []) (xs := yl.map Ps.sp) HSY.out.2.2).2, List.nil_append] at hyo
      obtain ⟨Ay, cy, rfl, hcy, hly, hgy⟩ := hyo.form9
      have r0 := (hb5.cell (p := ⟨wr.heap.size, 0, none⟩) hzz).trans v0
      have r1 := (hb5.cell (p := ⟨wr.heap.size, 1, none⟩) hzz).trans v1'
      have r2 := (hb5.cell (p := ⟨wr.heap.size, 2, none⟩) hzz).trans v2'
      have r3 := (hb5.cell (p := ⟨wr.heap.size, 3, none⟩) hzz).trans v3'
      have r4 := (hb5.cell (p := ⟨wr.heap.size, 4, none⟩) hzz).trans v4'
      have r5 := (hb5.cell (p := ⟨wr.heap.size, 5, none⟩) hzz).trans v5
      have hz5 : B ≤ w5.heap.size := Nat.le_trans hzB hb5.size
      have hvr := putVar_any _ _ ⟨⟨xnm, xkd, xn, xtn, xwd, xfs⟩, xA, xc⟩ w5 B hz5 (HO2'.out.below hb5) (by simp only [List.length_append]; omega) (HVX2.out.below (hb5.mono hzB)) HVX.out
      unfold vV vK tv at hvr
      dsimp only at hvr
      have HVR := Lib.hid hvr
      have HLY := Lib.hid hly
      have HGY := Lib.hid hgy
      have HCY := Lib.hid hcy
      have HB5 := Lib.hid (HB2'.out.trans (hb5.mono hzB))
      have HT5 := Lib.hid (HT2'.out.trans (ButT.below hb5))
      have hos := ownS_len (ps := yl) HSY.out.2.2
      have hev := encV_len HVX.out
      clear v0 v1' v2' v3' v4' v5 k4 t0 hvr hly hgy hcy hyo hb5 HPUT
      go_wp2_with fail
      refine HVR.out.mono ?_
      rintro e w6 ⟨v6, rfl, ho6, hb6, ht6, hr6⟩
      have HO6 := Lib.hid ho6
      have HL6 := Lib.hid (lies_gr HLY.out hr6 (fun a ea q => by have := (hO.out.lt _ q.symm).2; have := HGY.out a ea; omega))
      have HB6 := Lib.hid (HB5.out.trans hb6)
      have HT6 := Lib.hid (HT5.out.trans ht6)
      have hz6 : B ≤ w6.heap.size := Nat.le_trans hz5 hb6.size
      clear r0 r1 r2 r3 r4 r5 ho6 hb6 ht6 hr6 HVR
      go_wp2_with (at_builtin
                   refine app_9 _ rfl (.tmp 52) (.tmp 53) rfl B v6 _ rfl HO6.out Ay cy w6.heap.size (ownS (yl.map Ps.sp)) rfl HCY.out HL6.out (by simp only [List.length_append]; omega) hz6 ?_
                   intro v7 w7 ho7 hr7
                   have HB7 := Lib.hid (HB6.out.trans (hr7.below HO6.out hz6))
                   have HT7 := Lib.hid (HT6.out.trans (hr7.but HO6.out))
                   have HO7 := Lib.hid ho7
                   clear ho7 hr7)
      go_roundw
      case rel => exact ⟨k + 1, by omega, by go_num, by rw [HTK.out, List.flatMap_append, ← List.append_assoc]; simpa [encVS, prV, Rs.d, List.append_assoc] using HO7, HB7, HT7⟩
      case measure => simp [intOf]; omega
    · have hki : (vs.length : Int) ≤ k := by omega
      have hx0 := hO.out
      rw [List.take_of_length_le (by rw [List.length_zip]; omega), HM.out] at hx0
      have HX := Lib.hid hx0
      clear hO hx0
      go_wp2_with fail
      go_ret
      exact ⟨_, rfl, by rw [HE.out]; simpa [List.append_assoc] using HX.out, (HB0.out.mono hB).trans hBb.out, (ButT.below HB0.out).trans hTt.out⟩
end Go.Proofs.YtbkfkdiadeaooaaGreat
