/-
  Merged for a claim: S0I.
-/
import Derived.Test.YtjllbacefbjjaaaZS0H
import Derived.Deep.CutRange
namespace Go.Proofs.Ytjllbacefbjjaaa
open Go Go.RowKit

section
variable {w W : World} {gp : Nat} {A : Option Addr} {c : Nat} {l u : List To} {m mc : LvM} {rest : List LvM} {rows : List XS}
theorem lvFrozen {gv cv : Nat} (h : BlZ w gp A c l (.slice (some ⟨gv, 0, none⟩) (rest.length + 1) cv) mc rows m rest W u) : W.frozen? ⟨gv, rest.length * 2, none⟩ = false := by
 have hlr : rest.reverse.length = rest.length := by simp
 have hro : eLv.Own W w.heap.size (.slice (some ⟨gv, 0, none⟩) (rest.reverse.length + 1) cv) (rest.reverse ++ [mc]) := by rw [hlr]; exact h.r
 exact El.Own.lastFrozen hro _
set_option maxRecDepth 100000 in
set_option maxHeartbeats 16000000 in
theorem add_any (HST : ∀ (W : World) (u : List To), Ps W gp A c l u → Calls Try.prog 77 #[.pointer (some ⟨gp, 0, none⟩)] W (StR W gp A c l (hdS u)))
 {gv cv : Nat} (h : BlZ w gp A c l (.slice (some ⟨gv, 0, none⟩) (rest.length + 1) cv) m m.xs m rest W u) (hne : ∀ b ∈ rest, b.xs ≠ []) :
 Calls Try.prog 73 #[.pointer (some ⟨gp, 0, none⟩), .slice (some ⟨gv, 0, none⟩) (rest.length + 1) cv] W (BlR w gp A c l (addP m.d (rest.map LvM.d) u)) := by
 obtain ⟨r, hr⟩ : ∃ r, addP m.d (rest.map LvM.d) u = r := ⟨_, rfl⟩
 rw [hr]
 have HR := Lib.hid hr.symm
 unfold addP at HR
 rw [← hdS_hdP] at HR
 have H0 := Lib.hid h
 have HS := Lib.hid (HST W u h.p)
 have hrl : rest.length ≤ 1000000 := by
  have h1 := h.n.2.2
  have h2 := h.p.n
  omega
 have hwR : IntKind.i64.wrap (rest.length : Int) = (rest.length : Int) := by rw [IntKind.wrap_i64]; omega
 have hR0 : (0 : Int) ≤ (rest.length : Int) := by omega
 have hRi : (rest.length : Int) < (rest.length : Int) + 1 := by omega
 clear hr h
 rcases hs : hdS u with ⟨x, z⟩ | z | _
 · have HF := Lib.hid (HR.out.trans (congrArg (fun q => R.bind (bdS q) _) hs))
   have hzl : z.length + 1 ≤ u.length := hdP_len (show hdP u = .ok (toSt x) z by rw [← hdS_hdP, hs]; rfl)
   rw [hs] at HS
   go_enter Try.func73, Try.ntmps73
   go_wp2_with fail
   refine HS.out.mono ?_
   rintro e w2 ⟨t, rfl, htd, hto, hp2, hg2⟩
   have HB2 := Lib.hid (H0.out.step hp2 hg2 (by omega))
   have hT2 := hto.up (Q := fun g => w.heap.size ≤ g ∧ ¬ OwnB (m :: rest) g) (fun g q => H0.out.newer q)
   have hxl0 := H0.out.n.2.1 m (by simp)
   have HNB := Lib.hid (show rest.length + 1 + z.length ≤ l.length by have := H0.out.n.2.2; omega)
   have hxl : m.xs.length ≤ 1000000 := by have := H0.out.p.n; omega
   have hbd : m.xs.length + 1 + z.length ≤ l.length := by omega
   obtain ⟨kd, ln, nm, fl, cl, ⟨tk, tn, tm⟩, kA, kc, ks, bA, bc, bd, eA, ec, ee⟩ := t
   have HKD := Lib.hid (show kd = (toSt x).kd from congrArg St.kd htd)
   have HTD := Lib.hid htd
   have HG5 := Lib.hid (show ∀ k, m.v.ownBlock = some k → k < w2.heap.size from fun k e => (HB2.out.o0.lt k e).2.1)
   have hb3 := below_lnew w2 (.cells #[.int .u8 kd, .int .i64 ln, .string (str nm), .string (str fl), .string (str cl), .int .u8 tk, .int .i64 tn, .string (str tm), .slice kA ks.length kc, .slice bA bd.length bc, .slice eA ee.length ec] 51)
   have HC3 := Lib.hid (show CAt (w2.alloc (.cells #[.int .u8 kd, .int .i64 ln, .string (str nm), .string (str fl), .string (str cl), .int .u8 tk, .int .i64 tn, .string (str tm), .slice kA ks.length kc, .slice bA bd.length bc, .slice eA ee.length ec] 51)) w2.heap.size 51 [.int .u8 kd, .int .i64 ln, .string (str nm), .string (str fl), .string (str cl), .int .u8 tk, .int .i64 tn, .string (str tm), .slice kA ks.length kc, .slice bA bd.length bc, .slice eA ee.length ec] from heap_alloc_new w2 _)
   have HB3 := Lib.hid (HB2.out.below hb3)
   have HT3 := Lib.hid (XS.Ok.below hT2 hb3)
   have HNV := Lib.hid (show ∀ Wx : World, CAt Wx w2.heap.size 51 [.int .u8 kd, .int .i64 ln, .string (str nm), .string (str fl), .string (str cl), .int .u8 tk, .int .i64 tn, .string (str tm), .slice kA ks.length kc, .slice bA bd.length bc, .slice eA ee.length ec] → w2.heap.size = gv → False from fun Wx hc e => by have := (HB2.out.r.lt gv rfl).2.1; omega)
   clear hto hp2 hg2 hT2 htd hb3 HS HR H0 hs
   unfold sV XS.cs
   dsimp only
   go_upto_region 3 with fail
   generalize w2.heap.size = g5 at *
   obtain ⟨W3, hW3⟩ : ∃ W3, w2.alloc (.cells #[.int .u8 kd, .int .i64 ln, .string (str nm), .string (str fl), .string (str cl), .int .u8 tk, .int .i64 tn, .string (str tm), .slice kA ks.length kc, .slice bA bd.length bc, .slice eA ee.length ec] 51) = W3 := ⟨_, rfl⟩
   rw [hW3] at HB3 HC3 HT3 ⊢
   clear hW3
   have stc : ∀ W9 : World, CAt W9 g5 51 [.int .u8 kd, .int .i64 ln, .string (str nm), .string (str fl), .string (str cl), .int .u8 tk, .int .i64 tn, .string (str tm), .slice kA ks.length kc, .slice bA bd.length bc, .slice eA ee.length ec] → (W9.cell? ⟨g5, 0, none⟩ = some (.int .u8 kd) ∧ W9.cell? ⟨g5, 1, none⟩ = some (.int .i64 ln) ∧ W9.cell? ⟨g5, 2, none⟩ = some (.string (str nm)) ∧ W9.cell? ⟨g5, 3, none⟩ = some (.string (str fl)) ∧ W9.cell? ⟨g5, 4, none⟩ = some (.string (str cl)) ∧ W9.cell? ⟨g5, 5, none⟩ = some (.int .u8 tk) ∧ W9.cell? ⟨g5, 6, none⟩ = some (.int .i64 tn) ∧ W9.cell? ⟨g5, 7, none⟩ = some (.string (str tm)) ∧ W9.cell? ⟨g5, 8, none⟩ = some (.slice kA ks.length kc) ∧ W9.cell? ⟨g5, 9, none⟩ = some (.slice bA bd.length bc) ∧ W9.cell? ⟨g5, 10, none⟩ = some (.slice eA ee.length ec)) := fun W9 h9 => ⟨h9.cell (j := 0) (by simp), h9.cell (j := 1) (by simp), h9.cell (j := 2) (by simp), h9.cell (j := 3) (by simp), h9.cell (j := 4) (by simp), h9.cell (j := 5) (by simp), h9.cell (j := 6) (by simp), h9.cell (j := 7) (by simp), h9.cell (j := 8) (by simp), h9.cell (j := 9) (by simp), h9.cell (j := 10) (by simp)⟩
   replace stc := Lib.hid stc
   go_cut [] from 14 (fun wx => ∃ (g9 c9 : Nat), Hid (BlZ w gp A c l (.slice (some ⟨gv, 0, none⟩) (rest.length + 1) cv) ⟨m.xs ++ [(XS.mk kd ln nm fl cl ⟨tk, tn, tm⟩ kA kc ks bA bc bd eA ec ee)], some ⟨g9, 0, none⟩, c9, m.el⟩ (m.xs ++ [(XS.mk kd ln nm fl cl ⟨tk, tn, tm⟩ kA kc ks bA bc bd eA ec ee)]) ⟨m.xs ++ [(XS.mk kd ln nm fl cl ⟨tk, tn, tm⟩ kA kc ks bA bc bd eA ec ee)], some ⟨g9, 0, none⟩, c9, m.el⟩ rest wx z) ∧ Hid (CAt wx g5 51 [.int .u8 kd, .int .i64 ln, .string (str nm), .string (str fl), .string (str cl), .int .u8 tk, .int .i64 tn, .string (str tm), .slice kA ks.length kc, .slice bA bd.length bc, .slice eA ee.length ec]))
   case first =>
    have hYi : (m.xs.length : Int) < (m.xs.length : Int) + 1 := by omega
    have hY0 : (0 : Int) ≤ (m.xs.length : Int) := by omega
    refine wp_region_held_drew (S := fun W9 => W9.cell? ⟨g5, 0, none⟩ = some (.int .u8 kd) ∧ W9.cell? ⟨g5, 1, none⟩ = some (.int .i64 ln) ∧ W9.cell? ⟨g5, 2, none⟩ = some (.string (str nm)) ∧ W9.cell? ⟨g5, 3, none⟩ = some (.string (str fl)) ∧ W9.cell? ⟨g5, 4, none⟩ = some (.string (str cl)) ∧ W9.cell? ⟨g5, 5, none⟩ = some (.int .u8 tk) ∧ W9.cell? ⟨g5, 6, none⟩ = some (.int .i64 tn) ∧ W9.cell? ⟨g5, 7, none⟩ = some (.string (str tm)) ∧ W9.cell? ⟨g5, 8, none⟩ = some (.slice kA ks.length kc) ∧ W9.cell? ⟨g5, 9, none⟩ = some (.slice bA bd.length bc) ∧ W9.cell? ⟨g5, 10, none⟩ = some (.slice eA ee.length ec)) (by kernel_rfl) (stc.out _ HC3.out) (fun hHeld => ?_)
    have HKd := Lib.hid HB3.out.drew
    have HCd := Lib.hid (show CAt W3.drew g5 51 _ from HC3.out)
    have HTd := Lib.hid (XS.Ok.below HT3.out ((Below.refl _ W3).drew))
    generalize W3.drew = Wd at *
    clear HB3 HC3 HT3
    refine heldTake (i := 0) (d := some 14) (v := ?_) rfl rfl (by kernel_rfl) (by kernel_rfl) (by kernel_rfl) (fun _ _ _ h => h) (by kernel_rfl) ?hyq_1 (by assumption) ?restq_1
    case hyq_1 => (intro W9 hSw; (try dsimp only at hSw); go_simp; try (with_reducible rfl))
    (try simp only [Act.put, nA, nB, nC])
    refine heldTake (i := 1) (d := some 15) (v := ?_) rfl rfl (by kernel_rfl) (by kernel_rfl) (by kernel_rfl) (fun _ _ _ h => h) (by kernel_rfl) ?hyq_2 (by assumption) ?restq_2
    case hyq_2 => (intro W9 hSw; (try dsimp only at hSw); go_simp; try (with_reducible rfl))
    (try simp only [Act.put, nA, nB, nC])
    refine heldTake (i := 2) (d := some 16) (v := ?_) rfl rfl (by kernel_rfl) (by kernel_rfl) (by kernel_rfl) (fun _ _ _ h => h) (by kernel_rfl) ?hyq_3 (by assumption) ?restq_3
    case hyq_3 => (intro W9 hSw; (try dsimp only at hSw); go_simp; try (with_reducible rfl))
    (try simp only [Act.put, nA, nB, nC])
    refine heldTake (i := 4) (d := some 18) (v := ?_) rfl rfl (by kernel_rfl) (by kernel_rfl) (by kernel_rfl) (fun _ _ _ h => h) (by kernel_rfl) ?hyq_4 (by assumption) ?restq_4
    case hyq_4 => (intro W9 hSw; (try dsimp only at hSw); go_simp; try (with_reducible rfl))
    (try simp only [Act.put, nA, nB, nC])
    refine wpAnyH_ready (rs := [3, 6]) (by kernel_rfl) (by simp) ?_
    refine AllReadyH.cons rfl (fun K hK => ?_) (AllReadyH.cons rfl (fun K hK => ?_) AllReadyH.nil)
    · have ck := (lvCells HKd.out rfl).1
      go_simp
      refine hK.out _ _ (stc.out _ HCd.out) (fun hHeld => ?_)
      clear hK K
      (try simp only [Act.put, nA, nB, nC])
      clear ck
      refine heldTake (i := 5) (d := some 19) (v := ?_) rfl rfl (by kernel_rfl) (by kernel_rfl) (by kernel_rfl) (fun _ _ _ h => h) (by kernel_rfl) ?hyq_5 (by assumption) ?restq_5
      case hyq_5 => (intro W9 hSw; (try dsimp only at hSw); go_simp; try (with_reducible rfl))
      (try simp only [Act.put, nA, nB, nC])
      refine wpAnyH_ready (rs := [6]) (by kernel_rfl) (by simp) ?_
      refine AllReadyH.cons rfl (fun K hK => ?_) AllReadyH.nil
      (try rw [if_pos (by kernel_rfl)])
      refine El.op_build1 eSt Wd 46 (.agg #[.int .u8 0, .int .i64 0, .string ⟨#[]⟩, .string ⟨#[]⟩, .string ⟨#[]⟩, .int .u8 0, .int .i64 0, .string ⟨#[]⟩, .slice none 0 0, .slice none 0 0, .slice none 0 0]) 168 Try.underlying46 st_info rfl (by decide) (.const (.agg #[.int .u8 0, .int .i64 0, .string ⟨#[]⟩, .string ⟨#[]⟩, .string ⟨#[]⟩, .int .u8 0, .int .i64 0, .string ⟨#[]⟩, .slice none 0 0, .slice none 0 0, .slice none 0 0])) rfl (.agg #[.int .u8 0, .int .i64 0, .string ⟨#[]⟩, .string ⟨#[]⟩, .string ⟨#[]⟩, .int .u8 0, .int .i64 0, .string ⟨#[]⟩, .slice none 0 0, .slice none 0 0, .slice none 0 0]) xsZ rfl rfl ?_
      change K (Act.put _ (some 20) (.slice (some ⟨Wd.heap.size, 0, none⟩) 1 1)) (Wd.alloc (.cells #[.int .u8 0, .int .i64 0, .string ⟨#[]⟩, .string ⟨#[]⟩, .string ⟨#[]⟩, .int .u8 0, .int .i64 0, .string ⟨#[]⟩, .slice none 0 0, .slice none 0 0, .slice none 0 0] 51))
      have hbY := below_lnew Wd (.cells #[.int .u8 0, .int .i64 0, .string ⟨#[]⟩, .string ⟨#[]⟩, .string ⟨#[]⟩, .int .u8 0, .int .i64 0, .string ⟨#[]⟩, .slice none 0 0, .slice none 0 0, .slice none 0 0] 51)
      have HB5 := Lib.hid (heap_alloc_new Wd (.cells #[.int .u8 0, .int .i64 0, .string ⟨#[]⟩, .string ⟨#[]⟩, .string ⟨#[]⟩, .int .u8 0, .int .i64 0, .string ⟨#[]⟩, .slice none 0 0, .slice none 0 0, .slice none 0 0] 51))
      obtain ⟨Y2, hY⟩ : ∃ Y, Wd.alloc (.cells #[.int .u8 0, .int .i64 0, .string ⟨#[]⟩, .string ⟨#[]⟩, .string ⟨#[]⟩, .int .u8 0, .int .i64 0, .string ⟨#[]⟩, .slice none 0 0, .slice none 0 0, .slice none 0 0] 51) = Y := ⟨_, rfl⟩
      rw [hY] at hbY HB5 ⊢
      have HK1 := Lib.hid (HKd.out.below hbY)
      have HC3 := Lib.hid (HCd.out.below hbY HCd.out.lt)
      have HT4 := Lib.hid (XS.Ok.below HTd.out hbY)
      clear hY hbY
      refine hK.out _ _ (stc.out _ HC3.out) (fun hHeld => ?_)
      clear hK K
      (try simp only [Act.put, nA, nB, nC])
      refine wpAnyH_ready (rs := [7]) (by kernel_rfl) (by simp) ?_
      refine AllReadyH.cons rfl (fun K hK => ?_) AllReadyH.nil
      (try rw [if_pos (by kernel_rfl)])
      refine El.op_app1x eSt Y2 46 (.agg #[.int .u8 0, .int .i64 0, .string ⟨#[]⟩, .string ⟨#[]⟩, .string ⟨#[]⟩, .int .u8 0, .int .i64 0, .string ⟨#[]⟩, .slice none 0 0, .slice none 0 0, .slice none 0 0]) 168 Try.underlying46 st_info rfl (by decide) (by decide) (.tmp 17) (.tmp 20) rfl w.heap.size (.slice m.A m.xs.length m.c) m.xs rfl HK1.out.o0 Wd.heap.size 1 xsZ rfl 51 HB5.out hxl HK1.out.g.size ?_
      intro v9 Z6 ho9 hg9 hk9
      obtain ⟨g9, c9, rfl⟩ := El.Own.at0 ho9 (by simp)
      have hl9 : (m.xs ++ [xsZ]).length = m.xs.length + 1 := by simp
      have HM2 : Hid ((LvM.mk (m.xs ++ [(XS.mk kd ln nm fl cl ⟨tk, tn, tm⟩ kA kc ks bA bc bd eA ec ee)]) (some ⟨g9, 0, none⟩) c9 m.el).v = .slice (some ⟨g9, 0, none⟩) (m.xs.length + 1) c9) := Lib.hid (by unfold LvM.v; simp)
      have HK7 := Lib.hid (BlZ.add (m2 := ⟨m.xs ++ [(XS.mk kd ln nm fl cl ⟨tk, tn, tm⟩ kA kc ks bA bc bd eA ec ee)], some ⟨g9, 0, none⟩, c9, m.el⟩) HK1.out HT4.out hbd rfl hg9 (by rw [HM2.out, ← hl9]; exact ho9) (fun k e => hk9 k e))
      have HC8 := Lib.hid (show CAt Z6 g5 51 [.int .u8 kd, .int .i64 ln, .string (str nm), .string (str fl), .string (str cl), .int .u8 tk, .int .i64 tn, .string (str tm), .slice kA ks.length kc, .slice bA bd.length bc, .slice eA ee.length ec] from (hg9.block g5 HC3.out.lt (fun e => by have := HG5.out _ e.symm; omega)).trans HC3.out)
      change K (Act.put _ (some 21) (.slice (some ⟨g9, 0, none⟩) (m.xs ++ [xsZ]).length c9)) Z6
      rw [hl9]
      have HGN := Lib.hid (show g9 ≠ g5 from fun e => (hk9 g9 rfl).elim (fun h => absurd (HG5.out _ h) (by omega)) (fun h => by have := HC3.out.lt; omega))
      clear ho9 hg9 hk9
      refine hK.out _ _ (stc.out _ HC8.out) (fun hHeld => ?_)
      clear hK K
      (try simp only [Act.put, nA, nB, nC])
      refine heldTake (i := 8) (d := some 22) (v := ?_) rfl rfl (by kernel_rfl) (by kernel_rfl) (by kernel_rfl) (fun _ _ _ h => h) (by kernel_rfl) ?hyq_6 (by assumption) ?restq_6
      case hyq_6 => (intro W9 hSw; (try dsimp only at hSw); go_simp; try (with_reducible rfl))
      (try simp only [Act.put, nA, nB, nC])
      refine heldTake (i := 10) (d := some 23) (v := ?_) rfl rfl (by kernel_rfl) (by kernel_rfl) (by kernel_rfl) (fun _ _ _ h => h) (by kernel_rfl) ?hyq_7 (by assumption) ?restq_7
      case hyq_7 => (intro W9 hSw; (try dsimp only at hSw); go_simp; try (with_reducible rfl))
      (try simp only [Act.put, nA, nB, nC])
      refine heldTake (i := 11) (d := some 24) (v := ?_) rfl rfl (by kernel_rfl) (by kernel_rfl) (by kernel_rfl) (fun _ _ _ h => h) (by kernel_rfl) ?hyq_8 (by assumption) ?restq_8
      case hyq_8 => (intro W9 hSw; (try dsimp only at hSw); go_simp; try (with_reducible rfl))
      (try simp only [Act.put, nA, nB, nC])
      refine wpAnyH_ready (rs := [9, 12]) (by kernel_rfl) (by simp) ?_
      refine AllReadyH.cons rfl (fun K hK => ?_) (AllReadyH.cons rfl (fun K hK => ?_) AllReadyH.nil)
      · have hrow := HK7.out.o0
        rw [HM2.out] at hrow
        have r0 := El.Own.lastAt hrow (f := 0) rfl
        have rf0 := El.Own.lastFrozen hrow (m.xs.length * 11 + 0)
        have r1 := El.Own.lastAt hrow (f := 1) rfl
        have rf1 := El.Own.lastFrozen hrow (m.xs.length * 11 + 1)
        have r2 := El.Own.lastAt hrow (f := 2) rfl
        have rf2 := El.Own.lastFrozen hrow (m.xs.length * 11 + 2)
        have r3 := El.Own.lastAt hrow (f := 3) rfl
        have rf3 := El.Own.lastFrozen hrow (m.xs.length * 11 + 3)
        have r4 := El.Own.lastAt hrow (f := 4) rfl
        have rf4 := El.Own.lastFrozen hrow (m.xs.length * 11 + 4)
        have r5 := El.Own.lastAt hrow (f := 5) rfl
        have rf5 := El.Own.lastFrozen hrow (m.xs.length * 11 + 5)
        have r6 := El.Own.lastAt hrow (f := 6) rfl
        have rf6 := El.Own.lastFrozen hrow (m.xs.length * 11 + 6)
        have r7 := El.Own.lastAt hrow (f := 7) rfl
        have rf7 := El.Own.lastFrozen hrow (m.xs.length * 11 + 7)
        have r8 := El.Own.lastAt hrow (f := 8) rfl
        have rf8 := El.Own.lastFrozen hrow (m.xs.length * 11 + 8)
        have r9 := El.Own.lastAt hrow (f := 9) rfl
        have rf9 := El.Own.lastFrozen hrow (m.xs.length * 11 + 9)
        have r10 := El.Own.lastAt hrow (f := 10) rfl
        have rf10 := El.Own.lastFrozen hrow (m.xs.length * 11 + 10)
        rw [show eSt.sz = 11 from rfl] at r0 r1 r2 r3 r4 r5 r6 r7 r8 r9 r10
        simp only [Nat.add_zero] at r0 rf0
        clear hrow
        have HK9 := Lib.hid (BlZ.putSt (t := (XS.mk kd ln nm fl cl ⟨tk, tn, tm⟩ kA kc ks bA bc bd eA ec ee)) HK7.out HM2.out)
        have HC11 := Lib.hid (show CAt (putSt Z6 g9 (m.xs.length * 11) (XS.mk kd ln nm fl cl ⟨tk, tn, tm⟩ kA kc ks bA bc bd eA ec ee)) g5 51 [.int .u8 kd, .int .i64 ln, .string (str nm), .string (str fl), .string (str cl), .int .u8 tk, .int .i64 tn, .string (str tm), .slice kA ks.length kc, .slice bA bd.length bc, .slice eA ee.length ec] from ((putSt_grown Z6 g9 (m.xs.length * 11) (XS.mk kd ln nm fl cl ⟨tk, tn, tm⟩ kA kc ks bA bc bd eA ec ee)).block g5 HC8.out.lt (fun e => by injection e with e; first | exact HGN.out e | exact HGN.out e.symm)).trans HC8.out)
        go_simp
        change K _ (putSt Z6 g9 (m.xs.length * 11) (XS.mk kd ln nm fl cl ⟨tk, tn, tm⟩ kA kc ks bA bc bd eA ec ee))
        obtain ⟨P10, hP9⟩ : ∃ P9, putSt Z6 g9 (m.xs.length * 11) (XS.mk kd ln nm fl cl ⟨tk, tn, tm⟩ kA kc ks bA bc bd eA ec ee) = P9 := ⟨_, rfl⟩
        rw [hP9] at HK9 HC11 ⊢
        clear hP9
        refine hK.out _ _ (stc.out _ HC11.out) (fun hHeld => ?_)
        clear hK K
        (try simp only [Act.put, nA, nB, nC])
        clear r0 rf0 r1 rf1 r2 rf2 r3 rf3 r4 rf4 r5 rf5 r6 rf6 r7 rf7 r8 rf8 r9 rf9 r10 rf10
        refine wpAnyH_ready (rs := [12]) (by kernel_rfl) (by simp) ?_
        refine AllReadyH.cons rfl (fun K hK => ?_) AllReadyH.nil
        have ck := (lvCells HK9.out rfl).1
        have cf := lvFrozen HK9.out
        have HK12 := Lib.hid (BlZ.setLv HK9.out rfl)
        have HC14 := Lib.hid (HC11.out.other (p := ⟨gv, rest.length * 2, none⟩) (fun e => HNV.out _ HC11.out e) (LvM.mk (m.xs ++ [(XS.mk kd ln nm fl cl ⟨tk, tn, tm⟩ kA kc ks bA bc bd eA ec ee)]) (some ⟨g9, 0, none⟩) c9 m.el).v)
        rw [HM2.out] at HC14
        go_simp
        rw [HM2.out] at HK12
        obtain ⟨P13, hP9⟩ : ∃ P9, P10.setCell ⟨gv, rest.length * 2, none⟩ (.slice (some ⟨g9, 0, none⟩) (m.xs.length + 1) c9) = P9 := ⟨_, rfl⟩
        rw [hP9] at HK12 HC14 ⊢
        clear hP9
        refine hK.out _ _ (stc.out _ HC14.out) (fun hHeld => ?_)
        clear hK K
        (try simp only [Act.put, nA, nB, nC])
        clear ck cf
        refine wpAnyH_done (by kernel_rfl) ?_ _
        go_wp2_with fail
        go_meet
        exact ⟨g9, c9, HK12, HC14⟩
      · have ck := (lvCells HK7.out rfl).1
        have cf := lvFrozen HK7.out
        have HK15 := Lib.hid (BlZ.setLv HK7.out rfl)
        have HC17 := Lib.hid (HC8.out.other (p := ⟨gv, rest.length * 2, none⟩) (fun e => HNV.out _ HC8.out e) (LvM.mk (m.xs ++ [(XS.mk kd ln nm fl cl ⟨tk, tn, tm⟩ kA kc ks bA bc bd eA ec ee)]) (some ⟨g9, 0, none⟩) c9 m.el).v)
        rw [HM2.out] at HC17
        go_simp
        rw [HM2.out] at HK15
        obtain ⟨P16, hP9⟩ : ∃ P9, Z6.setCell ⟨gv, rest.length * 2, none⟩ (.slice (some ⟨g9, 0, none⟩) (m.xs.length + 1) c9) = P9 := ⟨_, rfl⟩
        rw [hP9] at HK15 HC17 ⊢
        clear hP9
        refine hK.out _ _ (stc.out _ HC17.out) (fun hHeld => ?_)
        clear hK K
        (try simp only [Act.put, nA, nB, nC])
        clear ck cf
        refine wpAnyH_ready (rs := [9]) (by kernel_rfl) (by simp) ?_
        refine AllReadyH.cons rfl (fun K hK => ?_) AllReadyH.nil
        have hrow := HK15.out.o0
        rw [HM2.out] at hrow
        have r0 := El.Own.lastAt hrow (f := 0) rfl
        have rf0 := El.Own.lastFrozen hrow (m.xs.length * 11 + 0)
        have r1 := El.Own.lastAt hrow (f := 1) rfl
        have rf1 := El.Own.lastFrozen hrow (m.xs.length * 11 + 1)
        have r2 := El.Own.lastAt hrow (f := 2) rfl
        have rf2 := El.Own.lastFrozen hrow (m.xs.length * 11 + 2)
        have r3 := El.Own.lastAt hrow (f := 3) rfl
        have rf3 := El.Own.lastFrozen hrow (m.xs.length * 11 + 3)
        have r4 := El.Own.lastAt hrow (f := 4) rfl
        have rf4 := El.Own.lastFrozen hrow (m.xs.length * 11 + 4)
        have r5 := El.Own.lastAt hrow (f := 5) rfl
        have rf5 := El.Own.lastFrozen hrow (m.xs.length * 11 + 5)
        have r6 := El.Own.lastAt hrow (f := 6) rfl
        have rf6 := El.Own.lastFrozen hrow (m.xs.length * 11 + 6)
        have r7 := El.Own.lastAt hrow (f := 7) rfl
        have rf7 := El.Own.lastFrozen hrow (m.xs.length * 11 + 7)
        have r8 := El.Own.lastAt hrow (f := 8) rfl
        have rf8 := El.Own.lastFrozen hrow (m.xs.length * 11 + 8)
        have r9 := El.Own.lastAt hrow (f := 9) rfl
        have rf9 := El.Own.lastFrozen hrow (m.xs.length * 11 + 9)
        have r10 := El.Own.lastAt hrow (f := 10) rfl
        have rf10 := El.Own.lastFrozen hrow (m.xs.length * 11 + 10)
        rw [show eSt.sz = 11 from rfl] at r0 r1 r2 r3 r4 r5 r6 r7 r8 r9 r10
        simp only [Nat.add_zero] at r0 rf0
        clear hrow
        have HK18 := Lib.hid (BlZ.putSt (t := (XS.mk kd ln nm fl cl ⟨tk, tn, tm⟩ kA kc ks bA bc bd eA ec ee)) HK15.out HM2.out)
        have HC20 := Lib.hid (show CAt (putSt P16 g9 (m.xs.length * 11) (XS.mk kd ln nm fl cl ⟨tk, tn, tm⟩ kA kc ks bA bc bd eA ec ee)) g5 51 [.int .u8 kd, .int .i64 ln, .string (str nm), .string (str fl), .string (str cl), .int .u8 tk, .int .i64 tn, .string (str tm), .slice kA ks.length kc, .slice bA bd.length bc, .slice eA ee.length ec] from ((putSt_grown P16 g9 (m.xs.length * 11) (XS.mk kd ln nm fl cl ⟨tk, tn, tm⟩ kA kc ks bA bc bd eA ec ee)).block g5 HC17.out.lt (fun e => by injection e with e; first | exact HGN.out e | exact HGN.out e.symm)).trans HC17.out)
        go_simp
        change K _ (putSt P16 g9 (m.xs.length * 11) (XS.mk kd ln nm fl cl ⟨tk, tn, tm⟩ kA kc ks bA bc bd eA ec ee))
        obtain ⟨P19, hP9⟩ : ∃ P9, putSt P16 g9 (m.xs.length * 11) (XS.mk kd ln nm fl cl ⟨tk, tn, tm⟩ kA kc ks bA bc bd eA ec ee) = P9 := ⟨_, rfl⟩
        rw [hP9] at HK18 HC20 ⊢
        clear hP9
        refine hK.out _ _ (stc.out _ HC20.out) (fun hHeld => ?_)
        clear hK K
        (try simp only [Act.put, nA, nB, nC])
        clear r0 rf0 r1 rf1 r2 rf2 r3 rf3 r4 rf4 r5 rf5 r6 rf6 r7 rf7 r8 rf8 r9 rf9 r10 rf10
        refine wpAnyH_done (by kernel_rfl) ?_ _
        go_wp2_with fail
        go_meet
        exact ⟨g9, c9, HK18, HC20⟩
    · (try rw [if_pos (by kernel_rfl)])
      refine El.op_build1 eSt Wd 46 (.agg #[.int .u8 0, .int .i64 0, .string ⟨#[]⟩, .string ⟨#[]⟩, .string ⟨#[]⟩, .int .u8 0, .int .i64 0, .string ⟨#[]⟩, .slice none 0 0, .slice none 0 0, .slice none 0 0]) 168 Try.underlying46 st_info rfl (by decide) (.const (.agg #[.int .u8 0, .int .i64 0, .string ⟨#[]⟩, .string ⟨#[]⟩, .string ⟨#[]⟩, .int .u8 0, .int .i64 0, .string ⟨#[]⟩, .slice none 0 0, .slice none 0 0, .slice none 0 0])) rfl (.agg #[.int .u8 0, .int .i64 0, .string ⟨#[]⟩, .string ⟨#[]⟩, .string ⟨#[]⟩, .int .u8 0, .int .i64 0, .string ⟨#[]⟩, .slice none 0 0, .slice none 0 0, .slice none 0 0]) xsZ rfl rfl ?_
      change K (Act.put _ (some 20) (.slice (some ⟨Wd.heap.size, 0, none⟩) 1 1)) (Wd.alloc (.cells #[.int .u8 0, .int .i64 0, .string ⟨#[]⟩, .string ⟨#[]⟩, .string ⟨#[]⟩, .int .u8 0, .int .i64 0, .string ⟨#[]⟩, .slice none 0 0, .slice none 0 0, .slice none 0 0] 51))
      have hbY := below_lnew Wd (.cells #[.int .u8 0, .int .i64 0, .string ⟨#[]⟩, .string ⟨#[]⟩, .string ⟨#[]⟩, .int .u8 0, .int .i64 0, .string ⟨#[]⟩, .slice none 0 0, .slice none 0 0, .slice none 0 0] 51)
      have HB25 := Lib.hid (heap_alloc_new Wd (.cells #[.int .u8 0, .int .i64 0, .string ⟨#[]⟩, .string ⟨#[]⟩, .string ⟨#[]⟩, .int .u8 0, .int .i64 0, .string ⟨#[]⟩, .slice none 0 0, .slice none 0 0, .slice none 0 0] 51))
      obtain ⟨Y22, hY⟩ : ∃ Y, Wd.alloc (.cells #[.int .u8 0, .int .i64 0, .string ⟨#[]⟩, .string ⟨#[]⟩, .string ⟨#[]⟩, .int .u8 0, .int .i64 0, .string ⟨#[]⟩, .slice none 0 0, .slice none 0 0, .slice none 0 0] 51) = Y := ⟨_, rfl⟩
      rw [hY] at hbY HB25 ⊢
      have HK21 := Lib.hid (HKd.out.below hbY)
      have HC23 := Lib.hid (HCd.out.below hbY HCd.out.lt)
      have HT24 := Lib.hid (XS.Ok.below HTd.out hbY)
      clear hY hbY
      refine hK.out _ _ (stc.out _ HC23.out) (fun hHeld => ?_)
      clear hK K
      (try simp only [Act.put, nA, nB, nC])
      refine wpAnyH_ready (rs := [3]) (by kernel_rfl) (by simp) ?_
      refine AllReadyH.cons rfl (fun K hK => ?_) AllReadyH.nil
      have ck := (lvCells HK21.out rfl).1
      go_simp
      refine hK.out _ _ (stc.out _ HC23.out) (fun hHeld => ?_)
      clear hK K
      (try simp only [Act.put, nA, nB, nC])
      clear ck
      refine heldTake (i := 5) (d := some 19) (v := ?_) rfl rfl (by kernel_rfl) (by kernel_rfl) (by kernel_rfl) (fun _ _ _ h => h) (by kernel_rfl) ?hyq_9 (by assumption) ?restq_9
      case hyq_9 => (intro W9 hSw; (try dsimp only at hSw); go_simp; try (with_reducible rfl))
      (try simp only [Act.put, nA, nB, nC])
      refine wpAnyH_ready (rs := [7]) (by kernel_rfl) (by simp) ?_
      refine AllReadyH.cons rfl (fun K hK => ?_) AllReadyH.nil
      (try rw [if_pos (by kernel_rfl)])
      refine El.op_app1x eSt Y22 46 (.agg #[.int .u8 0, .int .i64 0, .string ⟨#[]⟩, .string ⟨#[]⟩, .string ⟨#[]⟩, .int .u8 0, .int .i64 0, .string ⟨#[]⟩, .slice none 0 0, .slice none 0 0, .slice none 0 0]) 168 Try.underlying46 st_info rfl (by decide) (by decide) (.tmp 17) (.tmp 20) rfl w.heap.size (.slice m.A m.xs.length m.c) m.xs rfl HK21.out.o0 Wd.heap.size 1 xsZ rfl 51 HB25.out hxl HK21.out.g.size ?_
      intro v9 Z26 ho9 hg9 hk9
      obtain ⟨g9, c9, rfl⟩ := El.Own.at0 ho9 (by simp)
      have hl9 : (m.xs ++ [xsZ]).length = m.xs.length + 1 := by simp
      have HM2 : Hid ((LvM.mk (m.xs ++ [(XS.mk kd ln nm fl cl ⟨tk, tn, tm⟩ kA kc ks bA bc bd eA ec ee)]) (some ⟨g9, 0, none⟩) c9 m.el).v = .slice (some ⟨g9, 0, none⟩) (m.xs.length + 1) c9) := Lib.hid (by unfold LvM.v; simp)
      have HK27 := Lib.hid (BlZ.add (m2 := ⟨m.xs ++ [(XS.mk kd ln nm fl cl ⟨tk, tn, tm⟩ kA kc ks bA bc bd eA ec ee)], some ⟨g9, 0, none⟩, c9, m.el⟩) HK21.out HT24.out hbd rfl hg9 (by rw [HM2.out, ← hl9]; exact ho9) (fun k e => hk9 k e))
      have HC28 := Lib.hid (show CAt Z26 g5 51 [.int .u8 kd, .int .i64 ln, .string (str nm), .string (str fl), .string (str cl), .int .u8 tk, .int .i64 tn, .string (str tm), .slice kA ks.length kc, .slice bA bd.length bc, .slice eA ee.length ec] from (hg9.block g5 HC23.out.lt (fun e => by have := HG5.out _ e.symm; omega)).trans HC23.out)
      change K (Act.put _ (some 21) (.slice (some ⟨g9, 0, none⟩) (m.xs ++ [xsZ]).length c9)) Z26
      rw [hl9]
      have HGN := Lib.hid (show g9 ≠ g5 from fun e => (hk9 g9 rfl).elim (fun h => absurd (HG5.out _ h) (by omega)) (fun h => by have := HC23.out.lt; omega))
      clear ho9 hg9 hk9
      refine hK.out _ _ (stc.out _ HC28.out) (fun hHeld => ?_)
      clear hK K
      (try simp only [Act.put, nA, nB, nC])
      refine heldTake (i := 8) (d := some 22) (v := ?_) rfl rfl (by kernel_rfl) (by kernel_rfl) (by kernel_rfl) (fun _ _ _ h => h) (by kernel_rfl) ?hyq_10 (by assumption) ?restq_10
      case hyq_10 => (intro W9 hSw; (try dsimp only at hSw); go_simp; try (with_reducible rfl))
      (try simp only [Act.put, nA, nB, nC])
      refine heldTake (i := 10) (d := some 23) (v := ?_) rfl rfl (by kernel_rfl) (by kernel_rfl) (by kernel_rfl) (fun _ _ _ h => h) (by kernel_rfl) ?hyq_11 (by assumption) ?restq_11
      case hyq_11 => (intro W9 hSw; (try dsimp only at hSw); go_simp; try (with_reducible rfl))
      (try simp only [Act.put, nA, nB, nC])
      refine heldTake (i := 11) (d := some 24) (v := ?_) rfl rfl (by kernel_rfl) (by kernel_rfl) (by kernel_rfl) (fun _ _ _ h => h) (by kernel_rfl) ?hyq_12 (by assumption) ?restq_12
      case hyq_12 => (intro W9 hSw; (try dsimp only at hSw); go_simp; try (with_reducible rfl))
      (try simp only [Act.put, nA, nB, nC])
      refine wpAnyH_ready (rs := [9, 12]) (by kernel_rfl) (by simp) ?_
      refine AllReadyH.cons rfl (fun K hK => ?_) (AllReadyH.cons rfl (fun K hK => ?_) AllReadyH.nil)
      · have hrow := HK27.out.o0
        rw [HM2.out] at hrow
        have r0 := El.Own.lastAt hrow (f := 0) rfl
        have rf0 := El.Own.lastFrozen hrow (m.xs.length * 11 + 0)
        have r1 := El.Own.lastAt hrow (f := 1) rfl
        have rf1 := El.Own.lastFrozen hrow (m.xs.length * 11 + 1)
        have r2 := El.Own.lastAt hrow (f := 2) rfl
        have rf2 := El.Own.lastFrozen hrow (m.xs.length * 11 + 2)
        have r3 := El.Own.lastAt hrow (f := 3) rfl
        have rf3 := El.Own.lastFrozen hrow (m.xs.length * 11 + 3)
        have r4 := El.Own.lastAt hrow (f := 4) rfl
        have rf4 := El.Own.lastFrozen hrow (m.xs.length * 11 + 4)
        have r5 := El.Own.lastAt hrow (f := 5) rfl
        have rf5 := El.Own.lastFrozen hrow (m.xs.length * 11 + 5)
        have r6 := El.Own.lastAt hrow (f := 6) rfl
        have rf6 := El.Own.lastFrozen hrow (m.xs.length * 11 + 6)
        have r7 := El.Own.lastAt hrow (f := 7) rfl
        have rf7 := El.Own.lastFrozen hrow (m.xs.length * 11 + 7)
        have r8 := El.Own.lastAt hrow (f := 8) rfl
        have rf8 := El.Own.lastFrozen hrow (m.xs.length * 11 + 8)
        have r9 := El.Own.lastAt hrow (f := 9) rfl
        have rf9 := El.Own.lastFrozen hrow (m.xs.length * 11 + 9)
        have r10 := El.Own.lastAt hrow (f := 10) rfl
        have rf10 := El.Own.lastFrozen hrow (m.xs.length * 11 + 10)
        rw [show eSt.sz = 11 from rfl] at r0 r1 r2 r3 r4 r5 r6 r7 r8 r9 r10
        simp only [Nat.add_zero] at r0 rf0
        clear hrow
        have HK29 := Lib.hid (BlZ.putSt (t := (XS.mk kd ln nm fl cl ⟨tk, tn, tm⟩ kA kc ks bA bc bd eA ec ee)) HK27.out HM2.out)
        have HC31 := Lib.hid (show CAt (putSt Z26 g9 (m.xs.length * 11) (XS.mk kd ln nm fl cl ⟨tk, tn, tm⟩ kA kc ks bA bc bd eA ec ee)) g5 51 [.int .u8 kd, .int .i64 ln, .string (str nm), .string (str fl), .string (str cl), .int .u8 tk, .int .i64 tn, .string (str tm), .slice kA ks.length kc, .slice bA bd.length bc, .slice eA ee.length ec] from ((putSt_grown Z26 g9 (m.xs.length * 11) (XS.mk kd ln nm fl cl ⟨tk, tn, tm⟩ kA kc ks bA bc bd eA ec ee)).block g5 HC28.out.lt (fun e => by injection e with e; first | exact HGN.out e | exact HGN.out e.symm)).trans HC28.out)
        go_simp
        change K _ (putSt Z26 g9 (m.xs.length * 11) (XS.mk kd ln nm fl cl ⟨tk, tn, tm⟩ kA kc ks bA bc bd eA ec ee))
        obtain ⟨P30, hP9⟩ : ∃ P9, putSt Z26 g9 (m.xs.length * 11) (XS.mk kd ln nm fl cl ⟨tk, tn, tm⟩ kA kc ks bA bc bd eA ec ee) = P9 := ⟨_, rfl⟩
        rw [hP9] at HK29 HC31 ⊢
        clear hP9
        refine hK.out _ _ (stc.out _ HC31.out) (fun hHeld => ?_)
        clear hK K
        (try simp only [Act.put, nA, nB, nC])
        clear r0 rf0 r1 rf1 r2 rf2 r3 rf3 r4 rf4 r5 rf5 r6 rf6 r7 rf7 r8 rf8 r9 rf9 r10 rf10
        refine wpAnyH_ready (rs := [12]) (by kernel_rfl) (by simp) ?_
        refine AllReadyH.cons rfl (fun K hK => ?_) AllReadyH.nil
        have ck := (lvCells HK29.out rfl).1
        have cf := lvFrozen HK29.out
        have HK32 := Lib.hid (BlZ.setLv HK29.out rfl)
        have HC34 := Lib.hid (HC31.out.other (p := ⟨gv, rest.length * 2, none⟩) (fun e => HNV.out _ HC31.out e) (LvM.mk (m.xs ++ [(XS.mk kd ln nm fl cl ⟨tk, tn, tm⟩ kA kc ks bA bc bd eA ec ee)]) (some ⟨g9, 0, none⟩) c9 m.el).v)
        rw [HM2.out] at HC34
        go_simp
        rw [HM2.out] at HK32
        obtain ⟨P33, hP9⟩ : ∃ P9, P30.setCell ⟨gv, rest.length * 2, none⟩ (.slice (some ⟨g9, 0, none⟩) (m.xs.length + 1) c9) = P9 := ⟨_, rfl⟩
        rw [hP9] at HK32 HC34 ⊢
        clear hP9
        refine hK.out _ _ (stc.out _ HC34.out) (fun hHeld => ?_)
        clear hK K
        (try simp only [Act.put, nA, nB, nC])
        clear ck cf
        refine wpAnyH_done (by kernel_rfl) ?_ _
        go_wp2_with fail
        go_meet
        exact ⟨g9, c9, HK32, HC34⟩
      · have ck := (lvCells HK27.out rfl).1
        have cf := lvFrozen HK27.out
        have HK35 := Lib.hid (BlZ.setLv HK27.out rfl)
        have HC37 := Lib.hid (HC28.out.other (p := ⟨gv, rest.length * 2, none⟩) (fun e => HNV.out _ HC28.out e) (LvM.mk (m.xs ++ [(XS.mk kd ln nm fl cl ⟨tk, tn, tm⟩ kA kc ks bA bc bd eA ec ee)]) (some ⟨g9, 0, none⟩) c9 m.el).v)
        rw [HM2.out] at HC37
        go_simp
        rw [HM2.out] at HK35
        obtain ⟨P36, hP9⟩ : ∃ P9, Z26.setCell ⟨gv, rest.length * 2, none⟩ (.slice (some ⟨g9, 0, none⟩) (m.xs.length + 1) c9) = P9 := ⟨_, rfl⟩
        rw [hP9] at HK35 HC37 ⊢
        clear hP9
        refine hK.out _ _ (stc.out _ HC37.out) (fun hHeld => ?_)
        clear hK K
        (try simp only [Act.put, nA, nB, nC])
        clear ck cf
        refine wpAnyH_ready (rs := [9]) (by kernel_rfl) (by simp) ?_
        refine AllReadyH.cons rfl (fun K hK => ?_) AllReadyH.nil
        have hrow := HK35.out.o0
        rw [HM2.out] at hrow
        have r0 := El.Own.lastAt hrow (f := 0) rfl
        have rf0 := El.Own.lastFrozen hrow (m.xs.length * 11 + 0)
        have r1 := El.Own.lastAt hrow (f := 1) rfl
        have rf1 := El.Own.lastFrozen hrow (m.xs.length * 11 + 1)
        have r2 := El.Own.lastAt hrow (f := 2) rfl
        have rf2 := El.Own.lastFrozen hrow (m.xs.length * 11 + 2)
        have r3 := El.Own.lastAt hrow (f := 3) rfl
        have rf3 := El.Own.lastFrozen hrow (m.xs.length * 11 + 3)
        have r4 := El.Own.lastAt hrow (f := 4) rfl
        have rf4 := El.Own.lastFrozen hrow (m.xs.length * 11 + 4)
        have r5 := El.Own.lastAt hrow (f := 5) rfl
        have rf5 := El.Own.lastFrozen hrow (m.xs.length * 11 + 5)
        have r6 := El.Own.lastAt hrow (f := 6) rfl
        have rf6 := El.Own.lastFrozen hrow (m.xs.length * 11 + 6)
        have r7 := El.Own.lastAt hrow (f := 7) rfl
        have rf7 := El.Own.lastFrozen hrow (m.xs.length * 11 + 7)
        have r8 := El.Own.lastAt hrow (f := 8) rfl
        have rf8 := El.Own.lastFrozen hrow (m.xs.length * 11 + 8)
        have r9 := El.Own.lastAt hrow (f := 9) rfl
        have rf9 := El.Own.lastFrozen hrow (m.xs.length * 11 + 9)
        have r10 := El.Own.lastAt hrow (f := 10) rfl
        have rf10 := El.Own.lastFrozen hrow (m.xs.length * 11 + 10)
        rw [show eSt.sz = 11 from rfl] at r0 r1 r2 r3 r4 r5 r6 r7 r8 r9 r10
        simp only [Nat.add_zero] at r0 rf0
        clear hrow
        have HK38 := Lib.hid (BlZ.putSt (t := (XS.mk kd ln nm fl cl ⟨tk, tn, tm⟩ kA kc ks bA bc bd eA ec ee)) HK35.out HM2.out)
        have HC40 := Lib.hid (show CAt (putSt P36 g9 (m.xs.length * 11) (XS.mk kd ln nm fl cl ⟨tk, tn, tm⟩ kA kc ks bA bc bd eA ec ee)) g5 51 [.int .u8 kd, .int .i64 ln, .string (str nm), .string (str fl), .string (str cl), .int .u8 tk, .int .i64 tn, .string (str tm), .slice kA ks.length kc, .slice bA bd.length bc, .slice eA ee.length ec] from ((putSt_grown P36 g9 (m.xs.length * 11) (XS.mk kd ln nm fl cl ⟨tk, tn, tm⟩ kA kc ks bA bc bd eA ec ee)).block g5 HC37.out.lt (fun e => by injection e with e; first | exact HGN.out e | exact HGN.out e.symm)).trans HC37.out)
        go_simp
        change K _ (putSt P36 g9 (m.xs.length * 11) (XS.mk kd ln nm fl cl ⟨tk, tn, tm⟩ kA kc ks bA bc bd eA ec ee))
        obtain ⟨P39, hP9⟩ : ∃ P9, putSt P36 g9 (m.xs.length * 11) (XS.mk kd ln nm fl cl ⟨tk, tn, tm⟩ kA kc ks bA bc bd eA ec ee) = P9 := ⟨_, rfl⟩
        rw [hP9] at HK38 HC40 ⊢
        clear hP9
        refine hK.out _ _ (stc.out _ HC40.out) (fun hHeld => ?_)
        clear hK K
        (try simp only [Act.put, nA, nB, nC])
        clear r0 rf0 r1 rf1 r2 rf2 r3 rf3 r4 rf4 r5 rf5 r6 rf6 r7 rf7 r8 rf8 r9 rf9 r10 rf10
        refine wpAnyH_done (by kernel_rfl) ?_ _
        go_wp2_with fail
        go_meet
        exact ⟨g9, c9, HK38, HC40⟩
   case rest =>
    obtain ⟨g9, c9, HX, HC⟩ := hcut
    obtain ⟨W5, rfl⟩ : ∃ q, q = wc := ⟨_, rfl⟩
    have k0 := HC.out.cell (j := 0) (by simp)
    simp only [List.getElem_cons_zero] at k0
    obtain ⟨a2, ha2⟩ : ∃ a2, LvM.mk (m.xs ++ [(XS.mk kd ln nm fl cl ⟨tk, tn, tm⟩ kA kc ks bA bc bd eA ec ee)]) (some ⟨g9, 0, none⟩) c9 m.el = a2 := ⟨_, rfl⟩
    have HAX := Lib.hid (show a2.xs = m.xs ++ [(XS.mk kd ln nm fl cl ⟨tk, tn, tm⟩ kA kc ks bA bc bd eA ec ee)] by rw [← ha2])
    have HD2 := Lib.hid (show a2.d = m.d.add (toSt x) by
     rw [← ha2, ← HTD.out]
     unfold LvM.d Lv.add
     dsimp only
     rw [xssd_snoc])
    rw [ha2, ← HAX.out] at HX
    clear ha2 HC HB3 HC3 HT3 HB2
    have HFF := Lib.hid (show r = if kd = 6 ∨ kd = 7 then takeS [123] z fun w => .ok (⟨[], false⟩ :: m.d.add (toSt x) :: rest.map LvM.d) w else .ok (m.d.add (toSt x) :: rest.map LvM.d) z by rw [HKD.out]; exact HF.out)
    clear HF HKD
    by_cases h6 : kd = 6
    · have HF := Lib.hid (HFF.out.trans (if_pos (.inl h6)))
      subst h6
      go_wp2_with fail
      cases hq : isT 4 [123] z
      · have HE := Lib.hid (HF.out.trans (takeS_no hq))
        refine wp_region_held_drew (S := fun W9 => True) (by kernel_rfl) trivial (fun hHeld => ?_)
        have Knd := Lib.hid HX.out.drew
        refine heldTake (i := 0) (d := some 34) (v := ?_) rfl rfl (by kernel_rfl) (by kernel_rfl) (by kernel_rfl) (fun _ _ _ h => h) (by kernel_rfl) ?hyq_13 (by assumption) ?restq_13
        case hyq_13 => (intro W9 hSw; (try dsimp only at hSw); go_simp; try (with_reducible rfl))
        (try simp only [Act.put, nA, nB, nC])
        refine heldTake (i := 1) (d := some 35) (v := ?_) rfl rfl (by kernel_rfl) (by kernel_rfl) (by kernel_rfl) (fun _ _ _ h => h) (by kernel_rfl) ?hyq_14 (by assumption) ?restq_14
        case hyq_14 => (intro W9 hSw; (try dsimp only at hSw); go_simp; try (with_reducible rfl))
        (try simp only [Act.put, nA, nB, nC])
        refine heldTake (i := 2) (d := some 36) (v := ?_) rfl rfl (by kernel_rfl) (by kernel_rfl) (by kernel_rfl) (fun _ _ _ h => h) (by kernel_rfl) ?hyq_15 (by assumption) ?restq_15
        case hyq_15 => (intro W9 hSw; (try dsimp only at hSw); go_simp; try (with_reducible rfl))
        (try simp only [Act.put, nA, nB, nC])
        refine wpAnyH_ready (rs := [3]) (by kernel_rfl) (by simp) ?_
        refine AllReadyH.cons rfl (fun K hK => ?_) AllReadyH.nil
        go_simp
        go_at_call 58
        refine (sign_any [123] _).mono ?_
        rintro e9 X ⟨rfl, hbX⟩
        have Knx := Lib.hid (Knd.out.below hbX)
        clear hbX
        go_wp2_with fail
        refine hK.out _ _ trivial (fun hHeld => ?_)
        clear hK K
        (try simp only [Act.put, nA, nB, nC])
        refine wpAnyH_ready (rs := [4]) (by kernel_rfl) (by simp) ?_
        refine AllReadyH.cons rfl (fun K hK => ?_) AllReadyH.nil
        (try rw [if_pos (by kernel_rfl)])
        refine El.op_build1 eTo X 22 (.agg #[.int .u8 0, .string ⟨#[]⟩, .int .i64 0, .int .i64 0]) 40 Try.underlying22 tok_info rfl (by decide) (.tmp 37) rfl (tV ⟨4, [123], 0, 0⟩) ⟨4, [123], 0, 0⟩ rfl rfl ?_
        change K (Act.put _ (some 38) (.slice (some ⟨X.heap.size, 0, none⟩) 1 1)) (X.alloc (.cells (eTo.f ⟨4, [123], 0, 0⟩).toArray 77))
        have hbY := below_lnew X (.cells (eTo.f ⟨4, [123], 0, 0⟩).toArray 77)
        have hT9 := El.liesT_new eTo X [⟨4, [123], 0, 0⟩] (eTo.f ⟨4, [123], 0, 0⟩).toArray (fun i v h => by simpa [eTo, tS] using h)
        obtain ⟨Y, hY⟩ : ∃ Y, X.alloc (.cells (eTo.f ⟨4, [123], 0, 0⟩).toArray 77) = Y := ⟨_, rfl⟩
        replace hT9 : eTo.LiesT (X.alloc (.cells (eTo.f ⟨4, [123], 0, 0⟩).toArray 77)) (some ⟨X.heap.size, 0, none⟩) [⟨4, [123], 0, 0⟩] := hT9
        rw [hY] at hbY hT9 ⊢
        have Kny := Lib.hid (Knx.out.below hbY)
        have HT9 := Lib.hid hT9
        clear hY hbY hT9
        refine hK.out _ _ trivial (fun hHeld => ?_)
        clear hK K
        (try simp only [Act.put, nA, nB, nC])
        refine wpAnyH_ready (rs := [5]) (by kernel_rfl) (by simp) ?_
        refine AllReadyH.cons rfl (fun K hK => ?_) AllReadyH.nil
        go_simp
        go_at_call 56
        refine (need_any Kny.out.p [⟨4, [123], 0, 0⟩] (one_kd 4 (by decide) _) (some ⟨_, 0, none⟩) 1 HT9.out (by simp)).mono ?_
        rintro e9 Z hN
        rw [nd1_no hq] at hN
        obtain ⟨rfl, hpZ, hgZ⟩ := hN
        have hg9 := grown_trans Kny.out.g hgZ
        go_wp2_with fail
        exact ⟨rfl, BlR.bad' HE.out rfl hpZ hg9⟩
      · have HE := Lib.hid (HF.out.trans (takeS_yes hq))
        refine wp_region_held_drew (S := fun W9 => True) (by kernel_rfl) trivial (fun hHeld => ?_)
        have HUd := Lib.hid HX.out.drew
        refine heldTake (i := 0) (d := some 34) (v := ?_) rfl rfl (by kernel_rfl) (by kernel_rfl) (by kernel_rfl) (fun _ _ _ h => h) (by kernel_rfl) ?hyq_16 (by assumption) ?restq_16
        case hyq_16 => (intro W9 hSw; (try dsimp only at hSw); go_simp; try (with_reducible rfl))
        (try simp only [Act.put, nA, nB, nC])
        refine heldTake (i := 1) (d := some 35) (v := ?_) rfl rfl (by kernel_rfl) (by kernel_rfl) (by kernel_rfl) (fun _ _ _ h => h) (by kernel_rfl) ?hyq_17 (by assumption) ?restq_17
        case hyq_17 => (intro W9 hSw; (try dsimp only at hSw); go_simp; try (with_reducible rfl))
        (try simp only [Act.put, nA, nB, nC])
        refine heldTake (i := 2) (d := some 36) (v := ?_) rfl rfl (by kernel_rfl) (by kernel_rfl) (by kernel_rfl) (fun _ _ _ h => h) (by kernel_rfl) ?hyq_18 (by assumption) ?restq_18
        case hyq_18 => (intro W9 hSw; (try dsimp only at hSw); go_simp; try (with_reducible rfl))
        (try simp only [Act.put, nA, nB, nC])
        refine wpAnyH_ready (rs := [3]) (by kernel_rfl) (by simp) ?_
        refine AllReadyH.cons rfl (fun K hK => ?_) AllReadyH.nil
        go_simp
        go_at_call 58
        refine (sign_any [123] _).mono ?_
        rintro e9 X ⟨rfl, hbX⟩
        have HUx := Lib.hid (HUd.out.below hbX)
        clear hbX
        go_wp2_with fail
        refine hK.out _ _ trivial (fun hHeld => ?_)
        clear hK K
        (try simp only [Act.put, nA, nB, nC])
        refine wpAnyH_ready (rs := [4]) (by kernel_rfl) (by simp) ?_
        refine AllReadyH.cons rfl (fun K hK => ?_) AllReadyH.nil
        (try rw [if_pos (by kernel_rfl)])
        refine El.op_build1 eTo X 22 (.agg #[.int .u8 0, .string ⟨#[]⟩, .int .i64 0, .int .i64 0]) 40 Try.underlying22 tok_info rfl (by decide) (.tmp 37) rfl (tV ⟨4, [123], 0, 0⟩) ⟨4, [123], 0, 0⟩ rfl rfl ?_
        change K (Act.put _ (some 38) (.slice (some ⟨X.heap.size, 0, none⟩) 1 1)) (X.alloc (.cells (eTo.f ⟨4, [123], 0, 0⟩).toArray 77))
        have hbY := below_lnew X (.cells (eTo.f ⟨4, [123], 0, 0⟩).toArray 77)
        have hT9 := El.liesT_new eTo X [⟨4, [123], 0, 0⟩] (eTo.f ⟨4, [123], 0, 0⟩).toArray (fun i v h => by simpa [eTo, tS] using h)
        obtain ⟨Y, hY⟩ : ∃ Y, X.alloc (.cells (eTo.f ⟨4, [123], 0, 0⟩).toArray 77) = Y := ⟨_, rfl⟩
        replace hT9 : eTo.LiesT (X.alloc (.cells (eTo.f ⟨4, [123], 0, 0⟩).toArray 77)) (some ⟨X.heap.size, 0, none⟩) [⟨4, [123], 0, 0⟩] := hT9
        rw [hY] at hbY hT9 ⊢
        have HUy := Lib.hid (HUx.out.below hbY)
        have HT9 := Lib.hid hT9
        clear hY hbY hT9
        refine hK.out _ _ trivial (fun hHeld => ?_)
        clear hK K
        (try simp only [Act.put, nA, nB, nC])
        refine wpAnyH_ready (rs := [5]) (by kernel_rfl) (by simp) ?_
        refine AllReadyH.cons rfl (fun K hK => ?_) AllReadyH.nil
        go_simp
        go_at_call 56
        refine (need_any HUy.out.p [⟨4, [123], 0, 0⟩] (one_kd 4 (by decide) _) (some ⟨_, 0, none⟩) 1 HT9.out (by simp)).mono ?_
        rintro e9 Z hN
        rw [nd1_yes hq] at hN
        obtain ⟨rfl, hpZ, hgZ⟩ := hN
        have HU := Lib.hid (HUy.out.step hpZ hgZ (tail_le _))
        clear hpZ hgZ HUd HUx HUy HT9
        go_wp2_with fail
        refine hK.out _ _ trivial (fun hHeld => ?_)
        clear hK K
        (try simp only [Act.put, nA, nB, nC])
        refine wpAnyH_done (by kernel_rfl) ?_ _
        have hvt := tail_le z
        have hbn := below_lnew Z (.cells #[.slice none 0 0, .bool false] 124)
        have HC8 := Lib.hid (heap_alloc_new Z (.cells #[.slice none 0 0, .bool false] 124))
        have HU8 := Lib.hid (HU.out.below hbn)
        have hz8 : w.heap.size ≤ (Z.alloc (.cells #[.slice none 0 0, .bool false] 124)).heap.size := HU8.out.g.size
        have hol : (rest.reverse ++ [a2]).length ≤ 1000000 := by
         have h1 := HNB.out
         have h2 := HX.out.p.n
         simp
         omega
        clear hbn HX HU
        go_wp2_with (first
         | (at_builtin
            refine El.app1 eLv _ rfl 125 (.agg #[.slice none 0 0, .bool false]) 32 Try.underlying125 lv_info rfl (by decide) (by decide) (.tmp 40) (.tmp 42) rfl w.heap.size (.slice (some ⟨gv, 0, none⟩) (rest.length + 1) cv) (rest.reverse ++ [a2]) rfl HU8.out.r Z.heap.size 1 ⟨[], none, 0, false⟩ rfl 124 HC8.out hol hz8 ?_
            intro v9 w9 ho9 hg9
            obtain ⟨g9, c9, rfl⟩ := El.Own.at0 ho9 (by simp)
            have HB9 := Lib.hid (BlZ.push HU8.out false (by have := HNB.out; omega) hg9 (by rw [List.reverse_cons]; exact ho9))
            clear ho9 hg9))
        go_ret
        have hl9 : (rest.reverse ++ [a2] ++ [(⟨[], none, 0, false⟩ : LvM)]).length = (a2 :: rest).length + 1 := by simp
        rw [hl9] at HB9
        refine BlR.ok' (v := .slice (some ⟨g9, 0, none⟩) ((a2 :: rest).length + 1) c9) (ms := ⟨[], none, 0, false⟩ :: a2 :: rest) HE.out rfl ?_ ?_
        · exact BlW.mk rfl (fun b hb => (List.mem_cons.1 hb).elim (fun e => by rw [e, HAX.out]; simp) (hne b)) HB9.out
        · rw [List.map_cons, List.map_cons, HD2.out]
          rfl
    · have h6b : (kd != 6) = true := bne_iff_ne.2 h6
      by_cases h7 : kd = 7
      · have HF := Lib.hid (HFF.out.trans (if_pos (.inr h7)))
        subst h7
        go_wp2_with fail
        cases hq : isT 4 [123] z
        · have HE := Lib.hid (HF.out.trans (takeS_no hq))
          refine wp_region_held_drew (S := fun W9 => True) (by kernel_rfl) trivial (fun hHeld => ?_)
          have Knd := Lib.hid HX.out.drew
          refine heldTake (i := 0) (d := some 34) (v := ?_) rfl rfl (by kernel_rfl) (by kernel_rfl) (by kernel_rfl) (fun _ _ _ h => h) (by kernel_rfl) ?hyq_19 (by assumption) ?restq_19
          case hyq_19 => (intro W9 hSw; (try dsimp only at hSw); go_simp; try (with_reducible rfl))
          (try simp only [Act.put, nA, nB, nC])
          refine heldTake (i := 1) (d := some 35) (v := ?_) rfl rfl (by kernel_rfl) (by kernel_rfl) (by kernel_rfl) (fun _ _ _ h => h) (by kernel_rfl) ?hyq_20 (by assumption) ?restq_20
          case hyq_20 => (intro W9 hSw; (try dsimp only at hSw); go_simp; try (with_reducible rfl))
          (try simp only [Act.put, nA, nB, nC])
          refine heldTake (i := 2) (d := some 36) (v := ?_) rfl rfl (by kernel_rfl) (by kernel_rfl) (by kernel_rfl) (fun _ _ _ h => h) (by kernel_rfl) ?hyq_21 (by assumption) ?restq_21
          case hyq_21 => (intro W9 hSw; (try dsimp only at hSw); go_simp; try (with_reducible rfl))
          (try simp only [Act.put, nA, nB, nC])
          refine wpAnyH_ready (rs := [3]) (by kernel_rfl) (by simp) ?_
          refine AllReadyH.cons rfl (fun K hK => ?_) AllReadyH.nil
          go_simp
          go_at_call 58
          refine (sign_any [123] _).mono ?_
          rintro e9 X ⟨rfl, hbX⟩
          have Knx := Lib.hid (Knd.out.below hbX)
          clear hbX
          go_wp2_with fail
          refine hK.out _ _ trivial (fun hHeld => ?_)
          clear hK K
          (try simp only [Act.put, nA, nB, nC])
          refine wpAnyH_ready (rs := [4]) (by kernel_rfl) (by simp) ?_
          refine AllReadyH.cons rfl (fun K hK => ?_) AllReadyH.nil
          (try rw [if_pos (by kernel_rfl)])
          refine El.op_build1 eTo X 22 (.agg #[.int .u8 0, .string ⟨#[]⟩, .int .i64 0, .int .i64 0]) 40 Try.underlying22 tok_info rfl (by decide) (.tmp 37) rfl (tV ⟨4, [123], 0, 0⟩) ⟨4, [123], 0, 0⟩ rfl rfl ?_
          change K (Act.put _ (some 38) (.slice (some ⟨X.heap.size, 0, none⟩) 1 1)) (X.alloc (.cells (eTo.f ⟨4, [123], 0, 0⟩).toArray 77))
          have hbY := below_lnew X (.cells (eTo.f ⟨4, [123], 0, 0⟩).toArray 77)
          have hT9 := El.liesT_new eTo X [⟨4, [123], 0, 0⟩] (eTo.f ⟨4, [123], 0, 0⟩).toArray (fun i v h => by simpa [eTo, tS] using h)
          obtain ⟨Y, hY⟩ : ∃ Y, X.alloc (.cells (eTo.f ⟨4, [123], 0, 0⟩).toArray 77) = Y := ⟨_, rfl⟩
          replace hT9 : eTo.LiesT (X.alloc (.cells (eTo.f ⟨4, [123], 0, 0⟩).toArray 77)) (some ⟨X.heap.size, 0, none⟩) [⟨4, [123], 0, 0⟩] := hT9
          rw [hY] at hbY hT9 ⊢
          have Kny := Lib.hid (Knx.out.below hbY)
          have HT9 := Lib.hid hT9
          clear hY hbY hT9
          refine hK.out _ _ trivial (fun hHeld => ?_)
          clear hK K
          (try simp only [Act.put, nA, nB, nC])
          refine wpAnyH_ready (rs := [5]) (by kernel_rfl) (by simp) ?_
          refine AllReadyH.cons rfl (fun K hK => ?_) AllReadyH.nil
          go_simp
          go_at_call 56
          refine (need_any Kny.out.p [⟨4, [123], 0, 0⟩] (one_kd 4 (by decide) _) (some ⟨_, 0, none⟩) 1 HT9.out (by simp)).mono ?_
          rintro e9 Z hN
          rw [nd1_no hq] at hN
          obtain ⟨rfl, hpZ, hgZ⟩ := hN
          have hg9 := grown_trans Kny.out.g hgZ
          go_wp2_with fail
          exact ⟨rfl, BlR.bad' HE.out rfl hpZ hg9⟩
        · have HE := Lib.hid (HF.out.trans (takeS_yes hq))
          refine wp_region_held_drew (S := fun W9 => True) (by kernel_rfl) trivial (fun hHeld => ?_)
          have HUd := Lib.hid HX.out.drew
          refine heldTake (i := 0) (d := some 34) (v := ?_) rfl rfl (by kernel_rfl) (by kernel_rfl) (by kernel_rfl) (fun _ _ _ h => h) (by kernel_rfl) ?hyq_22 (by assumption) ?restq_22
          case hyq_22 => (intro W9 hSw; (try dsimp only at hSw); go_simp; try (with_reducible rfl))
          (try simp only [Act.put, nA, nB, nC])
          refine heldTake (i := 1) (d := some 35) (v := ?_) rfl rfl (by kernel_rfl) (by kernel_rfl) (by kernel_rfl) (fun _ _ _ h => h) (by kernel_rfl) ?hyq_23 (by assumption) ?restq_23
          case hyq_23 => (intro W9 hSw; (try dsimp only at hSw); go_simp; try (with_reducible rfl))
          (try simp only [Act.put, nA, nB, nC])
          refine heldTake (i := 2) (d := some 36) (v := ?_) rfl rfl (by kernel_rfl) (by kernel_rfl) (by kernel_rfl) (fun _ _ _ h => h) (by kernel_rfl) ?hyq_24 (by assumption) ?restq_24
          case hyq_24 => (intro W9 hSw; (try dsimp only at hSw); go_simp; try (with_reducible rfl))
          (try simp only [Act.put, nA, nB, nC])
          refine wpAnyH_ready (rs := [3]) (by kernel_rfl) (by simp) ?_
          refine AllReadyH.cons rfl (fun K hK => ?_) AllReadyH.nil
          go_simp
          go_at_call 58
          refine (sign_any [123] _).mono ?_
          rintro e9 X ⟨rfl, hbX⟩
          have HUx := Lib.hid (HUd.out.below hbX)
          clear hbX
          go_wp2_with fail
          refine hK.out _ _ trivial (fun hHeld => ?_)
          clear hK K
          (try simp only [Act.put, nA, nB, nC])
          refine wpAnyH_ready (rs := [4]) (by kernel_rfl) (by simp) ?_
          refine AllReadyH.cons rfl (fun K hK => ?_) AllReadyH.nil
          (try rw [if_pos (by kernel_rfl)])
          refine El.op_build1 eTo X 22 (.agg #[.int .u8 0, .string ⟨#[]⟩, .int .i64 0, .int .i64 0]) 40 Try.underlying22 tok_info rfl (by decide) (.tmp 37) rfl (tV ⟨4, [123], 0, 0⟩) ⟨4, [123], 0, 0⟩ rfl rfl ?_
          change K (Act.put _ (some 38) (.slice (some ⟨X.heap.size, 0, none⟩) 1 1)) (X.alloc (.cells (eTo.f ⟨4, [123], 0, 0⟩).toArray 77))
          have hbY := below_lnew X (.cells (eTo.f ⟨4, [123], 0, 0⟩).toArray 77)
          have hT9 := El.liesT_new eTo X [⟨4, [123], 0, 0⟩] (eTo.f ⟨4, [123], 0, 0⟩).toArray (fun i v h => by simpa [eTo, tS] using h)
          obtain ⟨Y, hY⟩ : ∃ Y, X.alloc (.cells (eTo.f ⟨4, [123], 0, 0⟩).toArray 77) = Y := ⟨_, rfl⟩
          replace hT9 : eTo.LiesT (X.alloc (.cells (eTo.f ⟨4, [123], 0, 0⟩).toArray 77)) (some ⟨X.heap.size, 0, none⟩) [⟨4, [123], 0, 0⟩] := hT9
          rw [hY] at hbY hT9 ⊢
          have HUy := Lib.hid (HUx.out.below hbY)
          have HT9 := Lib.hid hT9
          clear hY hbY hT9
          refine hK.out _ _ trivial (fun hHeld => ?_)
          clear hK K
          (try simp only [Act.put, nA, nB, nC])
          refine wpAnyH_ready (rs := [5]) (by kernel_rfl) (by simp) ?_
          refine AllReadyH.cons rfl (fun K hK => ?_) AllReadyH.nil
          go_simp
          go_at_call 56
          refine (need_any HUy.out.p [⟨4, [123], 0, 0⟩] (one_kd 4 (by decide) _) (some ⟨_, 0, none⟩) 1 HT9.out (by simp)).mono ?_
          rintro e9 Z hN
          rw [nd1_yes hq] at hN
          obtain ⟨rfl, hpZ, hgZ⟩ := hN
          have HU := Lib.hid (HUy.out.step hpZ hgZ (tail_le _))
          clear hpZ hgZ HUd HUx HUy HT9
          go_wp2_with fail
          refine hK.out _ _ trivial (fun hHeld => ?_)
          clear hK K
          (try simp only [Act.put, nA, nB, nC])
          refine wpAnyH_done (by kernel_rfl) ?_ _
          have hvt := tail_le z
          have hbn := below_lnew Z (.cells #[.slice none 0 0, .bool false] 124)
          have HC8 := Lib.hid (heap_alloc_new Z (.cells #[.slice none 0 0, .bool false] 124))
          have HU8 := Lib.hid (HU.out.below hbn)
          have hz8 : w.heap.size ≤ (Z.alloc (.cells #[.slice none 0 0, .bool false] 124)).heap.size := HU8.out.g.size
          have hol : (rest.reverse ++ [a2]).length ≤ 1000000 := by
           have h1 := HNB.out
           have h2 := HX.out.p.n
           simp
           omega
          clear hbn HX HU
          go_wp2_with (first
           | (at_builtin
              refine El.app1 eLv _ rfl 125 (.agg #[.slice none 0 0, .bool false]) 32 Try.underlying125 lv_info rfl (by decide) (by decide) (.tmp 40) (.tmp 42) rfl w.heap.size (.slice (some ⟨gv, 0, none⟩) (rest.length + 1) cv) (rest.reverse ++ [a2]) rfl HU8.out.r Z.heap.size 1 ⟨[], none, 0, false⟩ rfl 124 HC8.out hol hz8 ?_
              intro v9 w9 ho9 hg9
              obtain ⟨g9, c9, rfl⟩ := El.Own.at0 ho9 (by simp)
              have HB9 := Lib.hid (BlZ.push HU8.out false (by have := HNB.out; omega) hg9 (by rw [List.reverse_cons]; exact ho9))
              clear ho9 hg9))
          go_ret
          have hl9 : (rest.reverse ++ [a2] ++ [(⟨[], none, 0, false⟩ : LvM)]).length = (a2 :: rest).length + 1 := by simp
          rw [hl9] at HB9
          refine BlR.ok' (v := .slice (some ⟨g9, 0, none⟩) ((a2 :: rest).length + 1) c9) (ms := ⟨[], none, 0, false⟩ :: a2 :: rest) HE.out rfl ?_ ?_
          · exact BlW.mk rfl (fun b hb => (List.mem_cons.1 hb).elim (fun e => by rw [e, HAX.out]; simp) (hne b)) HB9.out
          · rw [List.map_cons, List.map_cons, HD2.out]
            rfl
      · have h7b : (kd != 7) = true := bne_iff_ne.2 h7
        have HE := Lib.hid (HFF.out.trans (if_neg (fun q => q.elim h6 h7)))
        go_wp2_with fail
        go_ret
        exact BlR.ok' HE.out rfl (BlW.mk rfl hne HX.out) (by rw [List.map_cons, HD2.out])
 · have HE := Lib.hid (HR.out.trans (congrArg (fun q => R.bind (bdS q) _) hs))
   rw [hs] at HS
   go_enter Try.func73, Try.ntmps73
   go_wp2_with fail
   refine HS.out.mono ?_
   rintro e w2 ⟨rfl, hp2, hg2⟩
   have hg9 := grown_trans H0.out.g hg2
   go_wp2_with fail
   exact ⟨rfl, BlR.bad' HE.out rfl hp2 hg9⟩
 · rw [hs] at HS
   go_enter Try.func73, Try.ntmps73
   go_wp2_with fail
   refine HS.out.mono ?_
   rintro e w2 h2
   exact h2.elim
end
end Go.Proofs.Ytjllbacefbjjaaa
