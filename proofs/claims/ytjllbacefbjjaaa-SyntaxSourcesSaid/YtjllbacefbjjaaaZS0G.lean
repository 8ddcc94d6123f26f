/-
  Merged for a claim: S0G.
-/
import Derived.Test.YtjllbacefbjjaaaZJ15
import Derived.Deep.CutRange
namespace Go.Proofs.Ytjllbacefbjjaaa
open Go Go.RowKit

def BlW (w : World) (gp : Nat) (A : Option Addr) (c : Nat) (l : List To) (v : Value) (ms : List LvM) (W : World) (u : List To) : Prop :=
 ∃ (m : LvM) (rest : List LvM) (gv cv : Nat), ms = m :: rest ∧ v = .slice (some ⟨gv, 0, none⟩) (rest.length + 1) cv ∧ (∀ a ∈ rest, a.xs ≠ []) ∧ BlZ w gp A c l v m m.xs m rest W u
def BlR (w : World) (gp : Nat) (A : Option Addr) (c : Nat) (l : List To) (r : R (List Lv)) (e : Ending) (w' : World) : Prop := match r with
 | .ok o z => ∃ (v : Value) (ms : List LvM), e = .returned v ∧ ms.map LvM.d = o ∧ BlW w gp A c l v ms w' z
 | .bad z => e = .panicked misC ∧ Ps w' gp A c l z ∧ w.grownBy w' (some gp)
 | .out => False
def cloP (t a : Lv) (o : List Lv) (u : List To) : R (List Lv) :=
 if t.el = true then .ok (a.mod (·.setE t.l) :: o) u
 else if lastK a.l = 6 ∧ isW wElse u = true then takeS [123] u.tail fun v => .ok (⟨[], true⟩ :: a.mod (·.setB t.l) :: o) v
 else .ok (a.mod (·.setB t.l) :: o) u
section
variable {w W : World} {gp : Nat} {A : Option Addr} {c : Nat} {l u : List To} {m a : LvM} {o : List LvM} {ys : List XS} {t : XS}
theorem lvCells {gv cv N : Nat} {mc : LvM} {rows : List XS} {rest : List LvM} (h : BlZ w gp A c l (.slice (some ⟨gv, 0, none⟩) (N + 1) cv) mc rows m rest W u) (hN : N = rest.length) : W.cell? ⟨gv, N * 2, none⟩ = some (.slice mc.A mc.xs.length mc.c) ∧ W.cell? ⟨gv, N * 2 + 1, none⟩ = some (.bool mc.el) := by
 have hlr : rest.reverse.length = N := by rw [hN]; simp
 have hro : eLv.Own W w.heap.size (.slice (some ⟨gv, 0, none⟩) (rest.reverse.length + 1) cv) (rest.reverse ++ [mc]) := by rw [hlr]; exact h.r
 have k0 := El.Own.lastAt hro (f := 0) rfl
 have k1 := El.Own.lastAt hro (f := 1) rfl
 rw [hlr, show eLv.sz = 2 from rfl, Nat.add_zero] at k0
 rw [hlr, show eLv.sz = 2 from rfl] at k1
 exact ⟨k0, k1⟩
theorem BlW.mk {M gv cv : Nat} {a2 : LvM} (hM : M = o.length) (ho : ∀ b ∈ o, b.xs ≠ []) (h : BlZ w gp A c l (.slice (some ⟨gv, 0, none⟩) (M + 1) cv) a2 a2.xs a2 o W u) : BlW w gp A c l (.slice (some ⟨gv, 0, none⟩) (M + 1) cv) (a2 :: o) W u := by
 subst hM
 exact ⟨a2, o, gv, cv, rfl, rfl, ho, h⟩
theorem BlR.ok' {r : R (List Lv)} {e : Ending} {v : Value} {ms : List LvM} {od : List Lv} (hr : r = .ok od u) (he : e = .returned v) (h : BlW w gp A c l v ms W u) (hd : ms.map LvM.d = od) : BlR w gp A c l r e W := by
 subst hr
 exact ⟨v, ms, he, hd, h⟩
theorem BlR.bad' {r : R (List Lv)} {e : Ending} {z : List To} (hr : r = .bad z) (he : e = .panicked misC) (hp : Ps W gp A c l z) (hg : w.grownBy W (some gp)) : BlR w gp A c l r e W := by
 subst hr
 exact ⟨he, hp, hg⟩
theorem put_E (ha : a.xs = ys ++ [t]) : (LvM.put true m a ys t).d = a.d.mod (·.setE m.d.l) := by
 unfold LvM.put LvM.d Lv.mod
 dsimp only
 rw [ha, xssd_snoc, xssd_snoc, modLast_snoc, XS.put_d, if_pos rfl]
theorem put_B (ha : a.xs = ys ++ [t]) : (LvM.put false m a ys t).d = a.d.mod (·.setB m.d.l) := by
 unfold LvM.put LvM.d Lv.mod
 dsimp only
 rw [ha, xssd_snoc, xssd_snoc, modLast_snoc, XS.put_d, if_neg (by decide)]
set_option maxRecDepth 100000 in
set_option maxHeartbeats 8000000 in
theorem close_any {gv cv ga ca N : Nat} (h : BlZ w gp A c l (.slice (some ⟨gv, 0, none⟩) (N + 1) cv) m m.xs m (a :: o) W u) (hN : N = o.length + 1) (ho : ∀ b ∈ o, b.xs ≠ []) (ha : a.xs = ys ++ [t]) (hv : a.v = .slice (some ⟨ga, 0, none⟩) (ys.length + 1) ca) (hc : N + 1 ≤ cv) :
 Calls Try.prog 72 #[.pointer (some ⟨gp, 0, none⟩), .slice (some ⟨gv, 0, none⟩) (N + 1) cv] W (BlR w gp A c l (cloP m.d a.d (o.map LvM.d) u)) := by
 obtain ⟨r, hr⟩ : ∃ r, cloP m.d a.d (o.map LvM.d) u = r := ⟨_, rfl⟩
 rw [hr]
 have HR := Lib.hid hr.symm
 have H0 := Lib.hid h
 have hlr : ((a :: o).reverse).length = N := by rw [hN]; simp
 have hro : eLv.Own W w.heap.size (.slice (some ⟨gv, 0, none⟩) ((a :: o).reverse.length + 1) cv) ((a :: o).reverse ++ [m]) := by rw [hlr]; exact h.r
 have k0 := El.Own.lastAt hro (f := 0) rfl
 have k1 := El.Own.lastAt hro (f := 1) rfl
 rw [hlr, show eLv.sz = 2 from rfl, Nat.add_zero] at k0
 rw [hlr, show eLv.sz = 2 from rfl] at k1
 have hNb : N ≤ 1000000 := by
  have h1 := h.n.2.2
  have h2 := h.p.n
  rw [List.length_cons] at h1
  omega
 have HN := Lib.hid hN
 have HNL := Lib.hid (show N = (a :: o).length by rw [hN]; rfl)
 have HV := Lib.hid hv
 have HA := Lib.hid ha
 unfold LvM.v at k0
 have hNi : (N : Int) < (N : Int) + 1 := by omega
 have hN0 : (0 : Int) ≤ (N : Int) := by omega
 have hwN : IntKind.i64.wrap (N : Int) = (N : Int) := by rw [IntKind.wrap_i64]; omega
 have hNc : (N : Int) ≤ (cv : Int) := by omega
 clear hr h hlr hro hN hv ha
 go_enter Try.func72, Try.ntmps72
 go_upto_region 1 with fail
 go_wp2_with fail
 refine wp_region_held_drew (S := fun W9 => W9.cell? ⟨gv, N * 2, none⟩ = some (.slice m.A m.xs.length m.c) ∧ W9.cell? ⟨gv, N * 2 + 1, none⟩ = some (.bool m.el)) (by kernel_rfl) ⟨k0, k1⟩ (fun hHeld => ?_)
 have HD := Lib.hid H0.out.drew
 generalize W.drew = Wd at *
 refine heldTake (i := 0) (d := some 8) (v := ?_) rfl rfl (by kernel_rfl) (by kernel_rfl) (by kernel_rfl) (fun _ _ _ h => h) (by kernel_rfl) ?hyq_1 (by assumption) ?restq_1
 case hyq_1 => (intro W9 hSw; (try dsimp only at hSw); go_simp; try (with_reducible rfl))
 (try simp only [Act.put, nA, nB, nC])
 refine heldTake (i := 1) (d := some 9) (v := ?_) rfl rfl (by kernel_rfl) (by kernel_rfl) (by kernel_rfl) (fun _ _ _ h => h) (by kernel_rfl) ?hyq_2 (by assumption) ?restq_2
 case hyq_2 => (intro W9 hSw; (try dsimp only at hSw); go_simp; try (with_reducible rfl))
 (try simp only [Act.put, nA, nB, nC])
 refine heldTake (i := 2) (d := some 10) (v := ?_) rfl rfl (by kernel_rfl) (by kernel_rfl) (by kernel_rfl) (fun _ _ _ h => h) (by kernel_rfl) ?hyq_3 (by assumption) ?restq_3
 case hyq_3 => (intro W9 hSw; (try dsimp only at hSw); go_simp; try (with_reducible rfl))
 (try simp only [Act.put, nA, nB, nC])
 refine heldTake (i := 3) (d := some 11) (v := ?_) rfl rfl (by kernel_rfl) (by kernel_rfl) (by kernel_rfl) (fun _ _ _ h => h) (by kernel_rfl) ?hyq_4 (by assumption) ?restq_4
 case hyq_4 => (intro W9 hSw; (try dsimp only at hSw); go_simp; try (with_reducible rfl))
 (try simp only [Act.put, nA, nB, nC])
 refine heldTake (i := 4) (d := some 12) (v := ?_) rfl rfl (by kernel_rfl) (by kernel_rfl) (by kernel_rfl) (fun _ _ _ h => h) (by kernel_rfl) ?hyq_5 (by assumption) ?restq_5
 case hyq_5 => (intro W9 hSw; (try dsimp only at hSw); go_simp; try (with_reducible rfl))
 (try simp only [Act.put, nA, nB, nC])
 refine heldTake (i := 5) (d := some 13) (v := ?_) rfl rfl (by kernel_rfl) (by kernel_rfl) (by kernel_rfl) (fun _ _ _ h => h) (by kernel_rfl) ?hyq_6 (by assumption) ?restq_6
 case hyq_6 => (intro W9 hSw; (try dsimp only at hSw); go_simp; try (with_reducible rfl))
 (try simp only [Act.put, nA, nB, nC])
 refine heldTake (i := 6) (d := some 14) (v := ?_) rfl rfl (by kernel_rfl) (by kernel_rfl) (by kernel_rfl) (fun _ _ _ h => h) (by kernel_rfl) ?hyq_7 (by assumption) ?restq_7
 case hyq_7 => (intro W9 hSw; (try dsimp only at hSw); go_simp; try (with_reducible rfl))
 (try simp only [Act.put, nA, nB, nC])
 refine heldTake (i := 7) (d := some 15) (v := ?_) rfl rfl (by kernel_rfl) (by kernel_rfl) (by kernel_rfl) (fun _ _ _ h => h) (by kernel_rfl) ?hyq_8 (by assumption) ?restq_8
 case hyq_8 => (intro W9 hSw; (try dsimp only at hSw); go_simp; try (with_reducible rfl))
 (try simp only [Act.put, nA, nB, nC])
 refine heldTake (i := 8) (d := some 16) (v := ?_) rfl rfl (by kernel_rfl) (by kernel_rfl) (by kernel_rfl) (fun _ _ _ h => h) (by kernel_rfl) ?hyq_9 (by assumption) ?restq_9
 case hyq_9 => (intro W9 hSw; (try dsimp only at hSw); go_simp; try (with_reducible rfl))
 (try simp only [Act.put, nA, nB, nC])
 refine heldTake (i := 9) (d := some 17) (v := ?_) rfl rfl (by kernel_rfl) (by kernel_rfl) (by kernel_rfl) (fun _ _ _ h => h) (by kernel_rfl) ?hyq_10 (by assumption) ?restq_10
 case hyq_10 => (intro W9 hSw; (try dsimp only at hSw); go_simp; try (with_reducible rfl))
 (try simp only [Act.put, nA, nB, nC])
 refine heldTake (i := 10) (d := some 18) (v := ?_) rfl rfl (by kernel_rfl) (by kernel_rfl) (by kernel_rfl) (fun _ _ _ h => h) (by kernel_rfl) ?hyq_11 (by assumption) ?restq_11
 case hyq_11 => (intro W9 hSw; (try dsimp only at hSw); go_simp; try (with_reducible rfl))
 (try simp only [Act.put, nA, nB, nC])
 refine wpAnyH_ready (rs := [11]) (by kernel_rfl) (by simp) ?_
 refine AllReadyH.cons rfl (fun K hK => ?_) AllReadyH.nil
 have hbY := below_lnew Wd (.cells #[.slice none 0 0, .bool false] 124)
 have hcY : CAt (Wd.alloc (.cells #[.slice none 0 0, .bool false] 124)) Wd.heap.size 124 [.slice none 0 0, .bool false] := heap_alloc_new Wd _
 go_simp
 obtain ⟨Y, hY⟩ : ∃ Y, Wd.alloc (.cells #[.slice none 0 0, .bool false] 124) = Y := ⟨_, rfl⟩
 rw [hY] at hbY hcY ⊢
 clear hY
 refine hK.out _ _ (lvCells (HD.out.below hbY) HNL.out) (fun hHeld => ?_)
 clear hK K
 (try simp only [Act.put, nA, nB, nC])
 refine wpAnyH_ready (rs := [12]) (by kernel_rfl) (by simp) ?_
 refine AllReadyH.cons rfl (fun K hK => ?_) AllReadyH.nil
 have x0 := hcY.cell (j := 0) (by simp)
 have x1 := hcY.cell (j := 1) (by simp)
 have xf0 := hcY.frozen 0
 have xf1 := hcY.frozen 1
 simp only [List.getElem_cons_zero, List.getElem_cons_succ] at x0 x1
 have hb2 := (hbY.setCell (p := ⟨Wd.heap.size, 0, none⟩) (Nat.le_refl _) (.slice m.A m.xs.length m.c)).setCell (p := ⟨Wd.heap.size, 1, none⟩) (Nat.le_refl _) (.bool m.el)
 have hc2 := (hcY.set 0 (.slice m.A m.xs.length m.c)).set 1 (.bool m.el)
 have HY := Lib.hid (HD.out.below hb2)
 have HC := Lib.hid hc2
 clear hb2 hc2 hbY
 go_simp
 refine hK.out _ _ (lvCells HY.out HNL.out) (fun hHeld => ?_)
 clear hK K
 (try simp only [Act.put, nA, nB, nC])
 refine heldTake (i := 13) (d := some 1) (v := ?_) rfl rfl (by kernel_rfl) (by kernel_rfl) (by kernel_rfl) (fun _ _ _ h => h) (by kernel_rfl) ?hyq_12 (by assumption) ?restq_12
 case hyq_12 => (intro W9 hSw; (try dsimp only at hSw); go_simp; try (with_reducible rfl))
 (try simp only [Act.put, nA, nB, nC])
 refine wpAnyH_done (by kernel_rfl) ?_ _
 obtain ⟨W2, hW2⟩ : ∃ W2, (Y.setCell ⟨Wd.heap.size, 0, none⟩ (.slice m.A m.xs.length m.c)).setCell ⟨Wd.heap.size, 1, none⟩ (.bool m.el) = W2 := ⟨_, rfl⟩
 rw [hW2] at HY HC ⊢
 generalize Wd.heap.size = g5 at *
 clear hW2 x0 x1 xf0 xf1 hcY HD k0 k1 H0
 obtain ⟨M, hM⟩ : ∃ M, N = M + 1 := ⟨o.length, HN.out⟩
 subst hM
 have HML := Lib.hid (show M = o.length by have := HN.out; omega)
 have hy0 : eLv.Own W2 w.heap.size (.slice (some ⟨gv, 0, none⟩) (o.reverse.length + 1) cv) (o.reverse ++ [a]) := by
  have h1 := HY.out.r
  rw [List.reverse_cons] at h1
  have h2 := h1.front
  rwa [show (o.reverse ++ [a]).length = o.reverse.length + 1 by simp] at h2
 have k2 := El.Own.lastAt hy0 (f := 0) (z := a.v) rfl
 rw [HV.out, show o.reverse.length = M by rw [HML.out]; simp, show eLv.sz = 2 from rfl, Nat.add_zero] at k2
 have hwM : IntKind.i64.wrap (M : Int) = (M : Int) := by rw [IntKind.wrap_i64]; omega
 have hM0 : (0 : Int) ≤ (M : Int) := by omega
 have hMi : (M : Int) < (M : Int) + 1 := by omega
 have hyb : ys.length ≤ 1000000 := by
  have h1 := HY.out.n.2.1 a (by simp)
  have h2 := HY.out.p.n
  rw [HA.out] at h1
  simp at h1
  omega
 have hwY : IntKind.i64.wrap (ys.length : Int) = (ys.length : Int) := by rw [IntKind.wrap_i64]; omega
 have hY0 : (0 : Int) ≤ (ys.length : Int) := by omega
 have hYi : (ys.length : Int) < (ys.length : Int) + 1 := by omega
 have d0 := HC.out.cell (j := 0) (by simp)
 have d1 := HC.out.cell (j := 1) (by simp)
 simp only [List.set_cons_zero, List.set_cons_succ, List.getElem_cons_zero, List.getElem_cons_succ] at d0 d1
 have hoa : eSt.Own W2 w.heap.size (.slice (some ⟨ga, 0, none⟩) (ys.length + 1) ca) (ys ++ [t]) := by rw [← HV.out, ← HA.out]; exact HY.out.o a (by simp)
 obtain ⟨z9, hz9⟩ : ∃ z, t.cs[9]? = some z := ⟨_, List.getElem?_eq_getElem (by rw [XS.cs_len]; omega)⟩
 obtain ⟨z10, hz10⟩ : ∃ z, t.cs[10]? = some z := ⟨_, List.getElem?_eq_getElem (by rw [XS.cs_len]; omega)⟩
 have e9 := El.Own.lastAt hoa (f := 9) hz9
 have e10 := El.Own.lastAt hoa (f := 10) hz10
 have ef9 := El.Own.lastFrozen hoa (ys.length * 11 + 9)
 have ef10 := El.Own.lastFrozen hoa (ys.length * 11 + 10)
 rw [show eSt.sz = 11 from rfl] at e9 e10
 have HZE := Lib.hid (BlZ.close true (by rw [← HML.out]; exact HY.out) HA.out HV.out)
 have HZB := Lib.hid (BlZ.close false (by rw [← HML.out]; exact HY.out) HA.out HV.out)
 rw [if_pos rfl, ← HML.out] at HZE
 rw [if_neg (by decide), ← HML.out] at HZB
 unfold LvM.v at HZE HZB
 clear hy0 hoa hz9 hz10 hNi hN0 hwN hNc
 unfold cloP at HR
 cases hel : m.el
 · rw [hel] at d1
   have HG := Lib.hid (HR.out.trans (if_neg (by show ¬ m.el = true; rw [hel]; decide)))
   have HNB := Lib.hid (show o.length + 1 + u.length ≤ l.length by have := HY.out.n.2.2; rw [List.length_cons] at this; omega)
   obtain ⟨kd, hkd, hkc⟩ : ∃ kd : Int, lastK a.d.l = kd ∧ (t.put false m).cs[0]? = some (.int .u8 kd) := by
    refine ⟨t.d.kd, ?_, ?_⟩
    · show lastK (xssd a.xs) = _
      rw [HA.out, xssd_snoc, lastK_snoc]
    · cases t
      rfl
   rw [hkd] at HG
   have HP := Lib.hid (put_B (m := m) HA.out)
   obtain ⟨a2, ha2⟩ : ∃ a2, LvM.put false m a ys t = a2 := ⟨_, rfl⟩
   have hax : a2.xs = ys ++ [t.put false m] := by rw [← ha2]; rfl
   have hav : a2.v = .slice (some ⟨ga, 0, none⟩) (ys.length + 1) ca := by rw [← ha2, LvM.put_v false HA.out, HV.out]
   rw [ha2] at HZB HP
   obtain ⟨Wb, hWb⟩ : ∃ Wb, W2.setCell ⟨ga, ys.length * 11 + 9, none⟩ (.slice m.A m.xs.length m.c) = Wb := ⟨_, rfl⟩
   rw [hWb] at HZB
   have hob : eSt.Own Wb w.heap.size (.slice (some ⟨ga, 0, none⟩) (ys.length + 1) ca) (ys ++ [t.put false m]) := by rw [← hav, ← hax]; exact HZB.out.o0
   have q0 := El.Own.lastAt hob (f := 0) hkc
   rw [show eSt.sz = 11 from rfl, Nat.add_zero] at q0
   have HOB := Lib.hid (fun (Wx : World) (hx : eSt.Own Wx w.heap.size a2.v a2.xs) => (show Wx.cell? ⟨ga, ys.length * 11, none⟩ = some (.int .u8 kd) from by
    rw [hav, hax] at hx
    have := El.Own.lastAt hx (f := 0) hkc
    rwa [show eSt.sz = 11 from rfl, Nat.add_zero] at this))
   have HAX := Lib.hid hax
   go_wp2_with fail
   (try rw [hWb])
   clear hWb hob hkd hkc ha2 hax hav HZE k2 d0 d1 e9 e10 ef9 ef10 HR HC HY
   by_cases hk6 : kd = 6
   · subst hk6
     have HD := Lib.hid HZB.out.drew
     refine wp_region_held_drew (S := fun W9 => W9.cell? ⟨ga, ys.length * 11, none⟩ = some (.int .u8 6)) (by kernel_rfl) q0 (fun hHeld => ?_)
     generalize Wb.drew = Wd at *
     refine heldTake (i := 0) (d := some 44) (v := ?_) rfl rfl (by kernel_rfl) (by kernel_rfl) (by kernel_rfl) (fun _ _ _ h => h) (by kernel_rfl) ?hyq_13 (by assumption) ?restq_13
     case hyq_13 => (intro W9 hSw; (try dsimp only at hSw); go_simp; try (with_reducible rfl))
     (try simp only [Act.put, nA, nB, nC])
     refine heldTake (i := 1) (d := some 45) (v := ?_) rfl rfl (by kernel_rfl) (by kernel_rfl) (by kernel_rfl) (fun _ _ _ h => h) (by kernel_rfl) ?hyq_14 (by assumption) ?restq_14
     case hyq_14 => (intro W9 hSw; (try dsimp only at hSw); go_simp; try (with_reducible rfl))
     (try simp only [Act.put, nA, nB, nC])
     refine heldTake (i := 2) (d := some 46) (v := ?_) rfl rfl (by kernel_rfl) (by kernel_rfl) (by kernel_rfl) (fun _ _ _ h => h) (by kernel_rfl) ?hyq_15 (by assumption) ?restq_15
     case hyq_15 => (intro W9 hSw; (try dsimp only at hSw); go_simp; try (with_reducible rfl))
     (try simp only [Act.put, nA, nB, nC])
     refine heldTake (i := 3) (d := some 47) (v := ?_) rfl rfl (by kernel_rfl) (by kernel_rfl) (by kernel_rfl) (fun _ _ _ h => h) (by kernel_rfl) ?hyq_16 (by assumption) ?restq_16
     case hyq_16 => (intro W9 hSw; (try dsimp only at hSw); go_simp; try (with_reducible rfl))
     (try simp only [Act.put, nA, nB, nC])
     refine heldTake (i := 4) (d := some 48) (v := ?_) rfl rfl (by kernel_rfl) (by kernel_rfl) (by kernel_rfl) (fun _ _ _ h => h) (by kernel_rfl) ?hyq_17 (by assumption) ?restq_17
     case hyq_17 => (intro W9 hSw; (try dsimp only at hSw); go_simp; try (with_reducible rfl))
     (try simp only [Act.put, nA, nB, nC])
     refine heldTake (i := 5) (d := some 49) (v := ?_) rfl rfl (by kernel_rfl) (by kernel_rfl) (by kernel_rfl) (fun _ _ _ h => h) (by kernel_rfl) ?hyq_18 (by assumption) ?restq_18
     case hyq_18 => (intro W9 hSw; (try dsimp only at hSw); go_simp; try (with_reducible rfl))
     (try simp only [Act.put, nA, nB, nC])
     refine heldTake (i := 6) (d := some 50) (v := ?_) rfl rfl (by kernel_rfl) (by kernel_rfl) (by kernel_rfl) (fun _ _ _ h => h) (by kernel_rfl) ?hyq_19 (by assumption) ?restq_19
     case hyq_19 => (intro W9 hSw; (try dsimp only at hSw); go_simp; try (with_reducible rfl))
     (try simp only [Act.put, nA, nB, nC])
     refine heldTake (i := 7) (d := some 51) (v := ?_) rfl rfl (by kernel_rfl) (by kernel_rfl) (by kernel_rfl) (fun _ _ _ h => h) (by kernel_rfl) ?hyq_20 (by assumption) ?restq_20
     case hyq_20 => (intro W9 hSw; (try dsimp only at hSw); go_simp; try (with_reducible rfl))
     (try simp only [Act.put, nA, nB, nC])
     refine heldTake (i := 8) (d := some 52) (v := ?_) rfl rfl (by kernel_rfl) (by kernel_rfl) (by kernel_rfl) (fun _ _ _ h => h) (by kernel_rfl) ?hyq_21 (by assumption) ?restq_21
     case hyq_21 => (intro W9 hSw; (try dsimp only at hSw); go_simp; try (with_reducible rfl))
     (try simp only [Act.put, nA, nB, nC])
     refine wpAnyH_ready (rs := [9]) (by kernel_rfl) (by simp) ?_
     refine AllReadyH.cons rfl (fun K hK => ?_) AllReadyH.nil
     go_simp
     go_at_call 35
     refine (word_any [101, 108, 115, 101] _).mono ?_
     rintro e9 X ⟨rfl, hbX⟩
     have HX := Lib.hid (HD.out.below hbX)
     clear hbX
     go_wp2_with fail
     refine hK.out _ _ (HOB.out _ HX.out.o0) (fun hHeld => ?_)
     clear hK K
     (try simp only [Act.put, nA, nB, nC])
     refine wpAnyH_ready (rs := [10]) (by kernel_rfl) (by simp) ?_
     refine AllReadyH.cons rfl (fun K hK => ?_) AllReadyH.nil
     go_simp
     go_at_call 59
     refine (takeT_any HX.out.p 3 [101, 108, 115, 101] (by decide)).mono ?_
     rintro e9 Y ⟨rfl, hpY, hgY⟩
     have HT := Lib.hid (HX.out.step hpY hgY (stp_len _ _ _))
     clear hpY hgY HX HD HZB
     go_wp2_with fail
     refine hK.out _ _ (HOB.out _ HT.out.o0) (fun hHeld => ?_)
     clear hK K
     (try simp only [Act.put, nA, nB, nC])
     refine heldTake (i := 11) (d := some 55) (v := ?_) rfl rfl (by kernel_rfl) (by kernel_rfl) (by kernel_rfl) (fun _ _ _ h => h) (by kernel_rfl) ?hyq_22 (by assumption) ?restq_22
     case hyq_22 => (intro W9 hSw; (try dsimp only at hSw); go_simp; try (with_reducible rfl))
     (try simp only [Act.put, nA, nB, nC])
     refine heldTake (i := 12) (d := some 56) (v := ?_) rfl rfl (by kernel_rfl) (by kernel_rfl) (by kernel_rfl) (fun _ _ _ h => h) (by kernel_rfl) ?hyq_23 (by assumption) ?restq_23
     case hyq_23 => (intro W9 hSw; (try dsimp only at hSw); go_simp; try (with_reducible rfl))
     (try simp only [Act.put, nA, nB, nC])
     refine wpAnyH_done (by kernel_rfl) ?_ _
     cases hq : isT 3 [101, 108, 115, 101] u
     · rw [stp_no hq] at HT
       have HF := Lib.hid (HG.out.trans (if_neg (fun q => by have := q.2; change isT 3 [101, 108, 115, 101] u = true at this; rw [hq] at this; cases this)))
       go_wp2_with fail
       go_ret
       exact BlR.ok' HF.out rfl (BlW.mk HML.out ho HT.out) (by rw [List.map_cons, HP.out])
     · rw [stp_yes hq] at HT
       have HF := Lib.hid (HG.out.trans (if_pos (by first | exact ⟨rfl, hq⟩ | exact ⟨trivial, hq⟩)))
       have hut := tail_le u
       generalize u.tail = v at *
       clear HG hq
       go_wp2_with fail
       cases hq : isT 4 [123] v
       · have HE := Lib.hid (HF.out.trans (takeS_no hq))
         refine wp_region_held_drew (S := fun W9 => True) (by kernel_rfl) trivial (fun hHeld => ?_)
         have Knd := Lib.hid HT.out.drew
         refine heldTake (i := 0) (d := some 58) (v := ?_) rfl rfl (by kernel_rfl) (by kernel_rfl) (by kernel_rfl) (fun _ _ _ h => h) (by kernel_rfl) ?hyq_24 (by assumption) ?restq_24
         case hyq_24 => (intro W9 hSw; (try dsimp only at hSw); go_simp; try (with_reducible rfl))
         (try simp only [Act.put, nA, nB, nC])
         refine heldTake (i := 1) (d := some 59) (v := ?_) rfl rfl (by kernel_rfl) (by kernel_rfl) (by kernel_rfl) (fun _ _ _ h => h) (by kernel_rfl) ?hyq_25 (by assumption) ?restq_25
         case hyq_25 => (intro W9 hSw; (try dsimp only at hSw); go_simp; try (with_reducible rfl))
         (try simp only [Act.put, nA, nB, nC])
         refine heldTake (i := 2) (d := some 60) (v := ?_) rfl rfl (by kernel_rfl) (by kernel_rfl) (by kernel_rfl) (fun _ _ _ h => h) (by kernel_rfl) ?hyq_26 (by assumption) ?restq_26
         case hyq_26 => (intro W9 hSw; (try dsimp only at hSw); go_simp; try (with_reducible rfl))
         (try simp only [Act.put, nA, nB, nC])
         refine wpAnyH_ready (rs := [3]) (by kernel_rfl) (by simp) ?_
         refine AllReadyH.cons rfl (fun K hK => ?_) AllReadyH.nil
         go_simp
         go_at_call 58
         refine (sign_any [123] _).mono ?_
         rintro e9 X ⟨rfl, hbX⟩
         have Knx := Lib.hid (Knd.out.below hbX)
         clear hbX
         go_wp2_with fail
         refine hK.out _ _ trivial (fun hHeld => ?_)
         clear hK K
         (try simp only [Act.put, nA, nB, nC])
         refine wpAnyH_ready (rs := [4]) (by kernel_rfl) (by simp) ?_
         refine AllReadyH.cons rfl (fun K hK => ?_) AllReadyH.nil
         (try rw [if_pos (by kernel_rfl)])
         refine El.op_build1 eTo X 22 (.agg #[.int .u8 0, .string ⟨#[]⟩, .int .i64 0, .int .i64 0]) 40 Try.underlying22 tok_info rfl (by decide) (.tmp 61) rfl (tV ⟨4, [123], 0, 0⟩) ⟨4, [123], 0, 0⟩ rfl rfl ?_
         change K (Act.put _ (some 62) (.slice (some ⟨X.heap.size, 0, none⟩) 1 1)) (X.alloc (.cells (eTo.f ⟨4, [123], 0, 0⟩).toArray 77))
         have hbY := below_lnew X (.cells (eTo.f ⟨4, [123], 0, 0⟩).toArray 77)
         have hT9 := El.liesT_new eTo X [⟨4, [123], 0, 0⟩] (eTo.f ⟨4, [123], 0, 0⟩).toArray (fun i v h => by simpa [eTo, tS] using h)
         obtain ⟨Y, hY⟩ : ∃ Y, X.alloc (.cells (eTo.f ⟨4, [123], 0, 0⟩).toArray 77) = Y := ⟨_, rfl⟩
         replace hT9 : eTo.LiesT (X.alloc (.cells (eTo.f ⟨4, [123], 0, 0⟩).toArray 77)) (some ⟨X.heap.size, 0, none⟩) [⟨4, [123], 0, 0⟩] := hT9
         rw [hY] at hbY hT9 ⊢
         have Kny := Lib.hid (Knx.out.below hbY)
         have HT9 := Lib.hid hT9
         clear hY hbY hT9
         refine hK.out _ _ trivial (fun hHeld => ?_)
         clear hK K
         (try simp only [Act.put, nA, nB, nC])
         refine wpAnyH_ready (rs := [5]) (by kernel_rfl) (by simp) ?_
         refine AllReadyH.cons rfl (fun K hK => ?_) AllReadyH.nil
         go_simp
         go_at_call 56
         refine (need_any Kny.out.p [⟨4, [123], 0, 0⟩] (one_kd 4 (by decide) _) (some ⟨_, 0, none⟩) 1 HT9.out (by simp)).mono ?_
         rintro e9 Z hN
         rw [nd1_no hq] at hN
         obtain ⟨rfl, hpZ, hgZ⟩ := hN
         have hg9 := grown_trans Kny.out.g hgZ
         go_wp2_with fail
         exact ⟨rfl, BlR.bad' HE.out rfl hpZ hg9⟩
       · have HE := Lib.hid (HF.out.trans (takeS_yes hq))
         refine wp_region_held_drew (S := fun W9 => True) (by kernel_rfl) trivial (fun hHeld => ?_)
         have HUd := Lib.hid HT.out.drew
         refine heldTake (i := 0) (d := some 58) (v := ?_) rfl rfl (by kernel_rfl) (by kernel_rfl) (by kernel_rfl) (fun _ _ _ h => h) (by kernel_rfl) ?hyq_27 (by assumption) ?restq_27
         case hyq_27 => (intro W9 hSw; (try dsimp only at hSw); go_simp; try (with_reducible rfl))
         (try simp only [Act.put, nA, nB, nC])
         refine heldTake (i := 1) (d := some 59) (v := ?_) rfl rfl (by kernel_rfl) (by kernel_rfl) (by kernel_rfl) (fun _ _ _ h => h) (by kernel_rfl) ?hyq_28 (by assumption) ?restq_28
         case hyq_28 => (intro W9 hSw; (try dsimp only at hSw); go_simp; try (with_reducible rfl))
         (try simp only [Act.put, nA, nB, nC])
         refine heldTake (i := 2) (d := some 60) (v := ?_) rfl rfl (by kernel_rfl) (by kernel_rfl) (by kernel_rfl) (fun _ _ _ h => h) (by kernel_rfl) ?hyq_29 (by assumption) ?restq_29
         case hyq_29 => (intro W9 hSw; (try dsimp only at hSw); go_simp; try (with_reducible rfl))
         (try simp only [Act.put, nA, nB, nC])
         refine wpAnyH_ready (rs := [3]) (by kernel_rfl) (by simp) ?_
         refine AllReadyH.cons rfl (fun K hK => ?_) AllReadyH.nil
         go_simp
         go_at_call 58
         refine (sign_any [123] _).mono ?_
         rintro e9 X ⟨rfl, hbX⟩
         have HUx := Lib.hid (HUd.out.below hbX)
         clear hbX
         go_wp2_with fail
         refine hK.out _ _ trivial (fun hHeld => ?_)
         clear hK K
         (try simp only [Act.put, nA, nB, nC])
         refine wpAnyH_ready (rs := [4]) (by kernel_rfl) (by simp) ?_
         refine AllReadyH.cons rfl (fun K hK => ?_) AllReadyH.nil
         (try rw [if_pos (by kernel_rfl)])
         refine El.op_build1 eTo X 22 (.agg #[.int .u8 0, .string ⟨#[]⟩, .int .i64 0, .int .i64 0]) 40 Try.underlying22 tok_info rfl (by decide) (.tmp 61) rfl (tV ⟨4, [123], 0, 0⟩) ⟨4, [123], 0, 0⟩ rfl rfl ?_
         change K (Act.put _ (some 62) (.slice (some ⟨X.heap.size, 0, none⟩) 1 1)) (X.alloc (.cells (eTo.f ⟨4, [123], 0, 0⟩).toArray 77))
         have hbY := below_lnew X (.cells (eTo.f ⟨4, [123], 0, 0⟩).toArray 77)
         have hT9 := El.liesT_new eTo X [⟨4, [123], 0, 0⟩] (eTo.f ⟨4, [123], 0, 0⟩).toArray (fun i v h => by simpa [eTo, tS] using h)
         obtain ⟨Y, hY⟩ : ∃ Y, X.alloc (.cells (eTo.f ⟨4, [123], 0, 0⟩).toArray 77) = Y := ⟨_, rfl⟩
         replace hT9 : eTo.LiesT (X.alloc (.cells (eTo.f ⟨4, [123], 0, 0⟩).toArray 77)) (some ⟨X.heap.size, 0, none⟩) [⟨4, [123], 0, 0⟩] := hT9
         rw [hY] at hbY hT9 ⊢
         have HUy := Lib.hid (HUx.out.below hbY)
         have HT9 := Lib.hid hT9
         clear hY hbY hT9
         refine hK.out _ _ trivial (fun hHeld => ?_)
         clear hK K
         (try simp only [Act.put, nA, nB, nC])
         refine wpAnyH_ready (rs := [5]) (by kernel_rfl) (by simp) ?_
         refine AllReadyH.cons rfl (fun K hK => ?_) AllReadyH.nil
         go_simp
         go_at_call 56
         refine (need_any HUy.out.p [⟨4, [123], 0, 0⟩] (one_kd 4 (by decide) _) (some ⟨_, 0, none⟩) 1 HT9.out (by simp)).mono ?_
         rintro e9 Z hN
         rw [nd1_yes hq] at hN
         obtain ⟨rfl, hpZ, hgZ⟩ := hN
         have HU := Lib.hid (HUy.out.step hpZ hgZ (tail_le _))
         clear hpZ hgZ HUd HUx HUy HT9
         go_wp2_with fail
         refine hK.out _ _ trivial (fun hHeld => ?_)
         clear hK K
         (try simp only [Act.put, nA, nB, nC])
         refine wpAnyH_done (by kernel_rfl) ?_ _
         have hvt := tail_le v
         generalize v.tail = v2 at *
         have hbn := below_lnew Z (.cells #[.slice none 0 0, .bool true] 124)
         have HC8 := Lib.hid (heap_alloc_new Z (.cells #[.slice none 0 0, .bool true] 124))
         have HU8 := Lib.hid (HU.out.below hbn)
         have hz8 : w.heap.size ≤ (Z.alloc (.cells #[.slice none 0 0, .bool true] 124)).heap.size := HU8.out.g.size
         have hol : (o.reverse ++ [a2]).length ≤ 1000000 := by
          have h1 := HML.out
          simp
          omega
         clear hbn HT HU
         go_wp2_with (first
          | (at_builtin
             refine El.app1 eLv _ rfl 125 (.agg #[.slice none 0 0, .bool false]) 32 Try.underlying125 lv_info rfl (by decide) (by decide) (.tmp 64) (.tmp 66) rfl w.heap.size (.slice (some ⟨gv, 0, none⟩) (M + 1) cv) (o.reverse ++ [a2]) rfl HU8.out.r Z.heap.size 1 ⟨[], none, 0, true⟩ rfl 124 HC8.out hol hz8 ?_
             intro v9 w9 ho9 hg9
             obtain ⟨g9, c9, rfl⟩ := El.Own.at0 ho9 (by simp)
             have HB9 := Lib.hid (BlZ.push HU8.out true (by have := HNB.out; omega) hg9 (by rw [List.reverse_cons]; exact ho9))
             clear ho9 hg9))
         go_ret
         have hl9 : (o.reverse ++ [a2] ++ [(⟨[], none, 0, true⟩ : LvM)]).length = (a2 :: o).length + 1 := by simp
         rw [hl9] at HB9
         refine BlR.ok' (v := .slice (some ⟨g9, 0, none⟩) ((a2 :: o).length + 1) c9) (ms := ⟨[], none, 0, true⟩ :: a2 :: o) HE.out rfl ?_ ?_
         · exact BlW.mk rfl (fun b hb => (List.mem_cons.1 hb).elim (fun e => by rw [e, HAX.out]; simp) (ho b)) HB9.out
         · rw [List.map_cons, List.map_cons, HP.out]
           rfl
   · have hk6b : (kd == 6) = false := beq_eq_false_iff_ne.2 hk6
     have hk6c : (kd != 6) = true := bne_iff_ne.2 hk6
     have hk6d : decide (kd = 6) = false := decide_eq_false hk6
     have HF := Lib.hid (HG.out.trans (if_neg (fun q => hk6 q.1)))
     have HD := Lib.hid HZB.out.drew
     refine wp_region_held_drew (S := fun W9 => W9.cell? ⟨ga, ys.length * 11, none⟩ = some (.int .u8 kd)) (by kernel_rfl) q0 (fun hHeld => ?_)
     generalize Wb.drew = Wd at *
     refine heldTake (i := 0) (d := some 44) (v := ?_) rfl rfl (by kernel_rfl) (by kernel_rfl) (by kernel_rfl) (fun _ _ _ h => h) (by kernel_rfl) ?hyq_30 (by assumption) ?restq_30
     case hyq_30 => (intro W9 hSw; (try dsimp only at hSw); go_simp; try (with_reducible rfl))
     (try simp only [Act.put, nA, nB, nC])
     refine heldTake (i := 1) (d := some 45) (v := ?_) rfl rfl (by kernel_rfl) (by kernel_rfl) (by kernel_rfl) (fun _ _ _ h => h) (by kernel_rfl) ?hyq_31 (by assumption) ?restq_31
     case hyq_31 => (intro W9 hSw; (try dsimp only at hSw); go_simp; try (with_reducible rfl))
     (try simp only [Act.put, nA, nB, nC])
     refine heldTake (i := 2) (d := some 46) (v := ?_) rfl rfl (by kernel_rfl) (by kernel_rfl) (by kernel_rfl) (fun _ _ _ h => h) (by kernel_rfl) ?hyq_32 (by assumption) ?restq_32
     case hyq_32 => (intro W9 hSw; (try dsimp only at hSw); go_simp; try (with_reducible rfl))
     (try simp only [Act.put, nA, nB, nC])
     refine heldTake (i := 3) (d := some 47) (v := ?_) rfl rfl (by kernel_rfl) (by kernel_rfl) (by kernel_rfl) (fun _ _ _ h => h) (by kernel_rfl) ?hyq_33 (by assumption) ?restq_33
     case hyq_33 => (intro W9 hSw; (try dsimp only at hSw); go_simp; try (with_reducible rfl))
     (try simp only [Act.put, nA, nB, nC])
     refine heldTake (i := 4) (d := some 48) (v := ?_) rfl rfl (by kernel_rfl) (by kernel_rfl) (by kernel_rfl) (fun _ _ _ h => h) (by kernel_rfl) ?hyq_34 (by assumption) ?restq_34
     case hyq_34 => (intro W9 hSw; (try dsimp only at hSw); go_simp; try (with_reducible rfl))
     (try simp only [Act.put, nA, nB, nC])
     refine heldTake (i := 5) (d := some 49) (v := ?_) rfl rfl (by kernel_rfl) (by kernel_rfl) (by kernel_rfl) (fun _ _ _ h => h) (by kernel_rfl) ?hyq_35 (by assumption) ?restq_35
     case hyq_35 => (intro W9 hSw; (try dsimp only at hSw); go_simp; try (with_reducible rfl))
     (try simp only [Act.put, nA, nB, nC])
     refine heldSkip (i := 6) (d := some 50) rfl rfl (by kernel_rfl) (by kernel_rfl) (by kernel_rfl) (fun _ _ _ h => h) (by kernel_rfl) (by assumption) ?_
     (try simp only [Act.put, nA, nB, nC])
     refine heldSkip (i := 7) (d := some 51) rfl rfl (by kernel_rfl) (by kernel_rfl) (by kernel_rfl) (fun _ _ _ h => h) (by kernel_rfl) (by assumption) ?_
     (try simp only [Act.put, nA, nB, nC])
     refine heldSkip (i := 8) (d := some 52) rfl rfl (by kernel_rfl) (by kernel_rfl) (by kernel_rfl) (fun _ _ _ h => h) (by kernel_rfl) (by assumption) ?_
     (try simp only [Act.put, nA, nB, nC])
     refine heldSkip (i := 9) (d := some 53) rfl rfl (by kernel_rfl) (by kernel_rfl) (by kernel_rfl) (fun _ _ _ h => h) (by kernel_rfl) (by assumption) ?_
     (try simp only [Act.put, nA, nB, nC])
     refine heldSkip (i := 10) (d := some 54) rfl rfl (by kernel_rfl) (by kernel_rfl) (by kernel_rfl) (fun _ _ _ h => h) (by kernel_rfl) (by assumption) ?_
     (try simp only [Act.put, nA, nB, nC])
     refine heldSkip (i := 11) (d := some 55) rfl rfl (by kernel_rfl) (by kernel_rfl) (by kernel_rfl) (fun _ _ _ h => h) (by kernel_rfl) (by assumption) ?_
     (try simp only [Act.put, nA, nB, nC])
     refine heldTake (i := 12) (d := some 56) (v := ?_) rfl rfl (by kernel_rfl) (by kernel_rfl) (by kernel_rfl) (fun _ _ _ h => h) (by kernel_rfl) ?hyq_36 (by assumption) ?restq_36
     case hyq_36 => (intro W9 hSw; (try dsimp only at hSw); go_simp; try (with_reducible rfl))
     (try simp only [Act.put, nA, nB, nC])
     refine wpAnyH_done (by kernel_rfl) ?_ _
     go_wp2_with fail
     go_ret
     exact BlR.ok' HF.out rfl (BlW.mk HML.out ho HD.out) (by rw [List.map_cons, HP.out])
 · rw [hel] at d1
   have HF := Lib.hid (HR.out.trans (if_pos hel))
   go_wp2_with fail
   go_ret
   exact BlR.ok' HF.out rfl (BlW.mk HML.out ho HZE.out) (by rw [List.map_cons, put_E HA.out])
end
end Go.Proofs.Ytjllbacefbjjaaa
