/-
  Merged for a claim: SYH.
-/
import Derived.Test.YtjllbacefbjjaaaZJ4
namespace Go.Proofs.Ytjllbacefbjjaaa
open Go Go.RowKit

theorem tok_f0 (a b x d : Value) (w : World) : (Instr.field 77 (.agg #[a, b, x, d]) 0).run Try.prog w = .ok a w := by kernel_rfl
theorem tok_f1 (a b x d : Value) (w : World) : (Instr.field 77 (.agg #[a, b, x, d]) 1).run Try.prog w = .ok b w := by kernel_rfl
theorem tok_f2 (a b x d : Value) (w : World) : (Instr.field 77 (.agg #[a, b, x, d]) 2).run Try.prog w = .ok x w := by kernel_rfl
section
variable {w w' : World} {gp : Nat} {A : Option Addr} {c : Nat} {l u : List To} {k : Nat}
theorem grown_new {w W W2 : World} {r : Option Nat} (h : w.grownBy W r) (hb : Below w.heap.size W W2) : w.grownBy W2 r :=
 ⟨hb.os.trans h.os, hb.tape.trans h.tape, hb.output.trans h.output, Nat.le_trans h.size hb.size, fun k hk hne => (hb.block k hk).trans (h.block k hk hne)⟩
theorem Ps.inc (_hk : k ≤ l.length) (hu : u = l.drop k) (hc : CAt w gp 57 [.slice A l.length c, .int .i64 k]) (ht : eTo.Lies w gp A l) (hn : l.length ≤ 1000000) (hne : u ≠ []) :
 Ps (w.setCell ⟨gp, 1, none⟩ (.int .i64 ((k : Int) + 1))) gp A c l u.tail := by
 subst hu
 have hlt : k < l.length := by
  rcases Nat.lt_or_ge k l.length with h | h
  · exact h
  · exact absurd (List.drop_eq_nil_of_le h) hne
 refine ⟨⟨k + 1, hlt, by rw [List.tail_drop], ?_⟩, ht.below ((Below.refl gp w).setCell (p := ⟨gp, 1, none⟩) (Nat.le_refl _) _), hn⟩
 have := hc.set 1 (.int .i64 ((k : Int) + 1))
 exact this
set_option maxRecDepth 100000 in
theorem hasName_any (h : Ps w gp A c l u) (t : To) (ht : t.kd ≠ 0) :
 Calls Try.prog 88 #[.pointer (some ⟨gp, 0, none⟩), tV t] w (fun e w' => e = .returned (.bool (isK 1 u && isT t.kd t.tx u.tail)) ∧ Below w.heap.size w w') := by
 have e0 := isT_hd (tx := t.tx) (u := u.tail) ht
 have e1 := isK_hd (kd := 1) (u := u) (by decide)
 obtain ⟨kd, tx, nu, ln⟩ := t
 dsimp only at ht e0
 have hcb := tok_box w ⟨kd, tx, nu, ln⟩
 dsimp only at hcb
 have hbb := below_lnew w (.cells #[.int .u8 kd, .string (str tx), .int .i64 nu, .int .i64 ln] 77)
 obtain ⟨wa, hwa⟩ : ∃ wa, w.alloc (.cells #[.int .u8 kd, .string (str tx), .int .i64 nu, .int .i64 ln] 77) = wa := ⟨_, rfl⟩
 rw [hwa] at hcb hbb
 have HWA := Lib.hid hwa
 have HB0 := Lib.hid hbb.drew
 have HC0 := Lib.hid (show CAt wa.drew w.heap.size 77 (tS ⟨kd, tx, nu, ln⟩) from hcb)
 have HL := Lib.hid (look_any (h.next HB0.out) 0 (by omega))
 have HP := Lib.hid h
 have HS := Lib.hid (fun w1 => same_any (hd u.tail) ⟨kd, tx, nu, ln⟩ w1)
 have hS := hcb.tc
 dsimp only at hS
 rw [← e0, ← e1]
 rw [List.drop_zero] at HL
 clear e0 e1 h hcb hbb hwa
 generalize hd u = t0 at *
 obtain ⟨k0, x0, n0, l0⟩ := t0
 unfold tV tS at HS HL ⊢
 dsimp only at HS HL ⊢
 have hf0 := tok_f0
 by_cases hk : k0 = 1
 · subst hk
   rw [decide_eq_true rfl, Bool.true_and]
   go_enter Try.func88, Try.ntmps88
   go_wp2_with fail
   rw [HWA.out]
   refine wp_region_held_drew (S := fun W9 => (W9.cell? ⟨w.heap.size, 0, none⟩ = some (.int .u8 kd) ∧ W9.cell? ⟨w.heap.size, 1, none⟩ = some (.string (str tx)) ∧ W9.cell? ⟨w.heap.size, 2, none⟩ = some (.int .i64 nu) ∧ W9.cell? ⟨w.heap.size, 3, none⟩ = some (.int .i64 ln))) (by kernel_rfl) (hS) (fun hHeld => ?_)
   refine heldTake (i := 0) (d := some 5) (v := ?_) rfl rfl (by kernel_rfl) (by kernel_rfl) (by kernel_rfl) (fun _ _ _ h => h) (by kernel_rfl) ?hyq_1 (by assumption) ?restq_1
   case hyq_1 => (intro W9 hSw; (try dsimp only at hSw); go_simp; try (with_reducible rfl))
   (try simp only [Act.put, nA, nB, nC])
   refine wpAnyH_ready (rs := [1]) (by kernel_rfl) (by simp) ?_
   refine AllReadyH.cons rfl (fun K hK => ?_) AllReadyH.nil
   go_simp
   go_at_call 55
   refine HL.out.mono ?_
   rintro e9 X ⟨rfl, hbX⟩
   have HB1 := Lib.hid hbX
   have HC1 := Lib.hid (HC0.out.below hbX HC0.out.lt)
   have hSX := HC1.out.tc
   dsimp only at hSX
   have HL2 := Lib.hid (look_any (HP.out.next (HB0.out.trans (HB1.out.mono HB0.out.size))) 1 (by omega))
   rw [hd_tail] at HL2
   go_wp2_with fail
   refine hK.out _ _ hSX (fun hHeld => ?_)
   clear hK K
   (try simp only [Act.put, nA, nB, nC])
   refine heldTake (i := 2) (d := some 7) (v := ?_) rfl rfl (by kernel_rfl) (by kernel_rfl) (by kernel_rfl) (fun _ _ _ h => h) (by kernel_rfl) ?hyq_2 (by assumption) ?restq_2
   case hyq_2 => (intro W9 hSw; (try dsimp only at hSw); go_simp; try (with_reducible rfl))
   (try simp only [Act.put, nA, nB, nC])
   refine heldTake (i := 3) (d := some 8) (v := ?_) rfl rfl (by kernel_rfl) (by kernel_rfl) (by kernel_rfl) (fun _ _ _ h => h) (by kernel_rfl) ?hyq_3 (by assumption) ?restq_3
   case hyq_3 => (intro W9 hSw; (try dsimp only at hSw); go_simp; try (with_reducible rfl))
   (try simp only [Act.put, nA, nB, nC])
   refine heldTake (i := 4) (d := some 9) (v := ?_) rfl rfl (by kernel_rfl) (by kernel_rfl) (by kernel_rfl) (fun _ _ _ h => h) (by kernel_rfl) ?hyq_4 (by assumption) ?restq_4
   case hyq_4 => (intro W9 hSw; (try dsimp only at hSw); go_simp; try (with_reducible rfl))
   (try simp only [Act.put, nA, nB, nC])
   refine heldTake (i := 5) (d := some 10) (v := ?_) rfl rfl (by kernel_rfl) (by kernel_rfl) (by kernel_rfl) (fun _ _ _ h => h) (by kernel_rfl) ?hyq_5 (by assumption) ?restq_5
   case hyq_5 => (intro W9 hSw; (try dsimp only at hSw); go_simp; try (with_reducible rfl))
   (try simp only [Act.put, nA, nB, nC])
   refine heldTake (i := 7) (d := some 12) (v := ?_) rfl rfl (by kernel_rfl) (by kernel_rfl) (by kernel_rfl) (fun _ _ _ h => h) (by kernel_rfl) ?hyq_6 (by assumption) ?restq_6
   case hyq_6 => (intro W9 hSw; (try dsimp only at hSw); go_simp; try (with_reducible rfl))
   (try simp only [Act.put, nA, nB, nC])
   refine wpAnyH_ready (rs := [6]) (by kernel_rfl) (by simp) ?_
   refine AllReadyH.cons rfl (fun K hK => ?_) AllReadyH.nil
   go_simp
   go_at_call 55
   refine HL2.out.mono ?_
   rintro e9 Y ⟨rfl, hbY⟩
   have HB2 := Lib.hid hbY
   have HC2 := Lib.hid (HC1.out.below hbY HC1.out.lt)
   have hSY := HC2.out.tc
   dsimp only at hSY
   go_wp2_with fail
   refine hK.out _ _ hSY (fun hHeld => ?_)
   clear hK K
   (try simp only [Act.put, nA, nB, nC])
   refine wpAnyH_ready (rs := [8]) (by kernel_rfl) (by simp) ?_
   refine AllReadyH.cons rfl (fun K hK => ?_) AllReadyH.nil
   go_simp
   go_at_call 54
   refine (HS.out Y).mono ?_
   rintro e9 Z ⟨rfl, hbZ⟩
   have HB3 := Lib.hid hbZ
   have hSZ := (HC2.out.below hbZ HC2.out.lt).tc
   dsimp only at hSZ
   go_wp2_with fail
   refine hK.out _ _ hSZ (fun hHeld => ?_)
   clear hK K
   (try simp only [Act.put, nA, nB, nC])
   refine heldTake (i := 9) (d := some 14) (v := ?_) rfl rfl (by kernel_rfl) (by kernel_rfl) (by kernel_rfl) (fun _ _ _ h => h) (by kernel_rfl) ?hyq_7 (by assumption) ?restq_7
   case hyq_7 => (intro W9 hSw; (try dsimp only at hSw); go_simp; try (with_reducible rfl))
   (try simp only [Act.put, nA, nB, nC])
   refine heldTake (i := 10) (d := some 4) (v := ?_) rfl rfl (by kernel_rfl) (by kernel_rfl) (by kernel_rfl) (fun _ _ _ h => h) (by kernel_rfl) ?hyq_8 (by assumption) ?restq_8
   case hyq_8 => (intro W9 hSw; (try dsimp only at hSw); go_simp; try (with_reducible rfl))
   (try simp only [Act.put, nA, nB, nC])
   refine wpAnyH_done (by kernel_rfl) ?_ _
   go_wp2_with fail
   go_ret
   exact ⟨rfl, ((HB0.out.trans (HB1.out.mono HB0.out.size)).trans (HB2.out.mono (Nat.le_trans HB0.out.size HB1.out.size))).trans (HB3.out.mono (Nat.le_trans (Nat.le_trans HB0.out.size HB1.out.size) HB2.out.size))⟩
 · have hk2 : (k0 == 1) = false := by simpa using hk
   rw [decide_eq_false hk, Bool.false_and]
   go_enter Try.func88, Try.ntmps88
   go_wp2_with fail
   rw [HWA.out]
   refine wp_region_held_drew (S := fun W9 => (W9.cell? ⟨w.heap.size, 0, none⟩ = some (.int .u8 kd) ∧ W9.cell? ⟨w.heap.size, 1, none⟩ = some (.string (str tx)) ∧ W9.cell? ⟨w.heap.size, 2, none⟩ = some (.int .i64 nu) ∧ W9.cell? ⟨w.heap.size, 3, none⟩ = some (.int .i64 ln))) (by kernel_rfl) (hS) (fun hHeld => ?_)
   refine heldTake (i := 0) (d := some 5) (v := ?_) rfl rfl (by kernel_rfl) (by kernel_rfl) (by kernel_rfl) (fun _ _ _ h => h) (by kernel_rfl) ?hyq_9 (by assumption) ?restq_9
   case hyq_9 => (intro W9 hSw; (try dsimp only at hSw); go_simp; try (with_reducible rfl))
   (try simp only [Act.put, nA, nB, nC])
   refine wpAnyH_ready (rs := [1]) (by kernel_rfl) (by simp) ?_
   refine AllReadyH.cons rfl (fun K hK => ?_) AllReadyH.nil
   go_simp
   go_at_call 55
   refine HL.out.mono ?_
   rintro e9 X ⟨rfl, hbX⟩
   have HB1 := Lib.hid hbX
   have hSX := (HC0.out.below hbX HC0.out.lt).tc
   dsimp only at hSX
   go_wp2_with fail
   refine hK.out _ _ hSX (fun hHeld => ?_)
   clear hK K
   (try simp only [Act.put, nA, nB, nC])
   refine heldTake (i := 2) (d := some 7) (v := ?_) rfl rfl (by kernel_rfl) (by kernel_rfl) (by kernel_rfl) (fun _ _ _ h => h) (by kernel_rfl) ?hyq_10 (by assumption) ?restq_10
   case hyq_10 => (intro W9 hSw; (try dsimp only at hSw); go_simp; try (with_reducible rfl))
   (try simp only [Act.put, nA, nB, nC])
   refine heldTake (i := 3) (d := some 8) (v := ?_) rfl rfl (by kernel_rfl) (by kernel_rfl) (by kernel_rfl) (fun _ _ _ h => h) (by kernel_rfl) ?hyq_11 (by assumption) ?restq_11
   case hyq_11 => (intro W9 hSw; (try dsimp only at hSw); go_simp; try (with_reducible rfl))
   (try simp only [Act.put, nA, nB, nC])
   refine heldTake (i := 4) (d := some 9) (v := ?_) rfl rfl (by kernel_rfl) (by kernel_rfl) (by kernel_rfl) (fun _ _ _ h => h) (by kernel_rfl) ?hyq_12 (by assumption) ?restq_12
   case hyq_12 => (intro W9 hSw; (try dsimp only at hSw); go_simp; try (with_reducible rfl))
   (try simp only [Act.put, nA, nB, nC])
   refine heldSkip (i := 5) (d := some 10) rfl rfl (by kernel_rfl) (by kernel_rfl) (by kernel_rfl) (fun _ _ _ h => h) (by kernel_rfl) (by assumption) ?_
   (try simp only [Act.put, nA, nB, nC])
   refine heldSkip (i := 6) (d := some 11) rfl rfl (by kernel_rfl) (by kernel_rfl) (by kernel_rfl) (fun _ _ _ h => h) (by kernel_rfl) (by assumption) ?_
   (try simp only [Act.put, nA, nB, nC])
   refine heldSkip (i := 7) (d := some 12) rfl rfl (by kernel_rfl) (by kernel_rfl) (by kernel_rfl) (fun _ _ _ h => h) (by kernel_rfl) (by assumption) ?_
   (try simp only [Act.put, nA, nB, nC])
   refine heldSkip (i := 8) (d := some 13) rfl rfl (by kernel_rfl) (by kernel_rfl) (by kernel_rfl) (fun _ _ _ h => h) (by kernel_rfl) (by assumption) ?_
   (try simp only [Act.put, nA, nB, nC])
   refine heldTake (i := 9) (d := some 14) (v := ?_) rfl rfl (by kernel_rfl) (by kernel_rfl) (by kernel_rfl) (fun _ _ _ h => h) (by kernel_rfl) ?hyq_13 (by assumption) ?restq_13
   case hyq_13 => (intro W9 hSw; (try dsimp only at hSw); go_simp; try (with_reducible rfl))
   (try simp only [Act.put, nA, nB, nC])
   refine heldTake (i := 10) (d := some 4) (v := ?_) rfl rfl (by kernel_rfl) (by kernel_rfl) (by kernel_rfl) (fun _ _ _ h => h) (by kernel_rfl) ?hyq_14 (by assumption) ?restq_14
   case hyq_14 => (intro W9 hSw; (try dsimp only at hSw); go_simp; try (with_reducible rfl))
   (try simp only [Act.put, nA, nB, nC])
   refine wpAnyH_done (by kernel_rfl) ?_ _
   go_wp2_with fail
   go_ret
   exact ⟨rfl, HB0.out.trans (HB1.out.mono HB0.out.size)⟩
set_option maxRecDepth 100000 in
theorem take_yes (h : Ps w gp A c l u) (t : To) (ht : t.kd ≠ 0) (hy : isT t.kd t.tx u = true) :
 Calls Try.prog 59 #[.pointer (some ⟨gp, 0, none⟩), tV t] w (fun e w' => e = .returned (.bool true) ∧ Ps w' gp A c l u.tail ∧ w.grownBy w' (some gp)) := by
 have hbb := below_lnew w (.cells #[.int .u8 t.kd, .string (str t.tx), .int .i64 t.nu, .int .i64 t.ln] 77)
 have HH := Lib.hid (has_any (h.next hbb) t ht)
 have HB := Lib.hid hbb
 have HP := Lib.hid h
 have hne := isT_ne hy
 rw [hy] at HH
 clear h hbb
 obtain ⟨kd, tx, nu, ln⟩ := t
 unfold tV tS at HH ⊢
 dsimp only at HH HB ⊢
 go_enter Try.func59, Try.ntmps59
 go_wp2_with fail
 refine HH.out.mono ?_
 rintro e w1 ⟨rfl, hb1⟩
 have HB1 := Lib.hid (HB.out.trans (hb1.mono HB.out.size))
 have h1 := HP.out.next HB1.out
 obtain ⟨k, hk, hu, hc⟩ := h1.k
 have p1 := hc.cell (j := 1) (by simp)
 have f1 := hc.frozen 1
 have hkn : k ≤ 1000000 := by have := h1.n; omega
 simp only [List.getElem_cons_zero, List.getElem_cons_succ] at p1
 have HI := Lib.hid (Ps.inc hk hu hc h1.t h1.n hne)
 clear h1 hu hc HH HP hb1
 go_wp2_with fail
 go_ret
 exact ⟨rfl, HI.out, grown_trans (grown_below HB1.out _) (grown_set _ _ _ _)⟩
set_option maxRecDepth 100000 in
theorem take_no (h : Ps w gp A c l u) (t : To) (ht : t.kd ≠ 0) (hy : isT t.kd t.tx u = false) :
 Calls Try.prog 59 #[.pointer (some ⟨gp, 0, none⟩), tV t] w (fun e w' => e = .returned (.bool false) ∧ Ps w' gp A c l u ∧ w.grownBy w' (some gp)) := by
 have hbb := below_lnew w (.cells #[.int .u8 t.kd, .string (str t.tx), .int .i64 t.nu, .int .i64 t.ln] 77)
 have HH := Lib.hid (has_any (h.next hbb) t ht)
 have HB := Lib.hid hbb
 have HP := Lib.hid h
 rw [hy] at HH
 clear h hbb
 obtain ⟨kd, tx, nu, ln⟩ := t
 unfold tV tS at HH ⊢
 dsimp only at HH HB ⊢
 go_enter Try.func59, Try.ntmps59
 go_wp2_with fail
 refine HH.out.mono ?_
 rintro e w1 ⟨rfl, hb1⟩
 have HB1 := Lib.hid (HB.out.trans (hb1.mono HB.out.size))
 clear HH hb1
 go_wp2_with fail
 go_ret
 exact ⟨rfl, HP.out.next HB1.out, grown_below HB1.out _⟩
set_option maxRecDepth 100000 in
set_option maxHeartbeats 2000000 in
theorem one_yes (h : Ps w gp A c l u) (kd : Int) (ht : kd ≠ 0) (hy : isK kd u = true) :
 Calls Try.prog 70 #[.pointer (some ⟨gp, 0, none⟩), .int .u8 kd] w (fun e w' => e = .returned (tV (hd u)) ∧ Ps w' gp A c l u.tail ∧ w.grownBy w' (some gp)) := by
 have hbb := below_lnew w zT
 have HH := Lib.hid (look_any (h.next hbb) 0 (by omega))
 have HB := Lib.hid hbb
 have HP := Lib.hid h
 have HN := Lib.hid (tok_new w 0)
 have hne := isK_ne hy
 have hkd : (hd u).kd = kd := by
  have := isK_hd (u := u) ht
  rw [hy] at this
  exact of_decide_eq_true this
 rw [List.drop_zero] at HH
 clear h hbb hy
 generalize hd u = t0 at *
 obtain ⟨k0, x0, n0, l0⟩ := t0
 dsimp only at hkd
 subst hkd
 unfold tV tS at HH ⊢
 dsimp only at HH ⊢
 go_enter Try.func70, Try.ntmps70
 go_wp2_with fail
 refine HH.out.mono ?_
 rintro e w1 ⟨rfl, hb1⟩
 have HB1 := Lib.hid (HB.out.trans (hb1.mono HB.out.size))
 have hrc := HN.out.below hb1 HN.out.lt
 have HR := Lib.hid (show CAt w1 w.heap.size 77 _ from hrc)
 have hsz : w.heap.size < w1.heap.size := Nat.lt_of_lt_of_le HN.out.lt hb1.size
 have hgp := HP.out.lt
 have hgp1 : gp < w1.heap.size := by omega
 have h1 := HP.out.next HB1.out
 have HP1 := Lib.hid h1
 obtain ⟨k, hk, hu, hc⟩ := h1.k
 have p1 := hc.cell (j := 1) (by simp)
 have f1 := hc.frozen 1
 have hkn : k ≤ 1000000 := by have := h1.n; omega
 simp only [List.getElem_cons_zero, List.getElem_cons_succ] at p1
 have r0 := hrc.cell (j := 0) (by simp)
 have r1 := hrc.cell (j := 1) (by simp)
 have r2 := hrc.cell (j := 2) (by simp)
 have r3 := hrc.cell (j := 3) (by simp)
 have rf0 := hrc.frozen 0
 have rf1 := hrc.frozen 1
 have rf2 := hrc.frozen 2
 have rf3 := hrc.frozen 3
 simp only [List.getElem_cons_zero, List.getElem_cons_succ] at r0 r1 r2 r3
 have HU := Lib.hid hu
 have HCC := Lib.hid hc
 clear h1 hu hc HH hb1 hrc HN HB
 go_wp2_with fail
 have hI := Ps.inc hk HU.out HCC.out HP1.out.t HP1.out.n hne
 have hS := setT_at ⟨k0, x0, n0, l0⟩ (HR.out.other (p := ⟨gp, 1, none⟩) (show w.heap.size ≠ gp by omega) (.int .i64 ((k : Int) + 1)))
 have hbS := setT_below (W := w1.setCell ⟨gp, 1, none⟩ (.int .i64 ((k : Int) + 1))) (B := w.heap.size) (g := w.heap.size) ⟨k0, x0, n0, l0⟩ (Nat.le_refl _)
 have hbA := below_lnew (setT (w1.setCell ⟨gp, 1, none⟩ (.int .i64 ((k : Int) + 1))) w.heap.size ⟨k0, x0, n0, l0⟩) (.cells #[.int .u8 k0, .string (str x0), .int .i64 n0, .int .i64 l0] 77)
 refine bodyPost_ret (tok_back (t := ⟨k0, x0, n0, l0⟩) rfl rfl (hS.below hbA hS.lt)) rfl ⟨rfl, (hI.below hbS hgp).next hbA, grown_trans (grown_new (grown_trans (grown_below HB1.out _) (grown_set _ _ _ _)) hbS) (grown_below hbA _)⟩
set_option maxRecDepth 100000 in
theorem one_no (h : Ps w gp A c l u) (kd : Int) (ht : kd ≠ 0) (hy : isK kd u = false) :
 Calls Try.prog 70 #[.pointer (some ⟨gp, 0, none⟩), .int .u8 kd] w (fun e w' => e = .panicked misC ∧ Ps w' gp A c l u ∧ w.grownBy w' (some gp)) := by
 have hbb := below_lnew w zT
 have HH := Lib.hid (look_any (h.next hbb) 0 (by omega))
 have HB := Lib.hid hbb
 have HP := Lib.hid h
 have hkd : ¬ (hd u).kd = kd := by
  have := isK_hd (u := u) ht
  rw [hy] at this
  exact of_decide_eq_false this
 rw [List.drop_zero] at HH
 clear h hbb hy
 generalize hd u = t0 at *
 obtain ⟨k0, x0, n0, l0⟩ := t0
 dsimp only at hkd
 have hkd2 : (k0 == kd) = false := by simpa using hkd
 unfold tV tS at HH
 dsimp only at HH
 go_enter Try.func70, Try.ntmps70
 go_wp2_with fail
 refine HH.out.mono ?_
 rintro e w1 ⟨rfl, hb1⟩
 have hbc := below_lnew w1 (.cells #[.int .u8 k0, .string (str x0), .int .i64 n0, .int .i64 l0] 77)
 have HB1 := Lib.hid ((HB.out.trans (hb1.mono HB.out.size)).trans (hbc.mono (Nat.le_trans HB.out.size hb1.size)))
 clear HH hb1 hbc HB
 go_wp2
 exact ⟨rfl, rfl, HP.out.next HB1.out, grown_below HB1.out _⟩
end
end Go.Proofs.Ytjllbacefbjjaaa
