/-
  Merged for a claim: SYG, KH.
-/
import Derived.Test.YtcgohlooelojfaaHJ3
import Derived.Deep.RegionHeld
namespace Go.Proofs.Ytcgohlooelojfaa
open Go Go.RowKit

theorem tok_box (w : World) (t : To) : CAt (w.alloc (.cells #[.int .u8 t.kd, .string (str t.tx), .int .i64 t.nu, .int .i64 t.ln] 79)) w.heap.size 79 (tS t) := heap_alloc_new w _
theorem sign_any (s : List UInt8) (w : World) : Calls Try.prog 60 #[.string (str s)] w (fun e w' => e = .returned (tV ⟨4, s, 0, 0⟩) ∧ Below w.heap.size w w') := by
  go_enter Try.func60, Try.ntmps60
  go_wp2_with fail
  exact bodyPost_ret (tok_back (t := ⟨4, s, 0, 0⟩) rfl rfl (tok_box w ⟨4, s, 0, 0⟩)) rfl ⟨rfl, below_lnew w _⟩
theorem word_any (s : List UInt8) (w : World) : Calls Try.prog 37 #[.string (str s)] w (fun e w' => e = .returned (tV ⟨3, s, 0, 0⟩) ∧ Below w.heap.size w w') := by
  go_enter Try.func37, Try.ntmps37
  go_wp2_with fail
  exact bodyPost_ret (tok_back (t := ⟨3, s, 0, 0⟩) rfl rfl (tok_box w ⟨3, s, 0, 0⟩)) rfl ⟨rfl, below_lnew w _⟩
theorem isT_hd {kd : Int} {tx : List UInt8} {u : List To} (hk : kd ≠ 0) : (decide ((hd u).kd = kd) && decide ((hd u).tx = tx)) = isT kd tx u := by
  cases u with
  | nil => rw [show (hd []).kd = 0 from rfl, decide_eq_false (fun e => hk e.symm)]; rfl
  | cons t v => rfl
theorem isK_hd {kd : Int} {u : List To} (hk : kd ≠ 0) : decide ((hd u).kd = kd) = isK kd u := by
  cases u with
  | nil => rw [show (hd []).kd = 0 from rfl, decide_eq_false (fun e => hk e.symm)]; rfl
  | cons t v => rfl
theorem hd_tail {u : List To} : hd (u.drop 1) = hd u.tail := by rw [List.drop_one]
/-- a token's cells -/
def TC (W : World) (g : Nat) (kd : Int) (tx : List UInt8) (nu ln : Int) : Prop :=
  W.cell? ⟨g, 0, none⟩ = some (.int .u8 kd) ∧ W.cell? ⟨g, 1, none⟩ = some (.string (str tx)) ∧ W.cell? ⟨g, 2, none⟩ = some (.int .i64 nu) ∧ W.cell? ⟨g, 3, none⟩ = some (.int .i64 ln)
theorem CAt.tc {W : World} {g : Nat} {t : To} (h : CAt W g 79 (tS t)) : TC W g t.kd t.tx t.nu t.ln :=
  ⟨h.cell (j := 0) (by simp [tS]), h.cell (j := 1) (by simp [tS]), h.cell (j := 2) (by simp [tS]), h.cell (j := 3) (by simp [tS])⟩
section
variable {w : World} {gp : Nat} {A : Option Addr} {c : Nat} {l u : List To}
set_option maxRecDepth 100000 in
theorem has_any (h : Ps w gp A c l u) (t : To) (ht : t.kd ≠ 0) :
    Calls Try.prog 36 #[.pointer (some ⟨gp, 0, none⟩), tV t] w (fun e w' => e = .returned (.bool (isT t.kd t.tx u)) ∧ Below w.heap.size w w') := by
  have e0 := isT_hd (tx := t.tx) (u := u) ht
  obtain ⟨kd, tx, nu, ln⟩ := t
  dsimp only at ht e0
  have hcb := tok_box w ⟨kd, tx, nu, ln⟩
  dsimp only at hcb
  have hbb := below_lnew w (.cells #[.int .u8 kd, .string (str tx), .int .i64 nu, .int .i64 ln] 79)
  obtain ⟨wa, hwa⟩ : ∃ wa, w.alloc (.cells #[.int .u8 kd, .string (str tx), .int .i64 nu, .int .i64 ln] 79) = wa := ⟨_, rfl⟩
  rw [hwa] at hcb hbb
  have HWA := Lib.hid hwa
  have HB0 := Lib.hid hbb.drew
  have HC0 := Lib.hid (show CAt wa.drew w.heap.size 79 (tS ⟨kd, tx, nu, ln⟩) from hcb)
  have HL := Lib.hid (look_any (h.next HB0.out) 0 (by omega))
  have HS := Lib.hid (fun w1 => same_any (hd u) ⟨kd, tx, nu, ln⟩ w1)
  have hS := hcb.tc
  dsimp only at hS
  rw [← e0]
  clear e0 h hcb hbb hwa
  unfold tV tS at HS ⊢
  dsimp only at HS ⊢
  go_enter Try.func36, Try.ntmps36
  go_wp2_with fail
  rw [HWA.out]
  refine wp_region_held_drew (S := fun W9 => (W9.cell? ⟨w.heap.size, 0, none⟩ = some (.int .u8 kd) ∧ W9.cell? ⟨w.heap.size, 1, none⟩ = some (.string (str tx)) ∧ W9.cell? ⟨w.heap.size, 2, none⟩ = some (.int .i64 nu) ∧ W9.cell? ⟨w.heap.size, 3, none⟩ = some (.int .i64 ln))) (by kernel_rfl) (hS) (fun hHeld => ?_)
  refine heldTake (i := 0) (d := some 5) (v := ?_) rfl rfl (by kernel_rfl) (by kernel_rfl) (by kernel_rfl) (fun _ _ _ h => h) (by kernel_rfl) ?hyq_1 (by assumption) ?restq_1
  case hyq_1 => (intro W9 hSw; (try dsimp only at hSw); go_simp; try (with_reducible rfl))
  (try simp only [Act.put, List.setIfInBounds_toArray, List.set_cons_zero, List.set_cons_succ])
  refine heldTake (i := 2) (d := some 7) (v := ?_) rfl rfl (by kernel_rfl) (by kernel_rfl) (by kernel_rfl) (fun _ _ _ h => h) (by kernel_rfl) ?hyq_2 (by assumption) ?restq_2
  case hyq_2 => (intro W9 hSw; (try dsimp only at hSw); go_simp; try (with_reducible rfl))
  (try simp only [Act.put, List.setIfInBounds_toArray, List.set_cons_zero, List.set_cons_succ])
  refine wpAnyH_ready (rs := [1]) (by kernel_rfl) (by simp) ?_
  refine AllReadyH.cons rfl (fun K hK => ?_) AllReadyH.nil
  go_simp
  go_at_call 57
  refine HL.out.mono ?_
  rintro e9 X ⟨rfl, hbX⟩
  have HB1 := Lib.hid hbX
  have HC1 := Lib.hid (HC0.out.below hbX HC0.out.lt)
  have hSX := HC1.out.tc
  dsimp only at hSX
  rw [List.drop_zero]
  go_wp2_with fail
  refine hK.out _ _ hSX (fun hHeld => ?_)
  clear hK K
  (try simp only [Act.put, List.setIfInBounds_toArray, List.set_cons_zero, List.set_cons_succ])
  refine wpAnyH_ready (rs := [3]) (by kernel_rfl) (by simp) ?_
  refine AllReadyH.cons rfl (fun K hK => ?_) AllReadyH.nil
  go_simp
  go_at_call 56
  refine (HS.out X).mono ?_
  rintro e9 Y ⟨rfl, hbY⟩
  have HB2 := Lib.hid hbY
  have hSY := (HC1.out.below hbY HC1.out.lt).tc
  dsimp only at hSY
  go_wp2_with fail
  refine hK.out _ _ hSY (fun hHeld => ?_)
  clear hK K
  (try simp only [Act.put, List.setIfInBounds_toArray, List.set_cons_zero, List.set_cons_succ])
  refine heldTake (i := 4) (d := some 4) (v := ?_) rfl rfl (by kernel_rfl) (by kernel_rfl) (by kernel_rfl) (fun _ _ _ h => h) (by kernel_rfl) ?hyq_3 (by assumption) ?restq_3
  case hyq_3 => (intro W9 hSw; (try dsimp only at hSw); go_simp; try (with_reducible rfl))
  (try simp only [Act.put, List.setIfInBounds_toArray, List.set_cons_zero, List.set_cons_succ])
  refine wpAnyH_done (by kernel_rfl) ?_ _
  go_wp2_with fail
  go_ret
  exact ⟨rfl, (HB0.out.trans (HB1.out.mono HB0.out.size)).trans (HB2.out.mono (Nat.le_trans HB0.out.size HB1.out.size))⟩
end
end Go.Proofs.Ytcgohlooelojfaa

namespace Go.Proofs.Ytcgohlooelojfaa
open Go Go.RowKit

theorem heldSkip {P : Program} {ops : Array Oper} {Q : Exit → Act → World → Prop} {md : Region.Mode} {S : World → Prop} {i : Nat} {oi : Oper} {d : Option Tmp} {fuel : Nat} {listed : Array Bool} {a : Act} {w : World} (hi : ops[i]? = some oi) (hd : oi.dst = d)
    (hs : Region.noSelect ops = true) (hf : Region.free md ops listed i = true) (hr : (Region.ready md ops listed).contains i = true)
    (hQ : ∀ c a w, Q (.panic c) (a.put d undef) w → Q (.panic c) a w) (hw : Region.wanted oi (yielded ops a.tmps) = false) (hS : S w)
    (h : wpAnyH P md ops Q S fuel (listed.setIfInBounds i true) (a.put d undef) w) : wpAnyH P md ops Q S (fuel + 1) listed a w := by
  subst hd
  exact wpAnyH_take hi hs hf hr hQ (.inr ⟨hw, rfl⟩) hS h
end Go.Proofs.Ytcgohlooelojfaa
