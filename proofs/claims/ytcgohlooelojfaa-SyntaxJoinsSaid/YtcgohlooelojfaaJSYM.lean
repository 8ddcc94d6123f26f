/-
  Merged for a claim: SYM.
-/
import Derived.Test.YtcgohlooelojfaaJJ5
namespace Go.Proofs.Ytcgohlooelojfaa
open Go Go.RowKit

/-- the tokens behind one that may stand there -/
def stp (kd : Int) (tx : List UInt8) (u : List To) : List To := if isT kd tx u = true then u.tail else u
section
variable {w : World} {gp : Nat} {A : Option Addr} {c : Nat} {l u : List To}
theorem take_any (h : Ps w gp A c l u) (t : To) (ht : t.kd ≠ 0) :
    Calls Try.prog 61 #[.pointer (some ⟨gp, 0, none⟩), tV t] w (fun e w' => e = .returned (.bool (isT t.kd t.tx u)) ∧ Ps w' gp A c l (stp t.kd t.tx u) ∧ w.grownBy w' (some gp)) := by
  unfold stp
  cases hy : isT t.kd t.tx u
  · rw [if_neg (by decide)]
    exact take_no h t ht hy
  · rw [if_pos rfl]
    exact take_yes h t ht hy
theorem half_at (W : World) (m : HM) : CAt (W.alloc (.cells m.cs.toArray 141)) W.heap.size 141 m.cs := heap_alloc_new W _
set_option maxRecDepth 100000 in
set_option maxHeartbeats 2000000 in
theorem ends_any (hP : Ps w gp A c l u) (m : HM) (h : Ha) (hb : m.b = h.b) (he : m.en = h.en) :
    Calls Try.prog 98 #[.pointer (some ⟨gp, 0, none⟩), hV m] w (fun e w' => e = .returned (.bool (h.ends u)) ∧ Ps w' gp A c l (if h.ends u = true then h.rest u else u) ∧ w.grownBy w' (some gp)) := by
  have hB := below_lnew w (.cells m.cs.toArray 141)
  have hc := half_at w m
  obtain ⟨⟨kd, nu, nm, fl, op, Ak, ck, ks⟩, b, en⟩ := m
  unfold HM.cs XT.cs at hc hB
  dsimp only at hb he hc hB
  unfold hV HM.cs XT.cs
  dsimp only
  simp only [List.cons_append, List.nil_append] at hc hB ⊢
  have hgp := hP.lt
  have HBQ := Lib.hid hb
  clear hb
  obtain ⟨wa, hwa⟩ : ∃ wa, w.alloc (.cells [Value.int .u8 kd, .int .i64 nu, .string (str nm), .string (str fl), .string (str op), .slice Ak ks.length ck, .int .i64 b, .string (str en)].toArray 141) = wa := ⟨_, rfl⟩
  rw [hwa] at hc hB
  have HWA := Lib.hid hwa
  have x6 := hc.cell (j := 6) (by simp)
  have x7 := hc.cell (j := 7) (by simp)
  simp only [List.getElem_cons_zero, List.getElem_cons_succ] at x6 x7
  have HPd := Lib.hid (hP.next hB.drew)
  have HBd := Lib.hid hB.drew
  have HCd := Lib.hid (show CAt wa.drew w.heap.size 141 _ from hc)
  have hne : w.heap.size ≠ gp := by omega
  by_cases h0 : h.en = []
  · have h1 : en = [] := by rw [he, h0]
    subst h1
    have hs0 : ((str ([] : List UInt8)).toList == []) = true := by rw [str_toList]; rfl
    have hres : h.ends u = decide (bndU u ≤ h.b) := by unfold Ha.ends; rw [if_pos h0]
    have hrst : (if h.ends u = true then h.rest u else u) = u := by unfold Ha.rest; rw [if_pos h0]; split <;> rfl
    rw [hrst, hres]
    have hbn : ((if (hd u).kd = 4 then bnd (hd u).tx else 0 : Nat)) = bndU u := by
      unfold bndU
      have := isK_hd (kd := 4) (u := u) (by decide)
      by_cases h4 : (hd u).kd = 4
      · rw [if_pos h4, ← this, decide_eq_true h4, if_pos rfl]
      · rw [if_neg h4, ← this, decide_eq_false h4, if_neg (by decide)]
    have HLK := Lib.hid (look_any HPd.out 0 (by omega))
    rw [List.drop_zero] at HLK
    have hdc : decide ((bndU u : Int) ≤ b) = decide (bndU u ≤ h.b) := by
      rw [HBQ.out]
      by_cases q : bndU u ≤ h.b
      · rw [decide_eq_true q, decide_eq_true (by omega)]
      · rw [decide_eq_false q, decide_eq_false (by omega)]
    have HBI := Lib.hid (fun w1 => binds_any (hd u) w1)
    rw [hbn] at HBI
    rw [← hdc]
    clear hres hrst hbn hdc hP hc hB hwa he
    go_enter Try.func98, Try.ntmps98
    go_wp2_with fail
    rw [HWA.out]
    refine wp_region_held_drew (S := fun W9 => W9.cell? ⟨w.heap.size, 6, none⟩ = some (.int .i64 b)) (by kernel_rfl) (x6) (fun hHeld => ?_)
    refine heldTake (i := 0) (d := some 15) (v := ?_) rfl rfl (by kernel_rfl) (by kernel_rfl) (by kernel_rfl) (fun _ _ _ h => h) (by kernel_rfl) ?hyq_1 (by assumption) ?restq_1
    case hyq_1 => (intro W9 hSw; (try dsimp only at hSw); go_simp; try (with_reducible rfl))
    (try simp only [Act.put, List.setIfInBounds_toArray, List.set_cons_zero, List.set_cons_succ])
    refine heldTake (i := 1) (d := some 16) (v := ?_) rfl rfl (by kernel_rfl) (by kernel_rfl) (by kernel_rfl) (fun _ _ _ h => h) (by kernel_rfl) ?hyq_2 (by assumption) ?restq_2
    case hyq_2 => (intro W9 hSw; (try dsimp only at hSw); go_simp; try (with_reducible rfl))
    (try simp only [Act.put, List.setIfInBounds_toArray, List.set_cons_zero, List.set_cons_succ])
    refine heldTake (i := 2) (d := some 17) (v := ?_) rfl rfl (by kernel_rfl) (by kernel_rfl) (by kernel_rfl) (fun _ _ _ h => h) (by kernel_rfl) ?hyq_3 (by assumption) ?restq_3
    case hyq_3 => (intro W9 hSw; (try dsimp only at hSw); go_simp; try (with_reducible rfl))
    (try simp only [Act.put, List.setIfInBounds_toArray, List.set_cons_zero, List.set_cons_succ])
    refine heldTake (i := 3) (d := some 18) (v := ?_) rfl rfl (by kernel_rfl) (by kernel_rfl) (by kernel_rfl) (fun _ _ _ h => h) (by kernel_rfl) ?hyq_4 (by assumption) ?restq_4
    case hyq_4 => (intro W9 hSw; (try dsimp only at hSw); go_simp; try (with_reducible rfl))
    (try simp only [Act.put, List.setIfInBounds_toArray, List.set_cons_zero, List.set_cons_succ])
    refine heldTake (i := 4) (d := some 19) (v := ?_) rfl rfl (by kernel_rfl) (by kernel_rfl) (by kernel_rfl) (fun _ _ _ h => h) (by kernel_rfl) ?hyq_5 (by assumption) ?restq_5
    case hyq_5 => (intro W9 hSw; (try dsimp only at hSw); go_simp; try (with_reducible rfl))
    (try simp only [Act.put, List.setIfInBounds_toArray, List.set_cons_zero, List.set_cons_succ])
    refine wpAnyH_ready (rs := [5]) (by kernel_rfl) (by simp) ?_
    refine AllReadyH.cons rfl (fun K hK => ?_) AllReadyH.nil
    go_simp
    go_at_call 57
    refine HLK.out.mono ?_
    rintro e9 X ⟨rfl, hbX⟩
    have HCX := Lib.hid (HCd.out.below hbX HCd.out.lt)
    have y6 := HCX.out.cell (j := 6) (by simp)
    simp only [List.getElem_cons_zero, List.getElem_cons_succ] at y6
    go_wp2_with fail
    refine hK.out _ _ y6 (fun hHeld => ?_)
    clear hK K
    (try simp only [Act.put, List.setIfInBounds_toArray, List.set_cons_zero, List.set_cons_succ])
    refine wpAnyH_ready (rs := [6]) (by kernel_rfl) (by simp) ?_
    refine AllReadyH.cons rfl (fun K hK => ?_) AllReadyH.nil
    go_simp
    go_at_call 96
    refine (HBI.out X).mono ?_
    rintro e9 Y ⟨rfl, hbY⟩
    have HCY := Lib.hid (HCX.out.below hbY HCX.out.lt)
    have z6 := HCY.out.cell (j := 6) (by simp)
    simp only [List.getElem_cons_zero, List.getElem_cons_succ] at z6
    go_wp2_with fail
    refine hK.out _ _ z6 (fun hHeld => ?_)
    clear hK K
    (try simp only [Act.put, List.setIfInBounds_toArray, List.set_cons_zero, List.set_cons_succ])
    refine heldTake (i := 7) (d := some 22) (v := ?_) rfl rfl (by kernel_rfl) (by kernel_rfl) (by kernel_rfl) (fun _ _ _ h => h) (by kernel_rfl) ?hyq_6 (by assumption) ?restq_6
    case hyq_6 => (intro W9 hSw; (try dsimp only at hSw); go_simp; try (with_reducible rfl))
    (try simp only [Act.put, List.setIfInBounds_toArray, List.set_cons_zero, List.set_cons_succ])
    refine heldTake (i := 8) (d := some 4) (v := ?_) rfl rfl (by kernel_rfl) (by kernel_rfl) (by kernel_rfl) (fun _ _ _ h => h) (by kernel_rfl) ?hyq_7 (by assumption) ?restq_7
    case hyq_7 => (intro W9 hSw; (try dsimp only at hSw); go_simp; try (with_reducible rfl))
    (try simp only [Act.put, List.setIfInBounds_toArray, List.set_cons_zero, List.set_cons_succ])
    refine wpAnyH_done (by kernel_rfl) ?_ _
    go_wp2_with fail
    go_ret
    exact ⟨rfl, HPd.out.next (hbX.trans (hbY.mono hbX.size)), grown_trans (grown_below HBd.out _) (grown_below (hbX.trans (hbY.mono hbX.size)) _)⟩
  · have h1 : (str en).toList ≠ [] := by rw [str_toList, he]; exact h0
    have h2 : ((str en).toList == []) = false := beq_eq_false_iff_ne.2 h1
    have hres : h.ends u = isS en u := by unfold Ha.ends; rw [if_neg h0, he]
    have hrst : (if h.ends u = true then h.rest u else u) = stp 4 en u := by unfold Ha.rest stp; rw [if_neg h0, hres]; rfl
    rw [hrst, hres]
    clear hres hrst hP hc hB hwa he
    go_enter Try.func98, Try.ntmps98
    go_wp2_with fail
    rw [HWA.out]
    refine wp_region_held_drew (S := fun W9 => W9.cell? ⟨w.heap.size, 7, none⟩ = some (.string (str en))) (by kernel_rfl) (x7) (fun hHeld => ?_)
    refine heldTake (i := 0) (d := some 8) (v := ?_) rfl rfl (by kernel_rfl) (by kernel_rfl) (by kernel_rfl) (fun _ _ _ h => h) (by kernel_rfl) ?hyq_8 (by assumption) ?restq_8
    case hyq_8 => (intro W9 hSw; (try dsimp only at hSw); go_simp; try (with_reducible rfl))
    (try simp only [Act.put, List.setIfInBounds_toArray, List.set_cons_zero, List.set_cons_succ])
    refine heldTake (i := 1) (d := some 9) (v := ?_) rfl rfl (by kernel_rfl) (by kernel_rfl) (by kernel_rfl) (fun _ _ _ h => h) (by kernel_rfl) ?hyq_9 (by assumption) ?restq_9
    case hyq_9 => (intro W9 hSw; (try dsimp only at hSw); go_simp; try (with_reducible rfl))
    (try simp only [Act.put, List.setIfInBounds_toArray, List.set_cons_zero, List.set_cons_succ])
    refine heldTake (i := 2) (d := some 10) (v := ?_) rfl rfl (by kernel_rfl) (by kernel_rfl) (by kernel_rfl) (fun _ _ _ h => h) (by kernel_rfl) ?hyq_10 (by assumption) ?restq_10
    case hyq_10 => (intro W9 hSw; (try dsimp only at hSw); go_simp; try (with_reducible rfl))
    (try simp only [Act.put, List.setIfInBounds_toArray, List.set_cons_zero, List.set_cons_succ])
    refine heldTake (i := 3) (d := some 11) (v := ?_) rfl rfl (by kernel_rfl) (by kernel_rfl) (by kernel_rfl) (fun _ _ _ h => h) (by kernel_rfl) ?hyq_11 (by assumption) ?restq_11
    case hyq_11 => (intro W9 hSw; (try dsimp only at hSw); go_simp; try (with_reducible rfl))
    (try simp only [Act.put, List.setIfInBounds_toArray, List.set_cons_zero, List.set_cons_succ])
    refine heldTake (i := 4) (d := some 12) (v := ?_) rfl rfl (by kernel_rfl) (by kernel_rfl) (by kernel_rfl) (fun _ _ _ h => h) (by kernel_rfl) ?hyq_12 (by assumption) ?restq_12
    case hyq_12 => (intro W9 hSw; (try dsimp only at hSw); go_simp; try (with_reducible rfl))
    (try simp only [Act.put, List.setIfInBounds_toArray, List.set_cons_zero, List.set_cons_succ])
    refine wpAnyH_ready (rs := [5]) (by kernel_rfl) (by simp) ?_
    refine AllReadyH.cons rfl (fun K hK => ?_) AllReadyH.nil
    go_simp
    go_at_call 60
    refine (sign_any en _).mono ?_
    rintro e9 X ⟨rfl, hbX⟩
    have HCX := Lib.hid (HCd.out.below hbX HCd.out.lt)
    have HPX := Lib.hid (HPd.out.next hbX)
    have y7 := HCX.out.cell (j := 7) (by simp)
    simp only [List.getElem_cons_zero, List.getElem_cons_succ] at y7
    go_wp2_with fail
    refine hK.out _ _ y7 (fun hHeld => ?_)
    clear hK K
    (try simp only [Act.put, List.setIfInBounds_toArray, List.set_cons_zero, List.set_cons_succ])
    refine wpAnyH_ready (rs := [6]) (by kernel_rfl) (by simp) ?_
    refine AllReadyH.cons rfl (fun K hK => ?_) AllReadyH.nil
    go_simp
    go_at_call 61
    refine (take_any HPX.out ⟨4, en, 0, 0⟩ (show (4 : Int) ≠ 0 by decide)).mono ?_
    rintro e9 Y ⟨rfl, hpY, hgY⟩
    have z7 := (World.cell?_of_block (a := ⟨w.heap.size, 7, none⟩) (hgY.block w.heap.size HCX.out.lt (fun q => by injection q with q; omega))).trans y7
    go_wp2_with fail
    refine hK.out _ _ z7 (fun hHeld => ?_)
    clear hK K
    (try simp only [Act.put, List.setIfInBounds_toArray, List.set_cons_zero, List.set_cons_succ])
    refine heldTake (i := 7) (d := some 4) (v := ?_) rfl rfl (by kernel_rfl) (by kernel_rfl) (by kernel_rfl) (fun _ _ _ h => h) (by kernel_rfl) ?hyq_13 (by assumption) ?restq_13
    case hyq_13 => (intro W9 hSw; (try dsimp only at hSw); go_simp; try (with_reducible rfl))
    (try simp only [Act.put, List.setIfInBounds_toArray, List.set_cons_zero, List.set_cons_succ])
    refine wpAnyH_done (by kernel_rfl) ?_ _
    go_wp2_with fail
    go_ret
    exact ⟨rfl, hpY, grown_trans (grown_below HBd.out _) (grown_trans (grown_below hbX _) hgY)⟩
end
end Go.Proofs.Ytcgohlooelojfaa
