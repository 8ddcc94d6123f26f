/-
  Merged for a claim: S0J.
-/
import Derived.Test.YtjllbacefbjjaaaZS0I
namespace Go.Proofs.Ytjllbacefbjjaaa
open Go Go.RowKit

theorem B_close {t a : Lv} {o : List Lv} {u : List To} (hs : isS [125] u = true) : B (t :: a :: o) u = (cloP t a o u.tail).bind fun ms z => B ms z := by
 rw [B_eq, if_pos hs]
 unfold K cloP
 dsimp only
 split
 · rfl
 · split
   · rw [takeS_bind]
     rfl
   · rfl
theorem B_add {t : Lv} {o : List Lv} {u : List To} (hs : isS [125] u = false) : B (t :: o) u = (addP t o u).bind fun ms z => B ms z := by
 rw [B_eq, if_neg (by rw [hs]; decide)]
 unfold addP
 rw [R.bind_assoc]
 refine bind_cong fun s v e => ?_
 split
 · rw [takeS_bind]
   rfl
 · rfl
theorem B_one {t : Lv} {u : List To} (hs : isS [125] u = true) : B [t] u = .ok t.l u.tail := by
 rw [B_eq, if_pos hs]
 rfl
theorem cloP_len {t a : Lv} {o : List Lv} {u z : List To} {ms : List Lv} (h : cloP t a o u = .ok ms z) : z.length ≤ u.length := by
 unfold cloP at h
 split at h
 · injection h with _ h
   rw [h]
   exact Nat.le_refl _
 · split at h
   · obtain ⟨_, h⟩ := takeS_len h
     injection h with _ h
     rw [← h]
     simp
     omega
   · injection h with _ h
     rw [h]
     exact Nat.le_refl _
theorem addP_len {t : Lv} {o : List Lv} {u z : List To} {ms : List Lv} (h : addP t o u = .ok ms z) : z.length + 1 ≤ u.length := by
 unfold addP at h
 obtain ⟨s, v, e, h⟩ := bind_is h
 have := hdP_len e
 split at h
 · obtain ⟨h2, h⟩ := takeS_len h
   have := tail_len h2
   injection h with _ h
   rw [← h]
   omega
 · injection h with _ h
   rw [← h]
   exact this
def BkR (w : World) (gp : Nat) (A : Option Addr) (c : Nat) (l : List To) (r : R (List St)) (e : Ending) (w' : World) : Prop := match r with
 | .ok b z => ∃ (xs : List XS) (A2 : Option Addr) (c2 : Nat), e = .returned (.slice A2 xs.length c2) ∧ xssd xs = b ∧ RowP eSt w' (fun g => w.heap.size ≤ g) A2 c2 xs ∧ xssOk w' (fun g => w.heap.size ≤ g) xs ∧ Ps w' gp A c l z ∧ w.grownBy w' (some gp)
 | .bad z => e = .panicked misC ∧ Ps w' gp A c l z ∧ w.grownBy w' (some gp)
 | .out => False
section
variable {w W : World} {gp : Nat} {A : Option Addr} {c : Nat} {l u : List To} {m : LvM} {rest : List LvM}
theorem BkR.bad' {r : R (List St)} {e : Ending} {z : List To} (hr : r = .bad z) (he : e = .panicked misC) (hp : Ps W gp A c l z) (hg : w.grownBy W (some gp)) : BkR w gp A c l r e W := by
 subst hr
 exact ⟨he, hp, hg⟩
theorem BlZ.row {v : Value} (h : BlZ w gp A c l v m m.xs m [] W u) : RowP eSt W (fun g => w.heap.size ≤ g) m.A m.c m.xs ∧ xssOk W (fun g => w.heap.size ≤ g) m.xs := by
 refine ⟨?_, xssOk.keep (fun _ _ _ => rfl) (fun _ _ _ => rfl) (fun g q => q.1) _ (h.x m (by simp))⟩
 obtain ⟨A2, c2, e2, k1, k2, k3⟩ := h.o0.form
 unfold LvM.v at e2
 injection e2 with e2 _ e3
 subst e2 e3
 refine ⟨k3, k1, k2, fun hl d e => ?_⟩
 obtain ⟨g9, c9, e9⟩ := El.Own.at0 h.o0 hl
 have e8 := e9
 unfold LvM.v at e9
 injection e9 with e9
 rw [e] at e9
 injection e9 with e9
 subst e9
 exact (h.o0.lt g9 (by rw [e8]; rfl)).1
theorem BkR.ok' {r : R (List St)} {e : Ending} {v : Value} (hr : r = .ok m.d.l u) (he : e = .returned m.v) (h : BlZ w gp A c l v m m.xs m [] W u) : BkR w gp A c l r e W := by
 subst hr
 exact ⟨m.xs, m.A, m.c, he, rfl, h.row.1, h.row.2, h.p, h.g⟩
theorem BlZ.cv {N gv cv : Nat} {mc : LvM} {rows : List XS} (hN : N = rest.length) (h : BlZ w gp A c l (.slice (some ⟨gv, 0, none⟩) (N + 1) cv) mc rows m rest W u) : BlZ w gp A c l (.slice (some ⟨gv, 0, none⟩) (rest.length + 1) cv) mc rows m rest W u := by
 subst hN
 exact h
theorem BlW.lft {v : Value} {ms : List LvM} (h : BlW w gp A c l v ms W u) : Go.Proofs.Ytjllbacefbjjaaa.lft W gp l = u.length := by
 obtain ⟨_, _, _, _, _, _, _, h⟩ := h
 exact h.p.lft
theorem El.own_one {α : Type} (K : El α) (w : World) (x : α) : K.Own (w.alloc (.cells (K.f x).toArray K.e)) w.heap.size (.slice (some ⟨w.heap.size, 0, none⟩) 1 1) [x] := by
 refine ⟨by simp [K.len], .inr ⟨w.heap.size, 1, _, rfl, Nat.le_refl _, heap_alloc_new w _, by simp, by simp [maxLen], by simp [K.len], ?_⟩⟩
 simp [← K.len x]
theorem BlW.new (h : PsW w gp A c l W u) (hg : gp < w.heap.size) (hu : u.length ≤ l.length) : BlW w gp A c l (.slice (some ⟨W.heap.size, 0, none⟩) 1 1) [⟨[], none, 0, false⟩] (W.alloc (.cells #[.slice none 0 0, .bool false] 124)) u := by
 have hb := below_lnew W (.cells #[.slice none 0 0, .bool false] 124)
 refine ⟨⟨[], none, 0, false⟩, [], W.heap.size, 1, rfl, rfl, fun b hb => absurd hb (by simp), h.p.next hb, ?_, El.Own.nil _ _, fun a ha => absurd ha (by simp), fun a ha => ?_, List.pairwise_singleton _ _, grown_trans h.g (grown_below hb _), hg, fun a ha => ?_, by simpa using hu⟩
 · exact El.Own.base (El.own_one eLv W ⟨[], none, 0, false⟩) h.g.size
 · rw [List.mem_singleton.1 ha, xssOk]
   trivial
 · rw [List.mem_singleton.1 ha]
   simpa using hu
set_option maxRecDepth 100000 in
set_option maxHeartbeats 16000000 in
theorem block_any (HST : ∀ (W : World) (u : List To), Ps W gp A c l u → Calls Try.prog 77 #[.pointer (some ⟨gp, 0, none⟩)] W (StR W gp A c l (hdS u))) (hP : Ps w gp A c l u) :
 Calls Try.prog 63 #[.pointer (some ⟨gp, 0, none⟩)] w (BkR w gp A c l (blP u)) := by
 obtain ⟨r, hr⟩ : ∃ r, blP u = r := ⟨_, rfl⟩
 rw [hr]
 have HR := Lib.hid (show r = takeS [123] u fun v => B [⟨[], false⟩] v by rw [B_blP, hr])
 have H0 := Lib.hid (PsW.new hP)
 have hul := hP.ulen
 have hgp := hP.lt
 clear hP hr
 go_enter Try.func63, Try.ntmps63
 go_wp2_with fail
 cases hq : isT 4 [123] u
 · have HE := Lib.hid (HR.out.trans (takeS_no hq))
   refine wp_region_held_drew (S := fun W9 => True) (by kernel_rfl) trivial (fun hHeld => ?_)
   have Knd := Lib.hid H0.out.drew
   refine heldTake (i := 0) (d := some 4) (v := ?_) rfl rfl (by kernel_rfl) (by kernel_rfl) (by kernel_rfl) (fun _ _ _ h => h) (by kernel_rfl) ?hyq_1 (by assumption) ?restq_1
   case hyq_1 => (intro W9 hSw; (try dsimp only at hSw); go_simp; try (with_reducible rfl))
   (try simp only [Act.put, nA, nB, nC])
   refine heldTake (i := 1) (d := some 5) (v := ?_) rfl rfl (by kernel_rfl) (by kernel_rfl) (by kernel_rfl) (fun _ _ _ h => h) (by kernel_rfl) ?hyq_2 (by assumption) ?restq_2
   case hyq_2 => (intro W9 hSw; (try dsimp only at hSw); go_simp; try (with_reducible rfl))
   (try simp only [Act.put, nA, nB, nC])
   refine heldTake (i := 2) (d := some 6) (v := ?_) rfl rfl (by kernel_rfl) (by kernel_rfl) (by kernel_rfl) (fun _ _ _ h => h) (by kernel_rfl) ?hyq_3 (by assumption) ?restq_3
   case hyq_3 => (intro W9 hSw; (try dsimp only at hSw); go_simp; try (with_reducible rfl))
   (try simp only [Act.put, nA, nB, nC])
   refine wpAnyH_ready (rs := [3]) (by kernel_rfl) (by simp) ?_
   refine AllReadyH.cons rfl (fun K hK => ?_) AllReadyH.nil
   go_simp
   go_at_call 58
   refine (sign_any [123] _).mono ?_
   rintro e9 X ⟨rfl, hbX⟩
   have Knx := Lib.hid (Knd.out.below hbX)
   clear hbX
   go_wp2_with fail
   refine hK.out _ _ trivial (fun hHeld => ?_)
   clear hK K
   (try simp only [Act.put, nA, nB, nC])
   refine wpAnyH_ready (rs := [4]) (by kernel_rfl) (by simp) ?_
   refine AllReadyH.cons rfl (fun K hK => ?_) AllReadyH.nil
   (try rw [if_pos (by kernel_rfl)])
   refine El.op_build1 eTo X 22 (.agg #[.int .u8 0, .string ⟨#[]⟩, .int .i64 0, .int .i64 0]) 40 Try.underlying22 tok_info rfl (by decide) (.tmp 7) rfl (tV ⟨4, [123], 0, 0⟩) ⟨4, [123], 0, 0⟩ rfl rfl ?_
   change K (Act.put _ (some 8) (.slice (some ⟨X.heap.size, 0, none⟩) 1 1)) (X.alloc (.cells (eTo.f ⟨4, [123], 0, 0⟩).toArray 77))
   have hbY := below_lnew X (.cells (eTo.f ⟨4, [123], 0, 0⟩).toArray 77)
   have hT9 := El.liesT_new eTo X [⟨4, [123], 0, 0⟩] (eTo.f ⟨4, [123], 0, 0⟩).toArray (fun i v h => by simpa [eTo, tS] using h)
   obtain ⟨Y, hY⟩ : ∃ Y, X.alloc (.cells (eTo.f ⟨4, [123], 0, 0⟩).toArray 77) = Y := ⟨_, rfl⟩
   replace hT9 : eTo.LiesT (X.alloc (.cells (eTo.f ⟨4, [123], 0, 0⟩).toArray 77)) (some ⟨X.heap.size, 0, none⟩) [⟨4, [123], 0, 0⟩] := hT9
   rw [hY] at hbY hT9 ⊢
   have Kny := Lib.hid (Knx.out.below hbY)
   have HT9 := Lib.hid hT9
   clear hY hbY hT9
   refine hK.out _ _ trivial (fun hHeld => ?_)
   clear hK K
   (try simp only [Act.put, nA, nB, nC])
   refine wpAnyH_ready (rs := [5]) (by kernel_rfl) (by simp) ?_
   refine AllReadyH.cons rfl (fun K hK => ?_) AllReadyH.nil
   go_simp
   go_at_call 56
   refine (need_any Kny.out.p [⟨4, [123], 0, 0⟩] (one_kd 4 (by decide) _) (some ⟨_, 0, none⟩) 1 HT9.out (by simp)).mono ?_
   rintro e9 Z hN
   rw [nd1_no hq] at hN
   obtain ⟨rfl, hpZ, hgZ⟩ := hN
   have hg9 := grown_trans Kny.out.g hgZ
   go_wp2_with fail
   exact ⟨rfl, BkR.bad' HE.out rfl hpZ hg9⟩
 · have HE := Lib.hid (HR.out.trans (takeS_yes hq))
   refine wp_region_held_drew (S := fun W9 => True) (by kernel_rfl) trivial (fun hHeld => ?_)
   have H1d := Lib.hid H0.out.drew
   refine heldTake (i := 0) (d := some 4) (v := ?_) rfl rfl (by kernel_rfl) (by kernel_rfl) (by kernel_rfl) (fun _ _ _ h => h) (by kernel_rfl) ?hyq_4 (by assumption) ?restq_4
   case hyq_4 => (intro W9 hSw; (try dsimp only at hSw); go_simp; try (with_reducible rfl))
   (try simp only [Act.put, nA, nB, nC])
   refine heldTake (i := 1) (d := some 5) (v := ?_) rfl rfl (by kernel_rfl) (by kernel_rfl) (by kernel_rfl) (fun _ _ _ h => h) (by kernel_rfl) ?hyq_5 (by assumption) ?restq_5
   case hyq_5 => (intro W9 hSw; (try dsimp only at hSw); go_simp; try (with_reducible rfl))
   (try simp only [Act.put, nA, nB, nC])
   refine heldTake (i := 2) (d := some 6) (v := ?_) rfl rfl (by kernel_rfl) (by kernel_rfl) (by kernel_rfl) (fun _ _ _ h => h) (by kernel_rfl) ?hyq_6 (by assumption) ?restq_6
   case hyq_6 => (intro W9 hSw; (try dsimp only at hSw); go_simp; try (with_reducible rfl))
   (try simp only [Act.put, nA, nB, nC])
   refine wpAnyH_ready (rs := [3]) (by kernel_rfl) (by simp) ?_
   refine AllReadyH.cons rfl (fun K hK => ?_) AllReadyH.nil
   go_simp
   go_at_call 58
   refine (sign_any [123] _).mono ?_
   rintro e9 X ⟨rfl, hbX⟩
   have H1x := Lib.hid (H1d.out.below hbX)
   clear hbX
   go_wp2_with fail
   refine hK.out _ _ trivial (fun hHeld => ?_)
   clear hK K
   (try simp only [Act.put, nA, nB, nC])
   refine wpAnyH_ready (rs := [4]) (by kernel_rfl) (by simp) ?_
   refine AllReadyH.cons rfl (fun K hK => ?_) AllReadyH.nil
   (try rw [if_pos (by kernel_rfl)])
   refine El.op_build1 eTo X 22 (.agg #[.int .u8 0, .string ⟨#[]⟩, .int .i64 0, .int .i64 0]) 40 Try.underlying22 tok_info rfl (by decide) (.tmp 7) rfl (tV ⟨4, [123], 0, 0⟩) ⟨4, [123], 0, 0⟩ rfl rfl ?_
   change K (Act.put _ (some 8) (.slice (some ⟨X.heap.size, 0, none⟩) 1 1)) (X.alloc (.cells (eTo.f ⟨4, [123], 0, 0⟩).toArray 77))
   have hbY := below_lnew X (.cells (eTo.f ⟨4, [123], 0, 0⟩).toArray 77)
   have hT9 := El.liesT_new eTo X [⟨4, [123], 0, 0⟩] (eTo.f ⟨4, [123], 0, 0⟩).toArray (fun i v h => by simpa [eTo, tS] using h)
   obtain ⟨Y, hY⟩ : ∃ Y, X.alloc (.cells (eTo.f ⟨4, [123], 0, 0⟩).toArray 77) = Y := ⟨_, rfl⟩
   replace hT9 : eTo.LiesT (X.alloc (.cells (eTo.f ⟨4, [123], 0, 0⟩).toArray 77)) (some ⟨X.heap.size, 0, none⟩) [⟨4, [123], 0, 0⟩] := hT9
   rw [hY] at hbY hT9 ⊢
   have H1y := Lib.hid (H1x.out.below hbY)
   have HT9 := Lib.hid hT9
   clear hY hbY hT9
   refine hK.out _ _ trivial (fun hHeld => ?_)
   clear hK K
   (try simp only [Act.put, nA, nB, nC])
   refine wpAnyH_ready (rs := [5]) (by kernel_rfl) (by simp) ?_
   refine AllReadyH.cons rfl (fun K hK => ?_) AllReadyH.nil
   go_simp
   go_at_call 56
   refine (need_any H1y.out.p [⟨4, [123], 0, 0⟩] (one_kd 4 (by decide) _) (some ⟨_, 0, none⟩) 1 HT9.out (by simp)).mono ?_
   rintro e9 Z hN
   rw [nd1_yes hq] at hN
   obtain ⟨rfl, hpZ, hgZ⟩ := hN
   have H1 := Lib.hid (H1y.out.step hpZ hgZ (tail_le _))
   clear hpZ hgZ H1d H1x H1y HT9
   go_wp2_with fail
   refine hK.out _ _ trivial (fun hHeld => ?_)
   clear hK K
   (try simp only [Act.put, nA, nB, nC])
   refine wpAnyH_done (by kernel_rfl) ?_ _
   have HB1 := Lib.hid (BlW.new H1.out hgp (Nat.le_trans (tail_le u) hul))
   clear H0 H1 HR hq
   go_wp2_with fail
   go_loopw [3] (fun ov wr => ∃ (ms : List LvM) (u' : List To), Hid (BlW w gp A c l ov ms wr u') ∧ Hid (r = B (ms.map LvM.d) u')) (fun _ wr => lft wr gp l)
   case atStart => exact ⟨_, _, HB1, HE⟩
   case round =>
    obtain ⟨ms, u1, hW, hM⟩ := hrel
    clear HB1 HE
    obtain ⟨m, rest, gv, cv, rfl, hov, hne, hZ⟩ := hW.out
    obtain ⟨N, hN⟩ : ∃ N, rest.length = N := ⟨_, rfl⟩
    rw [hov, hN] at hZ
    rw [hN] at hov
    subst hov
    have HN := Lib.hid hN
    have H2 := Lib.hid hZ
    have HL := Lib.hid hZ.p.lft
    have hNb : N ≤ 1000000 := by
     have h1 := hZ.n.2.2
     have h2 := hZ.p.n
     omega
    have hne := Lib.hid hne
    have hN0 : (0 : Int) ≤ (N : Int) := by omega
    obtain ⟨w3, rfl⟩ : ∃ z, z = wr := ⟨_, rfl⟩
    clear hN hZ hW
    rcases rest with _ | ⟨a, o⟩
    · have hgN : decide ((1 : Int) < (N : Int) + 1) = false := decide_eq_false (by have := HN.out; simp at this; omega)
      cases hq : isT 4 [125] u1
      · have HF := Lib.hid (hM.out.trans (B_add (show isS [125] u1 = false from hq)))
        clear hM
        go_wp2_with fail
        refine wp_region_held_drew (S := fun W9 => True) (by kernel_rfl) (trivial) (fun hHeld => ?_)
        refine heldTake (i := 0) (d := some 12) (v := ?_) rfl rfl (by kernel_rfl) (by kernel_rfl) (by kernel_rfl) (fun _ _ _ h => h) (by kernel_rfl) ?hyq_7 (by assumption) ?restq_7
        case hyq_7 => (intro W9 hSw; (try dsimp only at hSw); go_simp; try (with_reducible rfl))
        (try simp only [Act.put, nA, nB, nC])
        refine heldTake (i := 1) (d := some 13) (v := ?_) rfl rfl (by kernel_rfl) (by kernel_rfl) (by kernel_rfl) (fun _ _ _ h => h) (by kernel_rfl) ?hyq_8 (by assumption) ?restq_8
        case hyq_8 => (intro W9 hSw; (try dsimp only at hSw); go_simp; try (with_reducible rfl))
        (try simp only [Act.put, nA, nB, nC])
        refine heldTake (i := 2) (d := some 14) (v := ?_) rfl rfl (by kernel_rfl) (by kernel_rfl) (by kernel_rfl) (fun _ _ _ h => h) (by kernel_rfl) ?hyq_9 (by assumption) ?restq_9
        case hyq_9 => (intro W9 hSw; (try dsimp only at hSw); go_simp; try (with_reducible rfl))
        (try simp only [Act.put, nA, nB, nC])
        refine heldTake (i := 3) (d := some 15) (v := ?_) rfl rfl (by kernel_rfl) (by kernel_rfl) (by kernel_rfl) (fun _ _ _ h => h) (by kernel_rfl) ?hyq_10 (by assumption) ?restq_10
        case hyq_10 => (intro W9 hSw; (try dsimp only at hSw); go_simp; try (with_reducible rfl))
        (try simp only [Act.put, nA, nB, nC])
        refine heldTake (i := 4) (d := some 16) (v := ?_) rfl rfl (by kernel_rfl) (by kernel_rfl) (by kernel_rfl) (fun _ _ _ h => h) (by kernel_rfl) ?hyq_11 (by assumption) ?restq_11
        case hyq_11 => (intro W9 hSw; (try dsimp only at hSw); go_simp; try (with_reducible rfl))
        (try simp only [Act.put, nA, nB, nC])
        refine heldTake (i := 5) (d := some 17) (v := ?_) rfl rfl (by kernel_rfl) (by kernel_rfl) (by kernel_rfl) (fun _ _ _ h => h) (by kernel_rfl) ?hyq_12 (by assumption) ?restq_12
        case hyq_12 => (intro W9 hSw; (try dsimp only at hSw); go_simp; try (with_reducible rfl))
        (try simp only [Act.put, nA, nB, nC])
        refine heldTake (i := 6) (d := some 18) (v := ?_) rfl rfl (by kernel_rfl) (by kernel_rfl) (by kernel_rfl) (fun _ _ _ h => h) (by kernel_rfl) ?hyq_13 (by assumption) ?restq_13
        case hyq_13 => (intro W9 hSw; (try dsimp only at hSw); go_simp; try (with_reducible rfl))
        (try simp only [Act.put, nA, nB, nC])
        refine wpAnyH_ready (rs := [7]) (by kernel_rfl) (by simp) ?_
        refine AllReadyH.cons rfl (fun K hK => ?_) AllReadyH.nil
        go_simp
        go_at_call 58
        refine (sign_any [125] _).mono ?_
        rintro e9 X ⟨rfl, hbX⟩
        have H3x := Lib.hid (H2.out.drew.below hbX)
        clear hbX
        go_wp2_with fail
        refine hK.out _ _ trivial (fun hHeld => ?_)
        clear hK K
        (try simp only [Act.put, nA, nB, nC])
        refine wpAnyH_ready (rs := [8]) (by kernel_rfl) (by simp) ?_
        refine AllReadyH.cons rfl (fun K hK => ?_) AllReadyH.nil
        go_simp
        go_at_call 34
        refine (has_any H3x.out.p ⟨4, [125], 0, 0⟩ (by decide)).mono ?_
        rintro e9 Y ⟨rfl, hbY⟩
        have H3 := Lib.hid (H3x.out.below hbY)
        rw [hq]
        clear hbY H3x
        go_wp2_with fail
        refine hK.out _ _ trivial (fun hHeld => ?_)
        clear hK K
        (try simp only [Act.put, nA, nB, nC])
        refine heldTake (i := 9) (d := some 21) (v := ?_) rfl rfl (by kernel_rfl) (by kernel_rfl) (by kernel_rfl) (fun _ _ _ h => h) (by kernel_rfl) ?hyq_14 (by assumption) ?restq_14
        case hyq_14 => (intro W9 hSw; (try dsimp only at hSw); go_simp; try (with_reducible rfl))
        (try simp only [Act.put, nA, nB, nC])
        refine heldTake (i := 10) (d := some 22) (v := ?_) rfl rfl (by kernel_rfl) (by kernel_rfl) (by kernel_rfl) (fun _ _ _ h => h) (by kernel_rfl) ?hyq_15 (by assumption) ?restq_15
        case hyq_15 => (intro W9 hSw; (try dsimp only at hSw); go_simp; try (with_reducible rfl))
        (try simp only [Act.put, nA, nB, nC])
        refine wpAnyH_done (by kernel_rfl) ?_ _
        go_wp2_with fail
        refine wp_region_held_drew (S := fun W9 => True) (by kernel_rfl) (trivial) (fun hHeld => ?_)
        refine heldTake (i := 0) (d := some 23) (v := ?_) rfl rfl (by kernel_rfl) (by kernel_rfl) (by kernel_rfl) (fun _ _ _ h => h) (by kernel_rfl) ?hyq_16 (by assumption) ?restq_16
        case hyq_16 => (intro W9 hSw; (try dsimp only at hSw); go_simp; try (with_reducible rfl))
        (try simp only [Act.put, nA, nB, nC])
        refine heldTake (i := 1) (d := some 24) (v := ?_) rfl rfl (by kernel_rfl) (by kernel_rfl) (by kernel_rfl) (fun _ _ _ h => h) (by kernel_rfl) ?hyq_17 (by assumption) ?restq_17
        case hyq_17 => (intro W9 hSw; (try dsimp only at hSw); go_simp; try (with_reducible rfl))
        (try simp only [Act.put, nA, nB, nC])
        refine heldTake (i := 2) (d := some 25) (v := ?_) rfl rfl (by kernel_rfl) (by kernel_rfl) (by kernel_rfl) (fun _ _ _ h => h) (by kernel_rfl) ?hyq_18 (by assumption) ?restq_18
        case hyq_18 => (intro W9 hSw; (try dsimp only at hSw); go_simp; try (with_reducible rfl))
        (try simp only [Act.put, nA, nB, nC])
        refine wpAnyH_ready (rs := [3]) (by kernel_rfl) (by simp) ?_
        refine AllReadyH.cons rfl (fun K hK => ?_) AllReadyH.nil
        go_simp
        go_at_call 58
        refine (sign_any [125] _).mono ?_
        rintro e9 X ⟨rfl, hbX⟩
        have H4x := Lib.hid (H3.out.drew.below hbX)
        clear hbX
        go_wp2_with fail
        refine hK.out _ _ trivial (fun hHeld => ?_)
        clear hK K
        (try simp only [Act.put, nA, nB, nC])
        refine wpAnyH_ready (rs := [4]) (by kernel_rfl) (by simp) ?_
        refine AllReadyH.cons rfl (fun K hK => ?_) AllReadyH.nil
        go_simp
        go_at_call 59
        refine (takeT_any H4x.out.p 4 [125] (by decide)).mono ?_
        rintro e9 Y ⟨rfl, hpY, hgY⟩
        have H4 := Lib.hid (H4x.out.step hpY hgY (stp_len _ _ _))
        clear hpY hgY H4x
        go_wp2_with fail
        refine hK.out _ _ trivial (fun hHeld => ?_)
        clear hK K
        (try simp only [Act.put, nA, nB, nC])
        refine wpAnyH_done (by kernel_rfl) ?_ _
        rw [stp_no hq] at H4
        clear H2 H3 hq
        have HC := Lib.hid (show Calls Try.prog 73 #[.pointer (some ⟨gp, 0, none⟩), .slice (some ⟨gv, 0, none⟩) (N + 1) cv] _ _ by have h := add_any HST (BlZ.cv HN.out.symm H4.out) hne; rw [HN.out] at h; exact h)
        rcases hx9 : addP m.d (([] : List LvM).map LvM.d) u1 with ⟨o9, z9⟩ | z9 | _
        · have HE9 := Lib.hid (HF.out.trans (congrArg (fun q => R.bind q _) hx9))
          have hz9 := addP_len hx9
          rw [hx9] at HC
          go_wp2_with fail
          refine HC.out.mono ?_
          rintro e w9 ⟨v9, ms9, rfl, hd9, hW9⟩
          have HW9 := Lib.hid hW9
          have HM9 := Lib.hid (show r = B (ms9.map LvM.d) z9 by rw [hd9]; exact HE9.out)
          have HL9 := Lib.hid (BlW.lft hW9)
          clear hW9 hd9 HC hx9
          go_wp2_with fail
          go_roundw
          case rel => exact ⟨ms9, z9, HW9, HM9⟩
          case measure =>
           have h1 := HL.out
           have h2 := HL9.out
           rw [h1, h2]
           omega
        · have HE9 := Lib.hid (HF.out.trans (congrArg (fun q => R.bind q _) hx9))
          rw [hx9] at HC
          go_wp2_with fail
          refine HC.out.mono ?_
          rintro e w9 ⟨rfl, hp9, hg9⟩
          go_wp2_with fail
          exact ⟨rfl, BkR.bad' HE9.out rfl hp9 hg9⟩
        · rw [hx9] at HC
          go_wp2_with fail
          refine HC.out.mono ?_
          rintro e w9 h9
          exact h9.elim
      · have HF := Lib.hid (hM.out.trans (B_one (show isS [125] u1 = true from hq)))
        clear hM
        go_wp2_with fail
        refine wp_region_held_drew (S := fun W9 => True) (by kernel_rfl) (trivial) (fun hHeld => ?_)
        refine heldTake (i := 0) (d := some 12) (v := ?_) rfl rfl (by kernel_rfl) (by kernel_rfl) (by kernel_rfl) (fun _ _ _ h => h) (by kernel_rfl) ?hyq_19 (by assumption) ?restq_19
        case hyq_19 => (intro W9 hSw; (try dsimp only at hSw); go_simp; try (with_reducible rfl))
        (try simp only [Act.put, nA, nB, nC])
        refine heldTake (i := 1) (d := some 13) (v := ?_) rfl rfl (by kernel_rfl) (by kernel_rfl) (by kernel_rfl) (fun _ _ _ h => h) (by kernel_rfl) ?hyq_20 (by assumption) ?restq_20
        case hyq_20 => (intro W9 hSw; (try dsimp only at hSw); go_simp; try (with_reducible rfl))
        (try simp only [Act.put, nA, nB, nC])
        refine heldTake (i := 2) (d := some 14) (v := ?_) rfl rfl (by kernel_rfl) (by kernel_rfl) (by kernel_rfl) (fun _ _ _ h => h) (by kernel_rfl) ?hyq_21 (by assumption) ?restq_21
        case hyq_21 => (intro W9 hSw; (try dsimp only at hSw); go_simp; try (with_reducible rfl))
        (try simp only [Act.put, nA, nB, nC])
        refine heldTake (i := 3) (d := some 15) (v := ?_) rfl rfl (by kernel_rfl) (by kernel_rfl) (by kernel_rfl) (fun _ _ _ h => h) (by kernel_rfl) ?hyq_22 (by assumption) ?restq_22
        case hyq_22 => (intro W9 hSw; (try dsimp only at hSw); go_simp; try (with_reducible rfl))
        (try simp only [Act.put, nA, nB, nC])
        refine heldTake (i := 4) (d := some 16) (v := ?_) rfl rfl (by kernel_rfl) (by kernel_rfl) (by kernel_rfl) (fun _ _ _ h => h) (by kernel_rfl) ?hyq_23 (by assumption) ?restq_23
        case hyq_23 => (intro W9 hSw; (try dsimp only at hSw); go_simp; try (with_reducible rfl))
        (try simp only [Act.put, nA, nB, nC])
        refine heldTake (i := 5) (d := some 17) (v := ?_) rfl rfl (by kernel_rfl) (by kernel_rfl) (by kernel_rfl) (fun _ _ _ h => h) (by kernel_rfl) ?hyq_24 (by assumption) ?restq_24
        case hyq_24 => (intro W9 hSw; (try dsimp only at hSw); go_simp; try (with_reducible rfl))
        (try simp only [Act.put, nA, nB, nC])
        refine heldTake (i := 6) (d := some 18) (v := ?_) rfl rfl (by kernel_rfl) (by kernel_rfl) (by kernel_rfl) (fun _ _ _ h => h) (by kernel_rfl) ?hyq_25 (by assumption) ?restq_25
        case hyq_25 => (intro W9 hSw; (try dsimp only at hSw); go_simp; try (with_reducible rfl))
        (try simp only [Act.put, nA, nB, nC])
        refine wpAnyH_ready (rs := [7]) (by kernel_rfl) (by simp) ?_
        refine AllReadyH.cons rfl (fun K hK => ?_) AllReadyH.nil
        go_simp
        go_at_call 58
        refine (sign_any [125] _).mono ?_
        rintro e9 X ⟨rfl, hbX⟩
        have H3x := Lib.hid (H2.out.drew.below hbX)
        clear hbX
        go_wp2_with fail
        refine hK.out _ _ trivial (fun hHeld => ?_)
        clear hK K
        (try simp only [Act.put, nA, nB, nC])
        refine wpAnyH_ready (rs := [8]) (by kernel_rfl) (by simp) ?_
        refine AllReadyH.cons rfl (fun K hK => ?_) AllReadyH.nil
        go_simp
        go_at_call 34
        refine (has_any H3x.out.p ⟨4, [125], 0, 0⟩ (by decide)).mono ?_
        rintro e9 Y ⟨rfl, hbY⟩
        have H3 := Lib.hid (H3x.out.below hbY)
        rw [hq]
        clear hbY H3x
        go_wp2_with fail
        refine hK.out _ _ trivial (fun hHeld => ?_)
        clear hK K
        (try simp only [Act.put, nA, nB, nC])
        refine heldTake (i := 9) (d := some 21) (v := ?_) rfl rfl (by kernel_rfl) (by kernel_rfl) (by kernel_rfl) (fun _ _ _ h => h) (by kernel_rfl) ?hyq_26 (by assumption) ?restq_26
        case hyq_26 => (intro W9 hSw; (try dsimp only at hSw); go_simp; try (with_reducible rfl))
        (try simp only [Act.put, nA, nB, nC])
        refine heldTake (i := 10) (d := some 22) (v := ?_) rfl rfl (by kernel_rfl) (by kernel_rfl) (by kernel_rfl) (fun _ _ _ h => h) (by kernel_rfl) ?hyq_27 (by assumption) ?restq_27
        case hyq_27 => (intro W9 hSw; (try dsimp only at hSw); go_simp; try (with_reducible rfl))
        (try simp only [Act.put, nA, nB, nC])
        refine wpAnyH_done (by kernel_rfl) ?_ _
        go_wp2_with fail
        refine wp_region_held_drew (S := fun W9 => True) (by kernel_rfl) trivial (fun hHeld => ?_)
        have H4d := Lib.hid H3.out.drew
        refine heldTake (i := 0) (d := some 34) (v := ?_) rfl rfl (by kernel_rfl) (by kernel_rfl) (by kernel_rfl) (fun _ _ _ h => h) (by kernel_rfl) ?hyq_28 (by assumption) ?restq_28
        case hyq_28 => (intro W9 hSw; (try dsimp only at hSw); go_simp; try (with_reducible rfl))
        (try simp only [Act.put, nA, nB, nC])
        refine heldTake (i := 1) (d := some 35) (v := ?_) rfl rfl (by kernel_rfl) (by kernel_rfl) (by kernel_rfl) (fun _ _ _ h => h) (by kernel_rfl) ?hyq_29 (by assumption) ?restq_29
        case hyq_29 => (intro W9 hSw; (try dsimp only at hSw); go_simp; try (with_reducible rfl))
        (try simp only [Act.put, nA, nB, nC])
        refine heldTake (i := 2) (d := some 36) (v := ?_) rfl rfl (by kernel_rfl) (by kernel_rfl) (by kernel_rfl) (fun _ _ _ h => h) (by kernel_rfl) ?hyq_30 (by assumption) ?restq_30
        case hyq_30 => (intro W9 hSw; (try dsimp only at hSw); go_simp; try (with_reducible rfl))
        (try simp only [Act.put, nA, nB, nC])
        refine wpAnyH_ready (rs := [3]) (by kernel_rfl) (by simp) ?_
        refine AllReadyH.cons rfl (fun K hK => ?_) AllReadyH.nil
        go_simp
        go_at_call 58
        refine (sign_any [125] _).mono ?_
        rintro e9 X ⟨rfl, hbX⟩
        have H4x := Lib.hid (H4d.out.below hbX)
        clear hbX
        go_wp2_with fail
        refine hK.out _ _ trivial (fun hHeld => ?_)
        clear hK K
        (try simp only [Act.put, nA, nB, nC])
        refine wpAnyH_ready (rs := [4]) (by kernel_rfl) (by simp) ?_
        refine AllReadyH.cons rfl (fun K hK => ?_) AllReadyH.nil
        (try rw [if_pos (by kernel_rfl)])
        refine El.op_build1 eTo X 22 (.agg #[.int .u8 0, .string ⟨#[]⟩, .int .i64 0, .int .i64 0]) 40 Try.underlying22 tok_info rfl (by decide) (.tmp 37) rfl (tV ⟨4, [125], 0, 0⟩) ⟨4, [125], 0, 0⟩ rfl rfl ?_
        change K (Act.put _ (some 38) (.slice (some ⟨X.heap.size, 0, none⟩) 1 1)) (X.alloc (.cells (eTo.f ⟨4, [125], 0, 0⟩).toArray 77))
        have hbY := below_lnew X (.cells (eTo.f ⟨4, [125], 0, 0⟩).toArray 77)
        have hT9 := El.liesT_new eTo X [⟨4, [125], 0, 0⟩] (eTo.f ⟨4, [125], 0, 0⟩).toArray (fun i v h => by simpa [eTo, tS] using h)
        obtain ⟨Y, hY⟩ : ∃ Y, X.alloc (.cells (eTo.f ⟨4, [125], 0, 0⟩).toArray 77) = Y := ⟨_, rfl⟩
        replace hT9 : eTo.LiesT (X.alloc (.cells (eTo.f ⟨4, [125], 0, 0⟩).toArray 77)) (some ⟨X.heap.size, 0, none⟩) [⟨4, [125], 0, 0⟩] := hT9
        rw [hY] at hbY hT9 ⊢
        have H4y := Lib.hid (H4x.out.below hbY)
        have HT9 := Lib.hid hT9
        clear hY hbY hT9
        refine hK.out _ _ trivial (fun hHeld => ?_)
        clear hK K
        (try simp only [Act.put, nA, nB, nC])
        refine wpAnyH_ready (rs := [5]) (by kernel_rfl) (by simp) ?_
        refine AllReadyH.cons rfl (fun K hK => ?_) AllReadyH.nil
        go_simp
        go_at_call 56
        refine (need_any H4y.out.p [⟨4, [125], 0, 0⟩] (one_kd 4 (by decide) _) (some ⟨_, 0, none⟩) 1 HT9.out (by simp)).mono ?_
        rintro e9 Z hN
        rw [nd1_yes hq] at hN
        obtain ⟨rfl, hpZ, hgZ⟩ := hN
        have H4 := Lib.hid (H4y.out.step hpZ hgZ (tail_le _))
        clear hpZ hgZ H4d H4x H4y HT9
        go_wp2_with fail
        refine hK.out _ _ trivial (fun hHeld => ?_)
        clear hK K
        (try simp only [Act.put, nA, nB, nC])
        refine wpAnyH_done (by kernel_rfl) ?_ _
        have k0 := (lvCells H4.out HN.out.symm).1
        rw [show N * 2 = 0 by have := HN.out; simp at this; omega] at k0
        have hNi : (0 : Int) < (N : Int) + 1 := by omega
        go_wp2_with fail
        go_ret
        exact BkR.ok' HF.out rfl H4.out
    · have hgN : decide ((1 : Int) < (N : Int) + 1) = true := decide_eq_true (by have := HN.out; simp at this; omega)
      obtain ⟨ys9, t9, ha9⟩ : ∃ ys t, a.xs = ys ++ [t] := ⟨a.xs.dropLast, a.xs.getLast (hne.out a (by simp)), (List.dropLast_concat_getLast _).symm⟩
      obtain ⟨ga9, ca9, hv9⟩ : ∃ ga ca, a.v = .slice (some ⟨ga, 0, none⟩) (ys9.length + 1) ca := by
       obtain ⟨g9, c9, e9⟩ := El.Own.at0 (H2.out.o a (by simp)) (by rw [ha9]; simp)
       exact ⟨g9, c9, by rw [e9, ha9]; simp⟩
      have hc9 : N + 1 ≤ cv := by
       obtain ⟨A2, c2, e2, k1, _, _⟩ := H2.out.r.form
       injection e2 with _ e2 e3
       rw [e2, e3]
       exact k1
      have ha9 := Lib.hid ha9
      have hv9 := Lib.hid hv9
      have hc9 := Lib.hid hc9
      go_wp2_with fail
      go_quiet (fail)
      have H3 := Lib.hid (H2.out.below (below_draws nq))
      go_wp2_with fail
      refine wp_region_held_drew (S := fun W9 => True) (by kernel_rfl) (trivial) (fun hHeld => ?_)
      refine heldTake (i := 0) (d := some 23) (v := ?_) rfl rfl (by kernel_rfl) (by kernel_rfl) (by kernel_rfl) (fun _ _ _ h => h) (by kernel_rfl) ?hyq_31 (by assumption) ?restq_31
      case hyq_31 => (intro W9 hSw; (try dsimp only at hSw); go_simp; try (with_reducible rfl))
      (try simp only [Act.put, nA, nB, nC])
      refine heldTake (i := 1) (d := some 24) (v := ?_) rfl rfl (by kernel_rfl) (by kernel_rfl) (by kernel_rfl) (fun _ _ _ h => h) (by kernel_rfl) ?hyq_32 (by assumption) ?restq_32
      case hyq_32 => (intro W9 hSw; (try dsimp only at hSw); go_simp; try (with_reducible rfl))
      (try simp only [Act.put, nA, nB, nC])
      refine heldTake (i := 2) (d := some 25) (v := ?_) rfl rfl (by kernel_rfl) (by kernel_rfl) (by kernel_rfl) (fun _ _ _ h => h) (by kernel_rfl) ?hyq_33 (by assumption) ?restq_33
      case hyq_33 => (intro W9 hSw; (try dsimp only at hSw); go_simp; try (with_reducible rfl))
      (try simp only [Act.put, nA, nB, nC])
      refine wpAnyH_ready (rs := [3]) (by kernel_rfl) (by simp) ?_
      refine AllReadyH.cons rfl (fun K hK => ?_) AllReadyH.nil
      go_simp
      go_at_call 58
      refine (sign_any [125] _).mono ?_
      rintro e9 X ⟨rfl, hbX⟩
      have H4x := Lib.hid (H3.out.drew.below hbX)
      clear hbX
      go_wp2_with fail
      refine hK.out _ _ trivial (fun hHeld => ?_)
      clear hK K
      (try simp only [Act.put, nA, nB, nC])
      refine wpAnyH_ready (rs := [4]) (by kernel_rfl) (by simp) ?_
      refine AllReadyH.cons rfl (fun K hK => ?_) AllReadyH.nil
      go_simp
      go_at_call 59
      refine (takeT_any H4x.out.p 4 [125] (by decide)).mono ?_
      rintro e9 Y ⟨rfl, hpY, hgY⟩
      have H4 := Lib.hid (H4x.out.step hpY hgY (stp_len _ _ _))
      clear hpY hgY H4x
      go_wp2_with fail
      refine hK.out _ _ trivial (fun hHeld => ?_)
      clear hK K
      (try simp only [Act.put, nA, nB, nC])
      refine wpAnyH_done (by kernel_rfl) ?_ _
      cases hq : isT 4 [125] u1
      · have HF := Lib.hid (hM.out.trans (B_add (show isS [125] u1 = false from hq)))
        rw [stp_no hq] at H4
        clear hM H2 H3 hq
        have HC := Lib.hid (show Calls Try.prog 73 #[.pointer (some ⟨gp, 0, none⟩), .slice (some ⟨gv, 0, none⟩) (N + 1) cv] _ _ by have h := add_any HST (BlZ.cv HN.out.symm H4.out) hne; rw [HN.out] at h; exact h)
        rcases hx9 : addP m.d ((a :: o).map LvM.d) u1 with ⟨o9, z9⟩ | z9 | _
        · have HE9 := Lib.hid (HF.out.trans (congrArg (fun q => R.bind q _) hx9))
          have hz9 := addP_len hx9
          rw [hx9] at HC
          go_wp2_with fail
          refine HC.out.mono ?_
          rintro e w9 ⟨v9, ms9, rfl, hd9, hW9⟩
          have HW9 := Lib.hid hW9
          have HM9 := Lib.hid (show r = B (ms9.map LvM.d) z9 by rw [hd9]; exact HE9.out)
          have HL9 := Lib.hid (BlW.lft hW9)
          clear hW9 hd9 HC hx9
          go_wp2_with fail
          go_roundw
          case rel => exact ⟨ms9, z9, HW9, HM9⟩
          case measure =>
           have h1 := HL.out
           have h2 := HL9.out
           rw [h1, h2]
           omega
        · have HE9 := Lib.hid (HF.out.trans (congrArg (fun q => R.bind q _) hx9))
          rw [hx9] at HC
          go_wp2_with fail
          refine HC.out.mono ?_
          rintro e w9 ⟨rfl, hp9, hg9⟩
          go_wp2_with fail
          exact ⟨rfl, BkR.bad' HE9.out rfl hp9 hg9⟩
        · rw [hx9] at HC
          go_wp2_with fail
          refine HC.out.mono ?_
          rintro e w9 h9
          exact h9.elim
      · have HF := Lib.hid (hM.out.trans (B_close (show isS [125] u1 = true from hq)))
        have hu9 := tail_len (isS_ne (tx := [125]) hq)
        rw [stp_yes hq] at H4
        clear hM H2 H3 hq
        have HC := Lib.hid (close_any H4.out (show N = o.length + 1 from HN.out.symm) (fun b hb => hne b (by simp [hb])) ha9.out hv9.out hc9.out)
        rcases hx9 : cloP m.d a.d (o.map LvM.d) u1.tail with ⟨o9, z9⟩ | z9 | _
        · have HE9 := Lib.hid (HF.out.trans (congrArg (fun q => R.bind q _) hx9))
          have hz9 := cloP_len hx9
          rw [hx9] at HC
          go_wp2_with fail
          refine HC.out.mono ?_
          rintro e w9 ⟨v9, ms9, rfl, hd9, hW9⟩
          have HW9 := Lib.hid hW9
          have HM9 := Lib.hid (show r = B (ms9.map LvM.d) z9 by rw [hd9]; exact HE9.out)
          have HL9 := Lib.hid (BlW.lft hW9)
          clear hW9 hd9 HC hx9
          go_wp2_with fail
          go_roundw
          case rel => exact ⟨ms9, z9, HW9, HM9⟩
          case measure =>
           have h1 := HL.out
           have h2 := HL9.out
           rw [h1, h2]
           omega
        · have HE9 := Lib.hid (HF.out.trans (congrArg (fun q => R.bind q _) hx9))
          rw [hx9] at HC
          go_wp2_with fail
          refine HC.out.mono ?_
          rintro e w9 ⟨rfl, hp9, hg9⟩
          go_wp2_with fail
          exact ⟨rfl, BkR.bad' HE9.out rfl hp9 hg9⟩
        · rw [hx9] at HC
          go_wp2_with fail
          refine HC.out.mono ?_
          rintro e w9 h9
          exact h9.elim
end
end Go.Proofs.Ytjllbacefbjjaaa
