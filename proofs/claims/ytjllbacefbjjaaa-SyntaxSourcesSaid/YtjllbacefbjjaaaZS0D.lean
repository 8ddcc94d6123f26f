/-
  Merged for a claim: S0D.
-/
import Derived.Test.YtjllbacefbjjaaaZJ15
import Derived.Deep.CutRange
import Derived.Deep.CutBlock
namespace Go.Proofs.Ytjllbacefbjjaaa
open Go Go.RowKit

set_option maxRecDepth 100000 in
set_option maxHeartbeats 16000000 in
theorem statement_any {w : World} {gp : Nat} {A : Option Addr} {c : Nat} {l u : List To} (hP : Ps w gp A c l u) : Calls Try.prog 77 #[.pointer (some ⟨gp, 0, none⟩)] w (StR w gp A c l (hdS u)) := by
 obtain ⟨r, hr⟩ : ∃ r, hdS u = r := ⟨_, rfl⟩
 rw [hr]
 have HR := Lib.hid hr.symm
 unfold hdS at HR
 have hgp := hP.lt
 have hb0 := below_lnew w (.cells zSt.toArray 51)
 have HG1 := Lib.hid (grown_below hb0 (some gp))
 have HZ := Lib.hid (show CAt (w.alloc (.cells zSt.toArray 51)) w.heap.size 51 zSt from heap_alloc_new w _)
 have HP1 := Lib.hid (hP.next hb0)
 have HLK := Lib.hid (look_any HP1.out 0 (by omega))
 rw [List.drop_zero] at HLK
 have hf := tok_f3
 unfold zSt at HG1 HZ HP1 HLK
 clear hr hb0 hP
 generalize hln : (hd u).ln = ln at *
 generalize hd u = t0 at *
 obtain ⟨k0, x0, n0, l0⟩ := t0
 dsimp only at hln
 subst hln
 unfold tV tS at HLK
 go_enter Try.func77, Try.ntmps77
 go_upto_region 1 with fail
 obtain ⟨w1, hw1⟩ : ∃ w1, w.alloc (.cells #[.int .u8 0, .int .i64 0, .string ⟨#[]⟩, .string ⟨#[]⟩, .string ⟨#[]⟩, .int .u8 0, .int .i64 0, .string ⟨#[]⟩, .slice none 0 0, .slice none 0 0, .slice none 0 0] 51) = w1 := ⟨_, rfl⟩
 rw [show ([.int .u8 0, .int .i64 0, .string ⟨#[]⟩, .string ⟨#[]⟩, .string ⟨#[]⟩, .int .u8 0, .int .i64 0, .string ⟨#[]⟩, .slice none 0 0, .slice none 0 0, .slice none 0 0] : List Value).toArray = #[.int .u8 0, .int .i64 0, .string ⟨#[]⟩, .string ⟨#[]⟩, .string ⟨#[]⟩, .int .u8 0, .int .i64 0, .string ⟨#[]⟩, .slice none 0 0, .slice none 0 0, .slice none 0 0] from rfl] at HG1 HZ HP1 HLK
 rw [hw1] at HG1 HZ HP1 HLK ⊢
 clear hw1
 go_wp2_with fail
 refine HLK.out.mono ?_
 rintro e w2 ⟨rfl, hb2⟩
 have HB2 := Lib.hid hb2
 have H0 := Lib.hid (show SmZ w1 (w2.alloc (.cells #[.int .u8 0, .int .i64 l0, .string ⟨#[]⟩, .string ⟨#[]⟩, .string ⟨#[]⟩, .int .u8 0, .int .i64 0, .string ⟨#[]⟩, .slice none 0 0, .slice none 0 0, .slice none 0 0] 51)) gp w2.heap.size A c l (sf0 l0) (.slice none 0 0) [] [] (.slice none 0 0) (w2.alloc (.cells #[.int .u8 0, .int .i64 l0, .string ⟨#[]⟩, .string ⟨#[]⟩, .string ⟨#[]⟩, .int .u8 0, .int .i64 0, .string ⟨#[]⟩, .slice none 0 0, .slice none 0 0, .slice none 0 0] 51)) u from
  ⟨(HP1.out.next hb2).next (below_lnew w2 _), heap_alloc_new w2 _, El.Own.nil _ _, trivial, grown_below (hb2.trans ((below_lnew w2 _).mono hb2.size)) _, ⟨HP1.out.lt, hb2.size, by have := HP1.out.ulen; simpa using this⟩, .refl _⟩)
 clear hb2 HLK
 go_upto_block 0 with fail
 generalize w2.heap.size = gs at *
 obtain ⟨wf, hwf⟩ : ∃ wf, w2.alloc (.cells #[.int .u8 0, .int .i64 l0, .string ⟨#[]⟩, .string ⟨#[]⟩, .string ⟨#[]⟩, .int .u8 0, .int .i64 0, .string ⟨#[]⟩, .slice none 0 0, .slice none 0 0, .slice none 0 0] 51) = wf := ⟨_, rfl⟩
 rw [hwf] at H0 ⊢
 clear hwf HB2
 go_cut [] from 10 (fun wx => ∃ (s9 : SF) (es9 : List Ex) (ks9 : List XT) (vk9 : Value) (z9 : List To), Hid (SmZ w1 wf gp gs A c l s9 vk9 ks9 ks9 vk9 wx z9) ∧ Hid (r = semiS (s9, es9) z9) ∧ Hid (es9 = xsd ks9))
 case first =>
  go_wp2_with fail
  refine wp_region_held_drew (S := fun W9 => True) (by kernel_rfl) (trivial) (fun hHeld => ?_)
  refine heldTake (i := 0) (d := some 13) (v := ?_) rfl rfl (by kernel_rfl) (by kernel_rfl) (by kernel_rfl) (fun _ _ _ h => h) (by kernel_rfl) ?hyq_1 (by assumption) ?restq_1
  case hyq_1 => (intro W9 hSw; (try dsimp only at hSw); go_simp; try (with_reducible rfl))
  (try simp only [Act.put, nA, nB, nC])
  refine heldTake (i := 1) (d := some 14) (v := ?_) rfl rfl (by kernel_rfl) (by kernel_rfl) (by kernel_rfl) (fun _ _ _ h => h) (by kernel_rfl) ?hyq_2 (by assumption) ?restq_2
  case hyq_2 => (intro W9 hSw; (try dsimp only at hSw); go_simp; try (with_reducible rfl))
  (try simp only [Act.put, nA, nB, nC])
  refine heldTake (i := 2) (d := some 15) (v := ?_) rfl rfl (by kernel_rfl) (by kernel_rfl) (by kernel_rfl) (fun _ _ _ h => h) (by kernel_rfl) ?hyq_3 (by assumption) ?restq_3
  case hyq_3 => (intro W9 hSw; (try dsimp only at hSw); go_simp; try (with_reducible rfl))
  (try simp only [Act.put, nA, nB, nC])
  refine wpAnyH_ready (rs := [3]) (by kernel_rfl) (by simp) ?_
  refine AllReadyH.cons rfl (fun K hK => ?_) AllReadyH.nil
  go_simp
  go_at_call 35
  refine (word_any [105, 102] _).mono ?_
  rintro e9 X ⟨rfl, hbX⟩
  have H1x := Lib.hid (H0.out.drew.below hbX)
  clear hbX
  go_wp2_with fail
  refine hK.out _ _ trivial (fun hHeld => ?_)
  clear hK K
  (try simp only [Act.put, nA, nB, nC])
  refine wpAnyH_ready (rs := [4]) (by kernel_rfl) (by simp) ?_
  refine AllReadyH.cons rfl (fun K hK => ?_) AllReadyH.nil
  go_simp
  go_at_call 59
  refine (takeT_any H1x.out.p 3 [105, 102] (by decide)).mono ?_
  rintro e9 Y ⟨rfl, hpY, hgY⟩
  have H1 := Lib.hid (H1x.out.step hpY hgY (stp_len _ _ _))
  clear hpY hgY H1x
  go_wp2_with fail
  refine hK.out _ _ trivial (fun hHeld => ?_)
  clear hK K
  (try simp only [Act.put, nA, nB, nC])
  refine heldTake (i := 5) (d := some 12) (v := ?_) rfl rfl (by kernel_rfl) (by kernel_rfl) (by kernel_rfl) (fun _ _ _ h => h) (by kernel_rfl) ?hyq_4 (by assumption) ?restq_4
  case hyq_4 => (intro W9 hSw; (try dsimp only at hSw); go_simp; try (with_reducible rfl))
  (try simp only [Act.put, nA, nB, nC])
  refine wpAnyH_done (by kernel_rfl) ?_ _
  cases hq : isT 3 [105, 102] u
  · skip
    rw [stp_no hq] at H1
    have HR1 := Lib.hid (HR.out.trans (if_neg (by show ¬ isT 3 [105, 102] u = true; rw [hq]; decide)))
    clear HR hq
    go_wp2_with fail
    refine wp_region_held_drew (S := fun W9 => True) (by kernel_rfl) (trivial) (fun hHeld => ?_)
    refine heldTake (i := 0) (d := some 23) (v := ?_) rfl rfl (by kernel_rfl) (by kernel_rfl) (by kernel_rfl) (fun _ _ _ h => h) (by kernel_rfl) ?hyq_5 (by assumption) ?restq_5
    case hyq_5 => (intro W9 hSw; (try dsimp only at hSw); go_simp; try (with_reducible rfl))
    (try simp only [Act.put, nA, nB, nC])
    refine heldTake (i := 1) (d := some 24) (v := ?_) rfl rfl (by kernel_rfl) (by kernel_rfl) (by kernel_rfl) (fun _ _ _ h => h) (by kernel_rfl) ?hyq_6 (by assumption) ?restq_6
    case hyq_6 => (intro W9 hSw; (try dsimp only at hSw); go_simp; try (with_reducible rfl))
    (try simp only [Act.put, nA, nB, nC])
    refine heldTake (i := 2) (d := some 25) (v := ?_) rfl rfl (by kernel_rfl) (by kernel_rfl) (by kernel_rfl) (fun _ _ _ h => h) (by kernel_rfl) ?hyq_7 (by assumption) ?restq_7
    case hyq_7 => (intro W9 hSw; (try dsimp only at hSw); go_simp; try (with_reducible rfl))
    (try simp only [Act.put, nA, nB, nC])
    refine wpAnyH_ready (rs := [3]) (by kernel_rfl) (by simp) ?_
    refine AllReadyH.cons rfl (fun K hK => ?_) AllReadyH.nil
    go_simp
    go_at_call 35
    refine (word_any [102, 111, 114] _).mono ?_
    rintro e9 X ⟨rfl, hbX⟩
    have H2x := Lib.hid (H1.out.drew.below hbX)
    clear hbX
    go_wp2_with fail
    refine hK.out _ _ trivial (fun hHeld => ?_)
    clear hK K
    (try simp only [Act.put, nA, nB, nC])
    refine wpAnyH_ready (rs := [4]) (by kernel_rfl) (by simp) ?_
    refine AllReadyH.cons rfl (fun K hK => ?_) AllReadyH.nil
    go_simp
    go_at_call 59
    refine (takeT_any H2x.out.p 3 [102, 111, 114] (by decide)).mono ?_
    rintro e9 Y ⟨rfl, hpY, hgY⟩
    have H2 := Lib.hid (H2x.out.step hpY hgY (stp_len _ _ _))
    clear hpY hgY H2x
    go_wp2_with fail
    refine hK.out _ _ trivial (fun hHeld => ?_)
    clear hK K
    (try simp only [Act.put, nA, nB, nC])
    refine heldTake (i := 5) (d := some 22) (v := ?_) rfl rfl (by kernel_rfl) (by kernel_rfl) (by kernel_rfl) (fun _ _ _ h => h) (by kernel_rfl) ?hyq_8 (by assumption) ?restq_8
    case hyq_8 => (intro W9 hSw; (try dsimp only at hSw); go_simp; try (with_reducible rfl))
    (try simp only [Act.put, nA, nB, nC])
    refine wpAnyH_done (by kernel_rfl) ?_ _
    cases hq : isT 3 [102, 111, 114] u
    · skip
      rw [stp_no hq] at H2
      have HR2 := Lib.hid (HR1.out.trans (if_neg (by show ¬ isT 3 [102, 111, 114] u = true; rw [hq]; decide)))
      clear HR1 hq
      go_wp2_with fail
      refine wp_region_held_drew (S := fun W9 => True) (by kernel_rfl) (trivial) (fun hHeld => ?_)
      refine heldTake (i := 0) (d := some 33) (v := ?_) rfl rfl (by kernel_rfl) (by kernel_rfl) (by kernel_rfl) (fun _ _ _ h => h) (by kernel_rfl) ?hyq_9 (by assumption) ?restq_9
      case hyq_9 => (intro W9 hSw; (try dsimp only at hSw); go_simp; try (with_reducible rfl))
      (try simp only [Act.put, nA, nB, nC])
      refine heldTake (i := 1) (d := some 34) (v := ?_) rfl rfl (by kernel_rfl) (by kernel_rfl) (by kernel_rfl) (fun _ _ _ h => h) (by kernel_rfl) ?hyq_10 (by assumption) ?restq_10
      case hyq_10 => (intro W9 hSw; (try dsimp only at hSw); go_simp; try (with_reducible rfl))
      (try simp only [Act.put, nA, nB, nC])
      refine heldTake (i := 2) (d := some 35) (v := ?_) rfl rfl (by kernel_rfl) (by kernel_rfl) (by kernel_rfl) (fun _ _ _ h => h) (by kernel_rfl) ?hyq_11 (by assumption) ?restq_11
      case hyq_11 => (intro W9 hSw; (try dsimp only at hSw); go_simp; try (with_reducible rfl))
      (try simp only [Act.put, nA, nB, nC])
      refine wpAnyH_ready (rs := [3]) (by kernel_rfl) (by simp) ?_
      refine AllReadyH.cons rfl (fun K hK => ?_) AllReadyH.nil
      go_simp
      go_at_call 35
      refine (word_any [118, 97, 114] _).mono ?_
      rintro e9 X ⟨rfl, hbX⟩
      have H3x := Lib.hid (H2.out.drew.below hbX)
      clear hbX
      go_wp2_with fail
      refine hK.out _ _ trivial (fun hHeld => ?_)
      clear hK K
      (try simp only [Act.put, nA, nB, nC])
      refine wpAnyH_ready (rs := [4]) (by kernel_rfl) (by simp) ?_
      refine AllReadyH.cons rfl (fun K hK => ?_) AllReadyH.nil
      go_simp
      go_at_call 59
      refine (takeT_any H3x.out.p 3 [118, 97, 114] (by decide)).mono ?_
      rintro e9 Y ⟨rfl, hpY, hgY⟩
      have H3 := Lib.hid (H3x.out.step hpY hgY (stp_len _ _ _))
      clear hpY hgY H3x
      go_wp2_with fail
      refine hK.out _ _ trivial (fun hHeld => ?_)
      clear hK K
      (try simp only [Act.put, nA, nB, nC])
      refine heldTake (i := 5) (d := some 32) (v := ?_) rfl rfl (by kernel_rfl) (by kernel_rfl) (by kernel_rfl) (fun _ _ _ h => h) (by kernel_rfl) ?hyq_12 (by assumption) ?restq_12
      case hyq_12 => (intro W9 hSw; (try dsimp only at hSw); go_simp; try (with_reducible rfl))
      (try simp only [Act.put, nA, nB, nC])
      refine wpAnyH_done (by kernel_rfl) ?_ _
      cases hq : isT 3 [118, 97, 114] u
      · skip
        rw [stp_no hq] at H3
        have HR3 := Lib.hid (HR2.out.trans (if_neg (by show ¬ isT 3 [118, 97, 114] u = true; rw [hq]; decide)))
        clear HR2 hq
        go_wp2_with fail
        refine wp_region_held_drew (S := fun W9 => True) (by kernel_rfl) (trivial) (fun hHeld => ?_)
        refine heldTake (i := 0) (d := some 41) (v := ?_) rfl rfl (by kernel_rfl) (by kernel_rfl) (by kernel_rfl) (fun _ _ _ h => h) (by kernel_rfl) ?hyq_13 (by assumption) ?restq_13
        case hyq_13 => (intro W9 hSw; (try dsimp only at hSw); go_simp; try (with_reducible rfl))
        (try simp only [Act.put, nA, nB, nC])
        refine heldTake (i := 1) (d := some 42) (v := ?_) rfl rfl (by kernel_rfl) (by kernel_rfl) (by kernel_rfl) (fun _ _ _ h => h) (by kernel_rfl) ?hyq_14 (by assumption) ?restq_14
        case hyq_14 => (intro W9 hSw; (try dsimp only at hSw); go_simp; try (with_reducible rfl))
        (try simp only [Act.put, nA, nB, nC])
        refine heldTake (i := 2) (d := some 43) (v := ?_) rfl rfl (by kernel_rfl) (by kernel_rfl) (by kernel_rfl) (fun _ _ _ h => h) (by kernel_rfl) ?hyq_15 (by assumption) ?restq_15
        case hyq_15 => (intro W9 hSw; (try dsimp only at hSw); go_simp; try (with_reducible rfl))
        (try simp only [Act.put, nA, nB, nC])
        refine wpAnyH_ready (rs := [3]) (by kernel_rfl) (by simp) ?_
        refine AllReadyH.cons rfl (fun K hK => ?_) AllReadyH.nil
        go_simp
        go_at_call 35
        refine (word_any [112, 114, 105, 110, 116] _).mono ?_
        rintro e9 X ⟨rfl, hbX⟩
        have H4x := Lib.hid (H3.out.drew.below hbX)
        clear hbX
        go_wp2_with fail
        refine hK.out _ _ trivial (fun hHeld => ?_)
        clear hK K
        (try simp only [Act.put, nA, nB, nC])
        refine wpAnyH_ready (rs := [4]) (by kernel_rfl) (by simp) ?_
        refine AllReadyH.cons rfl (fun K hK => ?_) AllReadyH.nil
        go_simp
        go_at_call 59
        refine (takeT_any H4x.out.p 3 [112, 114, 105, 110, 116] (by decide)).mono ?_
        rintro e9 Y ⟨rfl, hpY, hgY⟩
        have H4 := Lib.hid (H4x.out.step hpY hgY (stp_len _ _ _))
        clear hpY hgY H4x
        go_wp2_with fail
        refine hK.out _ _ trivial (fun hHeld => ?_)
        clear hK K
        (try simp only [Act.put, nA, nB, nC])
        refine heldTake (i := 5) (d := some 40) (v := ?_) rfl rfl (by kernel_rfl) (by kernel_rfl) (by kernel_rfl) (fun _ _ _ h => h) (by kernel_rfl) ?hyq_16 (by assumption) ?restq_16
        case hyq_16 => (intro W9 hSw; (try dsimp only at hSw); go_simp; try (with_reducible rfl))
        (try simp only [Act.put, nA, nB, nC])
        refine wpAnyH_done (by kernel_rfl) ?_ _
        cases hq : isT 3 [112, 114, 105, 110, 116] u
        · skip
          rw [stp_no hq] at H4
          have HR4 := Lib.hid (HR3.out.trans (if_neg (by show ¬ isT 3 [112, 114, 105, 110, 116] u = true; rw [hq]; decide)))
          clear HR3 hq
          go_wp2_with fail
          refine wp_region_held_drew (S := fun W9 => True) (by kernel_rfl) (trivial) (fun hHeld => ?_)
          refine heldTake (i := 0) (d := some 62) (v := ?_) rfl rfl (by kernel_rfl) (by kernel_rfl) (by kernel_rfl) (fun _ _ _ h => h) (by kernel_rfl) ?hyq_17 (by assumption) ?restq_17
          case hyq_17 => (intro W9 hSw; (try dsimp only at hSw); go_simp; try (with_reducible rfl))
          (try simp only [Act.put, nA, nB, nC])
          refine heldTake (i := 1) (d := some 63) (v := ?_) rfl rfl (by kernel_rfl) (by kernel_rfl) (by kernel_rfl) (fun _ _ _ h => h) (by kernel_rfl) ?hyq_18 (by assumption) ?restq_18
          case hyq_18 => (intro W9 hSw; (try dsimp only at hSw); go_simp; try (with_reducible rfl))
          (try simp only [Act.put, nA, nB, nC])
          refine heldTake (i := 2) (d := some 64) (v := ?_) rfl rfl (by kernel_rfl) (by kernel_rfl) (by kernel_rfl) (fun _ _ _ h => h) (by kernel_rfl) ?hyq_19 (by assumption) ?restq_19
          case hyq_19 => (intro W9 hSw; (try dsimp only at hSw); go_simp; try (with_reducible rfl))
          (try simp only [Act.put, nA, nB, nC])
          refine wpAnyH_ready (rs := [3]) (by kernel_rfl) (by simp) ?_
          refine AllReadyH.cons rfl (fun K hK => ?_) AllReadyH.nil
          go_simp
          go_at_call 35
          refine (word_any [114, 101, 116, 117, 114, 110] _).mono ?_
          rintro e9 X ⟨rfl, hbX⟩
          have H5x := Lib.hid (H4.out.drew.below hbX)
          clear hbX
          go_wp2_with fail
          refine hK.out _ _ trivial (fun hHeld => ?_)
          clear hK K
          (try simp only [Act.put, nA, nB, nC])
          refine wpAnyH_ready (rs := [4]) (by kernel_rfl) (by simp) ?_
          refine AllReadyH.cons rfl (fun K hK => ?_) AllReadyH.nil
          go_simp
          go_at_call 59
          refine (takeT_any H5x.out.p 3 [114, 101, 116, 117, 114, 110] (by decide)).mono ?_
          rintro e9 Y ⟨rfl, hpY, hgY⟩
          have H5 := Lib.hid (H5x.out.step hpY hgY (stp_len _ _ _))
          clear hpY hgY H5x
          go_wp2_with fail
          refine hK.out _ _ trivial (fun hHeld => ?_)
          clear hK K
          (try simp only [Act.put, nA, nB, nC])
          refine heldTake (i := 5) (d := some 61) (v := ?_) rfl rfl (by kernel_rfl) (by kernel_rfl) (by kernel_rfl) (fun _ _ _ h => h) (by kernel_rfl) ?hyq_20 (by assumption) ?restq_20
          case hyq_20 => (intro W9 hSw; (try dsimp only at hSw); go_simp; try (with_reducible rfl))
          (try simp only [Act.put, nA, nB, nC])
          refine wpAnyH_done (by kernel_rfl) ?_ _
          cases hq : isT 3 [114, 101, 116, 117, 114, 110] u
          · skip
            rw [stp_no hq] at H5
            have HR5 := Lib.hid (HR4.out.trans (if_neg (by show ¬ isT 3 [114, 101, 116, 117, 114, 110] u = true; rw [hq]; decide)))
            clear HR4 hq
            go_wp2_with fail
            have HV := Lib.hid (named_any H5.out)
            (try rw [show xsd [] = [] from rfl] at HV)
            go_wp2_with fail
            rcases hx9 : nmdS (sf0 l0) [] u with ⟨⟨s9, es9⟩, z9⟩ | z9 | _
            · have HE9 := Lib.hid (HR5.out.trans (congrArg (fun q => R.bind q _) hx9))
              rw [hx9] at HV
              refine HV.out.mono ?_
              rintro e w9 ⟨rfl, ks9, vk9, hk9, hS9⟩
              have H9 := Lib.hid (show SmZ w1 wf gp gs A c l s9 vk9 ks9 ks9 vk9 w9 z9 from hS9.out)
              have HK9 := Lib.hid (show es9 = xsd ks9 from hk9.symm)
              clear hS9 hk9 hx9 HV HR5
              go_wp2_with fail
              go_meet
              exact ⟨s9, es9, ks9, vk9, z9, H9, HE9, HK9⟩
            · have HX9 := Lib.hid (HR5.out.trans (congrArg (fun q => R.bind q _) hx9))
              rw [hx9] at HV
              refine HV.out.mono ?_
              rintro e w9 ⟨rfl, hp9, hg9⟩
              go_wp2_with fail
              exact ⟨rfl, StR.bad' HX9.out rfl hp9 (grown_trans HG1.out hg9)⟩
            · rw [hx9] at HV
              refine HV.out.mono ?_
              rintro e w9 h9
              exact h9.elim
          · skip
            rw [stp_yes hq] at H5
            have HR5 := Lib.hid (HR4.out.trans (if_pos hq))
            clear HR4 hq
            have H6 := Lib.hid (show SmZ w1 wf gp gs A c l (sfK 10 l0) (.slice none 0 0) [] [] (.slice none 0 0) _ _ from H5.out.setKd 10)
            have q0 := H5.out.s.cell (j := 0) (by simp [SF.cs])
            have qf0 := H5.out.s.frozen 0
            simp only [SF.cs, List.getElem_cons_zero] at q0
            go_wp2_with fail
            obtain ⟨P9, hP9⟩ : ∃ P9, Y.setCell ⟨gs, 0, none⟩ (.int .u8 10) = P9 := ⟨_, rfl⟩
            rw [hP9] at H6 ⊢
            clear q0 qf0
            clear hP9
            refine wp_region_held_drew (S := fun W9 => True) (by kernel_rfl) (trivial) (fun hHeld => ?_)
            refine heldTake (i := 0) (d := some 68) (v := ?_) rfl rfl (by kernel_rfl) (by kernel_rfl) (by kernel_rfl) (fun _ _ _ h => h) (by kernel_rfl) ?hyq_21 (by assumption) ?restq_21
            case hyq_21 => (intro W9 hSw; (try dsimp only at hSw); go_simp; try (with_reducible rfl))
            (try simp only [Act.put, nA, nB, nC])
            refine heldTake (i := 1) (d := some 69) (v := ?_) rfl rfl (by kernel_rfl) (by kernel_rfl) (by kernel_rfl) (fun _ _ _ h => h) (by kernel_rfl) ?hyq_22 (by assumption) ?restq_22
            case hyq_22 => (intro W9 hSw; (try dsimp only at hSw); go_simp; try (with_reducible rfl))
            (try simp only [Act.put, nA, nB, nC])
            refine heldTake (i := 2) (d := some 70) (v := ?_) rfl rfl (by kernel_rfl) (by kernel_rfl) (by kernel_rfl) (fun _ _ _ h => h) (by kernel_rfl) ?hyq_23 (by assumption) ?restq_23
            case hyq_23 => (intro W9 hSw; (try dsimp only at hSw); go_simp; try (with_reducible rfl))
            (try simp only [Act.put, nA, nB, nC])
            refine wpAnyH_ready (rs := [3]) (by kernel_rfl) (by simp) ?_
            refine AllReadyH.cons rfl (fun K hK => ?_) AllReadyH.nil
            go_simp
            go_at_call 58
            refine (sign_any [59] _).mono ?_
            rintro e9 X ⟨rfl, hbX⟩
            have H7x := Lib.hid (H6.out.drew.below hbX)
            clear hbX
            go_wp2_with fail
            refine hK.out _ _ trivial (fun hHeld => ?_)
            clear hK K
            (try simp only [Act.put, nA, nB, nC])
            refine wpAnyH_ready (rs := [4]) (by kernel_rfl) (by simp) ?_
            refine AllReadyH.cons rfl (fun K hK => ?_) AllReadyH.nil
            go_simp
            go_at_call 34
            refine (has_any H7x.out.p ⟨4, [59], 0, 0⟩ (by decide)).mono ?_
            rintro e9 Y ⟨rfl, hbY⟩
            have H7 := Lib.hid (H7x.out.below hbY)
            clear hbY H7x
            go_wp2_with fail
            refine hK.out _ _ trivial (fun hHeld => ?_)
            clear hK K
            (try simp only [Act.put, nA, nB, nC])
            refine heldTake (i := 5) (d := some 73) (v := ?_) rfl rfl (by kernel_rfl) (by kernel_rfl) (by kernel_rfl) (fun _ _ _ h => h) (by kernel_rfl) ?hyq_24 (by assumption) ?restq_24
            case hyq_24 => (intro W9 hSw; (try dsimp only at hSw); go_simp; try (with_reducible rfl))
            (try simp only [Act.put, nA, nB, nC])
            refine wpAnyH_done (by kernel_rfl) ?_ _
            cases hq : isT 4 [59] u.tail
            · have HR6 := Lib.hid (HR5.out.trans (if_neg (by show ¬ isT 4 [59] u.tail = true; rw [hq]; decide)))
              clear HR5 hq
              have HV := Lib.hid (value_any H7.out)
              (try rw [show xsd [] = [] from rfl] at HV)
              go_wp2_with fail
              rcases hx9 : valP (sfK 10 l0) [] u.tail with ⟨⟨s9, es9⟩, z9⟩ | z9 | _
              · have HE9 := Lib.hid (HR6.out.trans (congrArg (fun q => R.bind q _) hx9))
                rw [hx9] at HV
                refine HV.out.mono ?_
                rintro e w9 ⟨rfl, ks9, vk9, hk9, hS9⟩
                have H9 := Lib.hid (show SmZ w1 wf gp gs A c l s9 vk9 ks9 ks9 vk9 w9 z9 from hS9.out)
                have HK9 := Lib.hid (show es9 = xsd ks9 from hk9.symm)
                clear hS9 hk9 hx9 HV HR6
                go_wp2_with fail
                go_meet
                exact ⟨s9, es9, ks9, vk9, z9, H9, HE9, HK9⟩
              · have HX9 := Lib.hid (HR6.out.trans (congrArg (fun q => R.bind q _) hx9))
                rw [hx9] at HV
                refine HV.out.mono ?_
                rintro e w9 ⟨rfl, hp9, hg9⟩
                go_wp2_with fail
                exact ⟨rfl, StR.bad' HX9.out rfl hp9 (grown_trans HG1.out hg9)⟩
              · rw [hx9] at HV
                refine HV.out.mono ?_
                rintro e w9 h9
                exact h9.elim
            · have HR6 := Lib.hid (HR5.out.trans (if_pos hq))
              clear HR5 hq
              obtain ⟨s9, es9, ks9, vk9, z9, h9, hr9, hk9⟩ : ∃ (s9 : SF) (es9 : List Ex) (ks9 : List XT) (vk9 : Value) (z9 : List To), SmZ w1 wf gp gs A c l s9 vk9 ks9 ks9 vk9 Y z9 ∧ r = semiS (s9, es9) z9 ∧ es9 = xsd ks9 := ⟨sfK 10 l0, [], [], .slice none 0 0, u.tail, H7.out, HR6.out, rfl⟩
              have H9 := Lib.hid h9
              have HE9 := Lib.hid hr9
              have HK9 := Lib.hid hk9
              clear h9 hr9 hk9 HR6 H7 H6
              go_wp2_with fail
              go_meet
              exact ⟨s9, es9, ks9, vk9, z9, H9, HE9, HK9⟩
        · skip
          rw [stp_yes hq] at H4
          have HR4 := Lib.hid (HR3.out.trans (if_pos hq))
          clear HR3 hq
          have H5 := Lib.hid (show SmZ w1 wf gp gs A c l (sfK 8 l0) (.slice none 0 0) [] [] (.slice none 0 0) _ _ from H4.out.setKd 8)
          have q0 := H4.out.s.cell (j := 0) (by simp [SF.cs])
          have qf0 := H4.out.s.frozen 0
          simp only [SF.cs, List.getElem_cons_zero] at q0
          go_wp2_with fail
          obtain ⟨P9, hP9⟩ : ∃ P9, Y.setCell ⟨gs, 0, none⟩ (.int .u8 8) = P9 := ⟨_, rfl⟩
          rw [hP9] at H5 ⊢
          clear q0 qf0
          clear hP9
          generalize u.tail = v at *
          cases hq : isT 4 [40] v
          · have HX9 := Lib.hid (HR4.out.trans (takeS_no hq))
            refine wp_region_held_drew (S := fun W9 => True) (by kernel_rfl) trivial (fun hHeld => ?_)
            have Knd := Lib.hid H5.out.drew
            refine heldTake (i := 0) (d := some 47) (v := ?_) rfl rfl (by kernel_rfl) (by kernel_rfl) (by kernel_rfl) (fun _ _ _ h => h) (by kernel_rfl) ?hyq_25 (by assumption) ?restq_25
            case hyq_25 => (intro W9 hSw; (try dsimp only at hSw); go_simp; try (with_reducible rfl))
            (try simp only [Act.put, nA, nB, nC])
            refine heldTake (i := 1) (d := some 48) (v := ?_) rfl rfl (by kernel_rfl) (by kernel_rfl) (by kernel_rfl) (fun _ _ _ h => h) (by kernel_rfl) ?hyq_26 (by assumption) ?restq_26
            case hyq_26 => (intro W9 hSw; (try dsimp only at hSw); go_simp; try (with_reducible rfl))
            (try simp only [Act.put, nA, nB, nC])
            refine heldTake (i := 2) (d := some 49) (v := ?_) rfl rfl (by kernel_rfl) (by kernel_rfl) (by kernel_rfl) (fun _ _ _ h => h) (by kernel_rfl) ?hyq_27 (by assumption) ?restq_27
            case hyq_27 => (intro W9 hSw; (try dsimp only at hSw); go_simp; try (with_reducible rfl))
            (try simp only [Act.put, nA, nB, nC])
            refine wpAnyH_ready (rs := [3]) (by kernel_rfl) (by simp) ?_
            refine AllReadyH.cons rfl (fun K hK => ?_) AllReadyH.nil
            go_simp
            go_at_call 58
            refine (sign_any [40] _).mono ?_
            rintro e9 X ⟨rfl, hbX⟩
            have Knx := Lib.hid (Knd.out.below hbX)
            clear hbX
            go_wp2_with fail
            refine hK.out _ _ trivial (fun hHeld => ?_)
            clear hK K
            (try simp only [Act.put, nA, nB, nC])
            refine wpAnyH_ready (rs := [4]) (by kernel_rfl) (by simp) ?_
            refine AllReadyH.cons rfl (fun K hK => ?_) AllReadyH.nil
            (try rw [if_pos (by kernel_rfl)])
            refine El.op_build1 eTo X 22 (.agg #[.int .u8 0, .string ⟨#[]⟩, .int .i64 0, .int .i64 0]) 40 Try.underlying22 tok_info rfl (by decide) (.tmp 50) rfl (tV ⟨4, [40], 0, 0⟩) ⟨4, [40], 0, 0⟩ rfl rfl ?_
            change K (Act.put _ (some 51) (.slice (some ⟨X.heap.size, 0, none⟩) 1 1)) (X.alloc (.cells (eTo.f ⟨4, [40], 0, 0⟩).toArray 77))
            have hbY := below_lnew X (.cells (eTo.f ⟨4, [40], 0, 0⟩).toArray 77)
            have hT9 := El.liesT_new eTo X [⟨4, [40], 0, 0⟩] (eTo.f ⟨4, [40], 0, 0⟩).toArray (fun i v h => by simpa [eTo, tS] using h)
            obtain ⟨Y, hY⟩ : ∃ Y, X.alloc (.cells (eTo.f ⟨4, [40], 0, 0⟩).toArray 77) = Y := ⟨_, rfl⟩
            replace hT9 : eTo.LiesT (X.alloc (.cells (eTo.f ⟨4, [40], 0, 0⟩).toArray 77)) (some ⟨X.heap.size, 0, none⟩) [⟨4, [40], 0, 0⟩] := hT9
            rw [hY] at hbY hT9 ⊢
            have Kny := Lib.hid (Knx.out.below hbY)
            have HT9 := Lib.hid hT9
            clear hY hbY hT9
            refine hK.out _ _ trivial (fun hHeld => ?_)
            clear hK K
            (try simp only [Act.put, nA, nB, nC])
            refine wpAnyH_ready (rs := [5]) (by kernel_rfl) (by simp) ?_
            refine AllReadyH.cons rfl (fun K hK => ?_) AllReadyH.nil
            go_simp
            go_at_call 56
            refine (need_any Kny.out.p [⟨4, [40], 0, 0⟩] (one_kd 4 (by decide) _) (some ⟨_, 0, none⟩) 1 HT9.out (by simp)).mono ?_
            rintro e9 Z hN
            rw [nd1_no hq] at hN
            obtain ⟨rfl, hpZ, hgZ⟩ := hN
            have hg9 := grown_trans Kny.out.g hgZ
            go_wp2_with fail
            exact ⟨rfl, StR.bad' HX9.out rfl hpZ (grown_trans HG1.out hg9)⟩
          · have HR5 := Lib.hid (HR4.out.trans (takeS_yes hq))
            refine wp_region_held_drew (S := fun W9 => True) (by kernel_rfl) trivial (fun hHeld => ?_)
            have H6d := Lib.hid H5.out.drew
            refine heldTake (i := 0) (d := some 47) (v := ?_) rfl rfl (by kernel_rfl) (by kernel_rfl) (by kernel_rfl) (fun _ _ _ h => h) (by kernel_rfl) ?hyq_28 (by assumption) ?restq_28
            case hyq_28 => (intro W9 hSw; (try dsimp only at hSw); go_simp; try (with_reducible rfl))
            (try simp only [Act.put, nA, nB, nC])
            refine heldTake (i := 1) (d := some 48) (v := ?_) rfl rfl (by kernel_rfl) (by kernel_rfl) (by kernel_rfl) (fun _ _ _ h => h) (by kernel_rfl) ?hyq_29 (by assumption) ?restq_29
            case hyq_29 => (intro W9 hSw; (try dsimp only at hSw); go_simp; try (with_reducible rfl))
            (try simp only [Act.put, nA, nB, nC])
            refine heldTake (i := 2) (d := some 49) (v := ?_) rfl rfl (by kernel_rfl) (by kernel_rfl) (by kernel_rfl) (fun _ _ _ h => h) (by kernel_rfl) ?hyq_30 (by assumption) ?restq_30
            case hyq_30 => (intro W9 hSw; (try dsimp only at hSw); go_simp; try (with_reducible rfl))
            (try simp only [Act.put, nA, nB, nC])
            refine wpAnyH_ready (rs := [3]) (by kernel_rfl) (by simp) ?_
            refine AllReadyH.cons rfl (fun K hK => ?_) AllReadyH.nil
            go_simp
            go_at_call 58
            refine (sign_any [40] _).mono ?_
            rintro e9 X ⟨rfl, hbX⟩
            have H6x := Lib.hid (H6d.out.below hbX)
            clear hbX
            go_wp2_with fail
            refine hK.out _ _ trivial (fun hHeld => ?_)
            clear hK K
            (try simp only [Act.put, nA, nB, nC])
            refine wpAnyH_ready (rs := [4]) (by kernel_rfl) (by simp) ?_
            refine AllReadyH.cons rfl (fun K hK => ?_) AllReadyH.nil
            (try rw [if_pos (by kernel_rfl)])
            refine El.op_build1 eTo X 22 (.agg #[.int .u8 0, .string ⟨#[]⟩, .int .i64 0, .int .i64 0]) 40 Try.underlying22 tok_info rfl (by decide) (.tmp 50) rfl (tV ⟨4, [40], 0, 0⟩) ⟨4, [40], 0, 0⟩ rfl rfl ?_
            change K (Act.put _ (some 51) (.slice (some ⟨X.heap.size, 0, none⟩) 1 1)) (X.alloc (.cells (eTo.f ⟨4, [40], 0, 0⟩).toArray 77))
            have hbY := below_lnew X (.cells (eTo.f ⟨4, [40], 0, 0⟩).toArray 77)
            have hT9 := El.liesT_new eTo X [⟨4, [40], 0, 0⟩] (eTo.f ⟨4, [40], 0, 0⟩).toArray (fun i v h => by simpa [eTo, tS] using h)
            obtain ⟨Y, hY⟩ : ∃ Y, X.alloc (.cells (eTo.f ⟨4, [40], 0, 0⟩).toArray 77) = Y := ⟨_, rfl⟩
            replace hT9 : eTo.LiesT (X.alloc (.cells (eTo.f ⟨4, [40], 0, 0⟩).toArray 77)) (some ⟨X.heap.size, 0, none⟩) [⟨4, [40], 0, 0⟩] := hT9
            rw [hY] at hbY hT9 ⊢
            have H6y := Lib.hid (H6x.out.below hbY)
            have HT9 := Lib.hid hT9
            clear hY hbY hT9
            refine hK.out _ _ trivial (fun hHeld => ?_)
            clear hK K
            (try simp only [Act.put, nA, nB, nC])
            refine wpAnyH_ready (rs := [5]) (by kernel_rfl) (by simp) ?_
            refine AllReadyH.cons rfl (fun K hK => ?_) AllReadyH.nil
            go_simp
            go_at_call 56
            refine (need_any H6y.out.p [⟨4, [40], 0, 0⟩] (one_kd 4 (by decide) _) (some ⟨_, 0, none⟩) 1 HT9.out (by simp)).mono ?_
            rintro e9 Z hN
            rw [nd1_yes hq] at hN
            obtain ⟨rfl, hpZ, hgZ⟩ := hN
            have H6 := Lib.hid (H6y.out.step hpZ hgZ (tail_le _))
            clear hpZ hgZ H6d H6x H6y HT9
            go_wp2_with fail
            refine hK.out _ _ trivial (fun hHeld => ?_)
            clear hK K
            (try simp only [Act.put, nA, nB, nC])
            refine wpAnyH_done (by kernel_rfl) ?_ _
            have HV := Lib.hid (value_any H6.out)
            (try rw [show xsd [] = [] from rfl] at HV)
            go_wp2_with fail
            rcases hx9 : valP (sfK 8 l0) [] v.tail with ⟨⟨s9, es9⟩, z9⟩ | z9 | _
            · have HE9 := Lib.hid (HR5.out.trans (congrArg (fun q => R.bind q _) hx9))
              rw [hx9] at HV
              refine HV.out.mono ?_
              rintro e w9 ⟨rfl, ks9, vk9, hk9, hS9⟩
              have H9 := Lib.hid (show SmZ w1 wf gp gs A c l s9 vk9 ks9 ks9 vk9 w9 z9 from hS9.out)
              have HK9 := Lib.hid (show es9 = xsd ks9 from hk9.symm)
              clear hS9 hk9 hx9 HV HR5
              go_wp2_with fail
              cases hq9 : isT 4 [41] z9
              · have HX9 := Lib.hid (HE9.out.trans (takeS_no hq9))
                refine wp_region_held_drew (S := fun W9 => True) (by kernel_rfl) trivial (fun hHeld => ?_)
                have Knd := Lib.hid H9.out.drew
                refine heldTake (i := 0) (d := some 55) (v := ?_) rfl rfl (by kernel_rfl) (by kernel_rfl) (by kernel_rfl) (fun _ _ _ h => h) (by kernel_rfl) ?hyq_31 (by assumption) ?restq_31
                case hyq_31 => (intro W9 hSw; (try dsimp only at hSw); go_simp; try (with_reducible rfl))
                (try simp only [Act.put, nA, nB, nC])
                refine heldTake (i := 1) (d := some 56) (v := ?_) rfl rfl (by kernel_rfl) (by kernel_rfl) (by kernel_rfl) (fun _ _ _ h => h) (by kernel_rfl) ?hyq_32 (by assumption) ?restq_32
                case hyq_32 => (intro W9 hSw; (try dsimp only at hSw); go_simp; try (with_reducible rfl))
                (try simp only [Act.put, nA, nB, nC])
                refine heldTake (i := 2) (d := some 57) (v := ?_) rfl rfl (by kernel_rfl) (by kernel_rfl) (by kernel_rfl) (fun _ _ _ h => h) (by kernel_rfl) ?hyq_33 (by assumption) ?restq_33
                case hyq_33 => (intro W9 hSw; (try dsimp only at hSw); go_simp; try (with_reducible rfl))
                (try simp only [Act.put, nA, nB, nC])
                refine wpAnyH_ready (rs := [3]) (by kernel_rfl) (by simp) ?_
                refine AllReadyH.cons rfl (fun K hK => ?_) AllReadyH.nil
                go_simp
                go_at_call 58
                refine (sign_any [41] _).mono ?_
                rintro e9 X ⟨rfl, hbX⟩
                have Knx := Lib.hid (Knd.out.below hbX)
                clear hbX
                go_wp2_with fail
                refine hK.out _ _ trivial (fun hHeld => ?_)
                clear hK K
                (try simp only [Act.put, nA, nB, nC])
                refine wpAnyH_ready (rs := [4]) (by kernel_rfl) (by simp) ?_
                refine AllReadyH.cons rfl (fun K hK => ?_) AllReadyH.nil
                (try rw [if_pos (by kernel_rfl)])
                refine El.op_build1 eTo X 22 (.agg #[.int .u8 0, .string ⟨#[]⟩, .int .i64 0, .int .i64 0]) 40 Try.underlying22 tok_info rfl (by decide) (.tmp 58) rfl (tV ⟨4, [41], 0, 0⟩) ⟨4, [41], 0, 0⟩ rfl rfl ?_
                change K (Act.put _ (some 59) (.slice (some ⟨X.heap.size, 0, none⟩) 1 1)) (X.alloc (.cells (eTo.f ⟨4, [41], 0, 0⟩).toArray 77))
                have hbY := below_lnew X (.cells (eTo.f ⟨4, [41], 0, 0⟩).toArray 77)
                have hT9 := El.liesT_new eTo X [⟨4, [41], 0, 0⟩] (eTo.f ⟨4, [41], 0, 0⟩).toArray (fun i v h => by simpa [eTo, tS] using h)
                obtain ⟨Y, hY⟩ : ∃ Y, X.alloc (.cells (eTo.f ⟨4, [41], 0, 0⟩).toArray 77) = Y := ⟨_, rfl⟩
                replace hT9 : eTo.LiesT (X.alloc (.cells (eTo.f ⟨4, [41], 0, 0⟩).toArray 77)) (some ⟨X.heap.size, 0, none⟩) [⟨4, [41], 0, 0⟩] := hT9
                rw [hY] at hbY hT9 ⊢
                have Kny := Lib.hid (Knx.out.below hbY)
                have HT9 := Lib.hid hT9
                clear hY hbY hT9
                refine hK.out _ _ trivial (fun hHeld => ?_)
                clear hK K
                (try simp only [Act.put, nA, nB, nC])
                refine wpAnyH_ready (rs := [5]) (by kernel_rfl) (by simp) ?_
                refine AllReadyH.cons rfl (fun K hK => ?_) AllReadyH.nil
                go_simp
                go_at_call 56
                refine (need_any Kny.out.p [⟨4, [41], 0, 0⟩] (one_kd 4 (by decide) _) (some ⟨_, 0, none⟩) 1 HT9.out (by simp)).mono ?_
                rintro e9 Z hN
                rw [nd1_no hq9] at hN
                obtain ⟨rfl, hpZ, hgZ⟩ := hN
                have hg9 := grown_trans Kny.out.g hgZ
                go_wp2_with fail
                exact ⟨rfl, StR.bad' HX9.out rfl hpZ (grown_trans HG1.out hg9)⟩
              · have HE7 := Lib.hid (show r = semiS (s9, es9) z9.tail from HE9.out.trans (takeS_yes hq9))
                refine wp_region_held_drew (S := fun W9 => True) (by kernel_rfl) trivial (fun hHeld => ?_)
                have H10d := Lib.hid H9.out.drew
                refine heldTake (i := 0) (d := some 55) (v := ?_) rfl rfl (by kernel_rfl) (by kernel_rfl) (by kernel_rfl) (fun _ _ _ h => h) (by kernel_rfl) ?hyq_34 (by assumption) ?restq_34
                case hyq_34 => (intro W9 hSw; (try dsimp only at hSw); go_simp; try (with_reducible rfl))
                (try simp only [Act.put, nA, nB, nC])
                refine heldTake (i := 1) (d := some 56) (v := ?_) rfl rfl (by kernel_rfl) (by kernel_rfl) (by kernel_rfl) (fun _ _ _ h => h) (by kernel_rfl) ?hyq_35 (by assumption) ?restq_35
                case hyq_35 => (intro W9 hSw; (try dsimp only at hSw); go_simp; try (with_reducible rfl))
                (try simp only [Act.put, nA, nB, nC])
                refine heldTake (i := 2) (d := some 57) (v := ?_) rfl rfl (by kernel_rfl) (by kernel_rfl) (by kernel_rfl) (fun _ _ _ h => h) (by kernel_rfl) ?hyq_36 (by assumption) ?restq_36
                case hyq_36 => (intro W9 hSw; (try dsimp only at hSw); go_simp; try (with_reducible rfl))
                (try simp only [Act.put, nA, nB, nC])
                refine wpAnyH_ready (rs := [3]) (by kernel_rfl) (by simp) ?_
                refine AllReadyH.cons rfl (fun K hK => ?_) AllReadyH.nil
                go_simp
                go_at_call 58
                refine (sign_any [41] _).mono ?_
                rintro e9 X ⟨rfl, hbX⟩
                have H10x := Lib.hid (H10d.out.below hbX)
                clear hbX
                go_wp2_with fail
                refine hK.out _ _ trivial (fun hHeld => ?_)
                clear hK K
                (try simp only [Act.put, nA, nB, nC])
                refine wpAnyH_ready (rs := [4]) (by kernel_rfl) (by simp) ?_
                refine AllReadyH.cons rfl (fun K hK => ?_) AllReadyH.nil
                (try rw [if_pos (by kernel_rfl)])
                refine El.op_build1 eTo X 22 (.agg #[.int .u8 0, .string ⟨#[]⟩, .int .i64 0, .int .i64 0]) 40 Try.underlying22 tok_info rfl (by decide) (.tmp 58) rfl (tV ⟨4, [41], 0, 0⟩) ⟨4, [41], 0, 0⟩ rfl rfl ?_
                change K (Act.put _ (some 59) (.slice (some ⟨X.heap.size, 0, none⟩) 1 1)) (X.alloc (.cells (eTo.f ⟨4, [41], 0, 0⟩).toArray 77))
                have hbY := below_lnew X (.cells (eTo.f ⟨4, [41], 0, 0⟩).toArray 77)
                have hT9 := El.liesT_new eTo X [⟨4, [41], 0, 0⟩] (eTo.f ⟨4, [41], 0, 0⟩).toArray (fun i v h => by simpa [eTo, tS] using h)
                obtain ⟨Y, hY⟩ : ∃ Y, X.alloc (.cells (eTo.f ⟨4, [41], 0, 0⟩).toArray 77) = Y := ⟨_, rfl⟩
                replace hT9 : eTo.LiesT (X.alloc (.cells (eTo.f ⟨4, [41], 0, 0⟩).toArray 77)) (some ⟨X.heap.size, 0, none⟩) [⟨4, [41], 0, 0⟩] := hT9
                rw [hY] at hbY hT9 ⊢
                have H10y := Lib.hid (H10x.out.below hbY)
                have HT9 := Lib.hid hT9
                clear hY hbY hT9
                refine hK.out _ _ trivial (fun hHeld => ?_)
                clear hK K
                (try simp only [Act.put, nA, nB, nC])
                refine wpAnyH_ready (rs := [5]) (by kernel_rfl) (by simp) ?_
                refine AllReadyH.cons rfl (fun K hK => ?_) AllReadyH.nil
                go_simp
                go_at_call 56
                refine (need_any H10y.out.p [⟨4, [41], 0, 0⟩] (one_kd 4 (by decide) _) (some ⟨_, 0, none⟩) 1 HT9.out (by simp)).mono ?_
                rintro e9 Z hN
                rw [nd1_yes hq9] at hN
                obtain ⟨rfl, hpZ, hgZ⟩ := hN
                have H10 := Lib.hid (H10y.out.step hpZ hgZ (tail_le _))
                clear hpZ hgZ H10d H10x H10y HT9
                go_wp2_with fail
                refine hK.out _ _ trivial (fun hHeld => ?_)
                clear hK K
                (try simp only [Act.put, nA, nB, nC])
                refine wpAnyH_done (by kernel_rfl) ?_ _
                generalize z9.tail = z9 at *
                go_wp2_with fail
                go_meet
                exact ⟨s9, es9, ks9, vk9, z9, H10, HE7, HK9⟩
            · have HX9 := Lib.hid (HR5.out.trans (congrArg (fun q => R.bind q _) hx9))
              rw [hx9] at HV
              refine HV.out.mono ?_
              rintro e w9 ⟨rfl, hp9, hg9⟩
              go_wp2_with fail
              exact ⟨rfl, StR.bad' HX9.out rfl hp9 (grown_trans HG1.out hg9)⟩
            · rw [hx9] at HV
              refine HV.out.mono ?_
              rintro e w9 h9
              exact h9.elim
      · skip
        rw [stp_yes hq] at H3
        have HR3 := Lib.hid (HR2.out.trans (if_pos hq))
        clear HR2 hq
        have HV := Lib.hid (variable_any H3.out)
        (try rw [show xsd [] = [] from rfl] at HV)
        go_wp2_with fail
        rcases hx9 : varS (sf0 l0) [] u.tail with ⟨⟨s9, es9⟩, z9⟩ | z9 | _
        · have HE9 := Lib.hid (HR3.out.trans (congrArg (fun q => R.bind q _) hx9))
          rw [hx9] at HV
          refine HV.out.mono ?_
          rintro e w9 ⟨rfl, ks9, vk9, hk9, hS9⟩
          have H9 := Lib.hid (show SmZ w1 wf gp gs A c l s9 vk9 ks9 ks9 vk9 w9 z9 from hS9.out)
          have HK9 := Lib.hid (show es9 = xsd ks9 from hk9.symm)
          clear hS9 hk9 hx9 HV HR3
          go_wp2_with fail
          go_meet
          exact ⟨s9, es9, ks9, vk9, z9, H9, HE9, HK9⟩
        · have HX9 := Lib.hid (HR3.out.trans (congrArg (fun q => R.bind q _) hx9))
          rw [hx9] at HV
          refine HV.out.mono ?_
          rintro e w9 ⟨rfl, hp9, hg9⟩
          go_wp2_with fail
          exact ⟨rfl, StR.bad' HX9.out rfl hp9 (grown_trans HG1.out hg9)⟩
        · rw [hx9] at HV
          refine HV.out.mono ?_
          rintro e w9 h9
          exact h9.elim
    · skip
      rw [stp_yes hq] at H2
      have HR2 := Lib.hid (HR1.out.trans (if_pos hq))
      clear HR1 hq
      have H3 := Lib.hid (show SmZ w1 wf gp gs A c l (sfK 7 l0) (.slice none 0 0) [] [] (.slice none 0 0) _ _ from H2.out.setKd 7)
      have q0 := H2.out.s.cell (j := 0) (by simp [SF.cs])
      have qf0 := H2.out.s.frozen 0
      simp only [SF.cs, List.getElem_cons_zero] at q0
      go_wp2_with fail
      obtain ⟨P9, hP9⟩ : ∃ P9, Y.setCell ⟨gs, 0, none⟩ (.int .u8 7) = P9 := ⟨_, rfl⟩
      rw [hP9] at H3 ⊢
      clear q0 qf0
      clear hP9
      have HV := Lib.hid (value_any H3.out)
      (try rw [show xsd [] = [] from rfl] at HV)
      go_wp2_with fail
      rcases hx9 : valP (sfK 7 l0) [] u.tail with ⟨⟨s9, es9⟩, z9⟩ | z9 | _
      · have HE9 := Lib.hid (HR2.out.trans hx9)
        rw [hx9] at HV
        refine HV.out.mono ?_
        rintro e w9 ⟨rfl, ks9, vk9, hk9, hS9⟩
        have H9 := Lib.hid (show SmZ w1 wf gp gs A c l s9 vk9 ks9 ks9 vk9 w9 z9 from hS9.out)
        have HK9 := Lib.hid (show es9 = xsd ks9 from hk9.symm)
        clear hS9 hk9 hx9 HV HR2
        obtain ⟨kA, kc, rfl, _, _, _⟩ := El.Own.form (show eX.Own w9 (gs + 1) vk9 ks9 from H9.out.r)
        have q0 := H9.out.s.cell (j := 0) (by simp [SF.cs])
        have qf0 := H9.out.s.frozen 0
        have q1 := H9.out.s.cell (j := 1) (by simp [SF.cs])
        have qf1 := H9.out.s.frozen 1
        have q2 := H9.out.s.cell (j := 2) (by simp [SF.cs])
        have qf2 := H9.out.s.frozen 2
        have q3 := H9.out.s.cell (j := 3) (by simp [SF.cs])
        have qf3 := H9.out.s.frozen 3
        have q4 := H9.out.s.cell (j := 4) (by simp [SF.cs])
        have qf4 := H9.out.s.frozen 4
        have q5 := H9.out.s.cell (j := 5) (by simp [SF.cs])
        have qf5 := H9.out.s.frozen 5
        have q6 := H9.out.s.cell (j := 6) (by simp [SF.cs])
        have qf6 := H9.out.s.frozen 6
        have q7 := H9.out.s.cell (j := 7) (by simp [SF.cs])
        have qf7 := H9.out.s.frozen 7
        have q8 := H9.out.s.cell (j := 8) (by simp [SF.cs])
        have qf8 := H9.out.s.frozen 8
        have q9 := H9.out.s.cell (j := 9) (by simp [SF.cs])
        have qf9 := H9.out.s.frozen 9
        have q10 := H9.out.s.cell (j := 10) (by simp [SF.cs])
        have qf10 := H9.out.s.frozen 10
        simp only [SF.cs, List.getElem_cons_zero, List.getElem_cons_succ] at q0 q1 q2 q3 q4 q5 q6 q7 q8 q9 q10
        have hz9 : CAt w9 w.heap.size 51 zSt := (H9.out.g.block _ HZ.out.lt (fun e => by injection e with e; omega)).trans HZ.out
        have r0 := hz9.cell (j := 0) (by simp [zSt])
        have r1 := hz9.cell (j := 1) (by simp [zSt])
        have r2 := hz9.cell (j := 2) (by simp [zSt])
        have r3 := hz9.cell (j := 3) (by simp [zSt])
        have r4 := hz9.cell (j := 4) (by simp [zSt])
        have r5 := hz9.cell (j := 5) (by simp [zSt])
        have r6 := hz9.cell (j := 6) (by simp [zSt])
        have r7 := hz9.cell (j := 7) (by simp [zSt])
        have r8 := hz9.cell (j := 8) (by simp [zSt])
        have r9 := hz9.cell (j := 9) (by simp [zSt])
        have r10 := hz9.cell (j := 10) (by simp [zSt])
        have rf0 := hz9.frozen 0
        have rf1 := hz9.frozen 1
        have rf2 := hz9.frozen 2
        have rf3 := hz9.frozen 3
        have rf4 := hz9.frozen 4
        have rf5 := hz9.frozen 5
        have rf6 := hz9.frozen 6
        have rf7 := hz9.frozen 7
        have rf8 := hz9.frozen 8
        have rf9 := hz9.frozen 9
        have rf10 := hz9.frozen 10
        simp only [zSt, List.getElem_cons_zero, List.getElem_cons_succ] at r0 r1 r2 r3 r4 r5 r6 r7 r8 r9 r10
        clear hz9
        have hne9 : w.heap.size < gs := by have := H9.out.n; have := HZ.out.lt; omega
        go_wp2_with fail
        exact st_end rfl rfl H9.out HG1.out HZ.out hgp (by rw [HE9.out, HK9.out])
      · have HX9 := Lib.hid (HR2.out.trans hx9)
        rw [hx9] at HV
        refine HV.out.mono ?_
        rintro e w9 ⟨rfl, hp9, hg9⟩
        go_wp2_with fail
        exact ⟨rfl, StR.bad' HX9.out rfl hp9 (grown_trans HG1.out hg9)⟩
      · rw [hx9] at HV
        refine HV.out.mono ?_
        rintro e w9 h9
        exact h9.elim
  · skip
    rw [stp_yes hq] at H1
    have HR1 := Lib.hid (HR.out.trans (if_pos hq))
    clear HR hq
    have H2 := Lib.hid (show SmZ w1 wf gp gs A c l (sfK 6 l0) (.slice none 0 0) [] [] (.slice none 0 0) _ _ from H1.out.setKd 6)
    have q0 := H1.out.s.cell (j := 0) (by simp [SF.cs])
    have qf0 := H1.out.s.frozen 0
    simp only [SF.cs, List.getElem_cons_zero] at q0
    go_wp2_with fail
    obtain ⟨P9, hP9⟩ : ∃ P9, Y.setCell ⟨gs, 0, none⟩ (.int .u8 6) = P9 := ⟨_, rfl⟩
    rw [hP9] at H2 ⊢
    clear q0 qf0
    clear hP9
    have HV := Lib.hid (value_any H2.out)
    (try rw [show xsd [] = [] from rfl] at HV)
    go_wp2_with fail
    rcases hx9 : valP (sfK 6 l0) [] u.tail with ⟨⟨s9, es9⟩, z9⟩ | z9 | _
    · have HE9 := Lib.hid (HR1.out.trans hx9)
      rw [hx9] at HV
      refine HV.out.mono ?_
      rintro e w9 ⟨rfl, ks9, vk9, hk9, hS9⟩
      have H9 := Lib.hid (show SmZ w1 wf gp gs A c l s9 vk9 ks9 ks9 vk9 w9 z9 from hS9.out)
      have HK9 := Lib.hid (show es9 = xsd ks9 from hk9.symm)
      clear hS9 hk9 hx9 HV HR1
      obtain ⟨kA, kc, rfl, _, _, _⟩ := El.Own.form (show eX.Own w9 (gs + 1) vk9 ks9 from H9.out.r)
      have q0 := H9.out.s.cell (j := 0) (by simp [SF.cs])
      have qf0 := H9.out.s.frozen 0
      have q1 := H9.out.s.cell (j := 1) (by simp [SF.cs])
      have qf1 := H9.out.s.frozen 1
      have q2 := H9.out.s.cell (j := 2) (by simp [SF.cs])
      have qf2 := H9.out.s.frozen 2
      have q3 := H9.out.s.cell (j := 3) (by simp [SF.cs])
      have qf3 := H9.out.s.frozen 3
      have q4 := H9.out.s.cell (j := 4) (by simp [SF.cs])
      have qf4 := H9.out.s.frozen 4
      have q5 := H9.out.s.cell (j := 5) (by simp [SF.cs])
      have qf5 := H9.out.s.frozen 5
      have q6 := H9.out.s.cell (j := 6) (by simp [SF.cs])
      have qf6 := H9.out.s.frozen 6
      have q7 := H9.out.s.cell (j := 7) (by simp [SF.cs])
      have qf7 := H9.out.s.frozen 7
      have q8 := H9.out.s.cell (j := 8) (by simp [SF.cs])
      have qf8 := H9.out.s.frozen 8
      have q9 := H9.out.s.cell (j := 9) (by simp [SF.cs])
      have qf9 := H9.out.s.frozen 9
      have q10 := H9.out.s.cell (j := 10) (by simp [SF.cs])
      have qf10 := H9.out.s.frozen 10
      simp only [SF.cs, List.getElem_cons_zero, List.getElem_cons_succ] at q0 q1 q2 q3 q4 q5 q6 q7 q8 q9 q10
      have hz9 : CAt w9 w.heap.size 51 zSt := (H9.out.g.block _ HZ.out.lt (fun e => by injection e with e; omega)).trans HZ.out
      have r0 := hz9.cell (j := 0) (by simp [zSt])
      have r1 := hz9.cell (j := 1) (by simp [zSt])
      have r2 := hz9.cell (j := 2) (by simp [zSt])
      have r3 := hz9.cell (j := 3) (by simp [zSt])
      have r4 := hz9.cell (j := 4) (by simp [zSt])
      have r5 := hz9.cell (j := 5) (by simp [zSt])
      have r6 := hz9.cell (j := 6) (by simp [zSt])
      have r7 := hz9.cell (j := 7) (by simp [zSt])
      have r8 := hz9.cell (j := 8) (by simp [zSt])
      have r9 := hz9.cell (j := 9) (by simp [zSt])
      have r10 := hz9.cell (j := 10) (by simp [zSt])
      have rf0 := hz9.frozen 0
      have rf1 := hz9.frozen 1
      have rf2 := hz9.frozen 2
      have rf3 := hz9.frozen 3
      have rf4 := hz9.frozen 4
      have rf5 := hz9.frozen 5
      have rf6 := hz9.frozen 6
      have rf7 := hz9.frozen 7
      have rf8 := hz9.frozen 8
      have rf9 := hz9.frozen 9
      have rf10 := hz9.frozen 10
      simp only [zSt, List.getElem_cons_zero, List.getElem_cons_succ] at r0 r1 r2 r3 r4 r5 r6 r7 r8 r9 r10
      clear hz9
      have hne9 : w.heap.size < gs := by have := H9.out.n; have := HZ.out.lt; omega
      go_wp2_with fail
      exact st_end rfl rfl H9.out HG1.out HZ.out hgp (by rw [HE9.out, HK9.out])
    · have HX9 := Lib.hid (HR1.out.trans hx9)
      rw [hx9] at HV
      refine HV.out.mono ?_
      rintro e w9 ⟨rfl, hp9, hg9⟩
      go_wp2_with fail
      exact ⟨rfl, StR.bad' HX9.out rfl hp9 (grown_trans HG1.out hg9)⟩
    · rw [hx9] at HV
      refine HV.out.mono ?_
      rintro e w9 h9
      exact h9.elim
 case rest =>
  obtain ⟨s9, es9, ks9, vk9, z9, H9, HE9, HK9⟩ := hcut
  obtain ⟨W9, rfl⟩ : ∃ q, q = wc := ⟨_, rfl⟩
  clear H0 HR
  go_wp2_with fail
  cases hq9 : isT 4 [59] z9
  · have HX9 := Lib.hid (HE9.out.trans (takeS_no hq9))
    refine wp_region_held_drew (S := fun W9 => True) (by kernel_rfl) trivial (fun hHeld => ?_)
    have Knd := Lib.hid H9.out.drew
    refine heldTake (i := 0) (d := some 76) (v := ?_) rfl rfl (by kernel_rfl) (by kernel_rfl) (by kernel_rfl) (fun _ _ _ h => h) (by kernel_rfl) ?hyq_37 (by assumption) ?restq_37
    case hyq_37 => (intro W9 hSw; (try dsimp only at hSw); go_simp; try (with_reducible rfl))
    (try simp only [Act.put, nA, nB, nC])
    refine heldTake (i := 1) (d := some 77) (v := ?_) rfl rfl (by kernel_rfl) (by kernel_rfl) (by kernel_rfl) (fun _ _ _ h => h) (by kernel_rfl) ?hyq_38 (by assumption) ?restq_38
    case hyq_38 => (intro W9 hSw; (try dsimp only at hSw); go_simp; try (with_reducible rfl))
    (try simp only [Act.put, nA, nB, nC])
    refine heldTake (i := 2) (d := some 78) (v := ?_) rfl rfl (by kernel_rfl) (by kernel_rfl) (by kernel_rfl) (fun _ _ _ h => h) (by kernel_rfl) ?hyq_39 (by assumption) ?restq_39
    case hyq_39 => (intro W9 hSw; (try dsimp only at hSw); go_simp; try (with_reducible rfl))
    (try simp only [Act.put, nA, nB, nC])
    refine wpAnyH_ready (rs := [3]) (by kernel_rfl) (by simp) ?_
    refine AllReadyH.cons rfl (fun K hK => ?_) AllReadyH.nil
    go_simp
    go_at_call 58
    refine (sign_any [59] _).mono ?_
    rintro e9 X ⟨rfl, hbX⟩
    have Knx := Lib.hid (Knd.out.below hbX)
    clear hbX
    go_wp2_with fail
    refine hK.out _ _ trivial (fun hHeld => ?_)
    clear hK K
    (try simp only [Act.put, nA, nB, nC])
    refine wpAnyH_ready (rs := [4]) (by kernel_rfl) (by simp) ?_
    refine AllReadyH.cons rfl (fun K hK => ?_) AllReadyH.nil
    (try rw [if_pos (by kernel_rfl)])
    refine El.op_build1 eTo X 22 (.agg #[.int .u8 0, .string ⟨#[]⟩, .int .i64 0, .int .i64 0]) 40 Try.underlying22 tok_info rfl (by decide) (.tmp 79) rfl (tV ⟨4, [59], 0, 0⟩) ⟨4, [59], 0, 0⟩ rfl rfl ?_
    change K (Act.put _ (some 80) (.slice (some ⟨X.heap.size, 0, none⟩) 1 1)) (X.alloc (.cells (eTo.f ⟨4, [59], 0, 0⟩).toArray 77))
    have hbY := below_lnew X (.cells (eTo.f ⟨4, [59], 0, 0⟩).toArray 77)
    have hT9 := El.liesT_new eTo X [⟨4, [59], 0, 0⟩] (eTo.f ⟨4, [59], 0, 0⟩).toArray (fun i v h => by simpa [eTo, tS] using h)
    obtain ⟨Y, hY⟩ : ∃ Y, X.alloc (.cells (eTo.f ⟨4, [59], 0, 0⟩).toArray 77) = Y := ⟨_, rfl⟩
    replace hT9 : eTo.LiesT (X.alloc (.cells (eTo.f ⟨4, [59], 0, 0⟩).toArray 77)) (some ⟨X.heap.size, 0, none⟩) [⟨4, [59], 0, 0⟩] := hT9
    rw [hY] at hbY hT9 ⊢
    have Kny := Lib.hid (Knx.out.below hbY)
    have HT9 := Lib.hid hT9
    clear hY hbY hT9
    refine hK.out _ _ trivial (fun hHeld => ?_)
    clear hK K
    (try simp only [Act.put, nA, nB, nC])
    refine wpAnyH_ready (rs := [5]) (by kernel_rfl) (by simp) ?_
    refine AllReadyH.cons rfl (fun K hK => ?_) AllReadyH.nil
    go_simp
    go_at_call 56
    refine (need_any Kny.out.p [⟨4, [59], 0, 0⟩] (one_kd 4 (by decide) _) (some ⟨_, 0, none⟩) 1 HT9.out (by simp)).mono ?_
    rintro e9 Z hN
    rw [nd1_no hq9] at hN
    obtain ⟨rfl, hpZ, hgZ⟩ := hN
    have hg9 := grown_trans Kny.out.g hgZ
    go_wp2_with fail
    exact ⟨rfl, StR.bad' HX9.out rfl hpZ (grown_trans HG1.out hg9)⟩
  · have HX9 := Lib.hid (HE9.out.trans (takeS_yes hq9))
    refine wp_region_held_drew (S := fun W9 => True) (by kernel_rfl) trivial (fun hHeld => ?_)
    have KSd := Lib.hid H9.out.drew
    refine heldTake (i := 0) (d := some 76) (v := ?_) rfl rfl (by kernel_rfl) (by kernel_rfl) (by kernel_rfl) (fun _ _ _ h => h) (by kernel_rfl) ?hyq_40 (by assumption) ?restq_40
    case hyq_40 => (intro W9 hSw; (try dsimp only at hSw); go_simp; try (with_reducible rfl))
    (try simp only [Act.put, nA, nB, nC])
    refine heldTake (i := 1) (d := some 77) (v := ?_) rfl rfl (by kernel_rfl) (by kernel_rfl) (by kernel_rfl) (fun _ _ _ h => h) (by kernel_rfl) ?hyq_41 (by assumption) ?restq_41
    case hyq_41 => (intro W9 hSw; (try dsimp only at hSw); go_simp; try (with_reducible rfl))
    (try simp only [Act.put, nA, nB, nC])
    refine heldTake (i := 2) (d := some 78) (v := ?_) rfl rfl (by kernel_rfl) (by kernel_rfl) (by kernel_rfl) (fun _ _ _ h => h) (by kernel_rfl) ?hyq_42 (by assumption) ?restq_42
    case hyq_42 => (intro W9 hSw; (try dsimp only at hSw); go_simp; try (with_reducible rfl))
    (try simp only [Act.put, nA, nB, nC])
    refine wpAnyH_ready (rs := [3]) (by kernel_rfl) (by simp) ?_
    refine AllReadyH.cons rfl (fun K hK => ?_) AllReadyH.nil
    go_simp
    go_at_call 58
    refine (sign_any [59] _).mono ?_
    rintro e9 X ⟨rfl, hbX⟩
    have KSx := Lib.hid (KSd.out.below hbX)
    clear hbX
    go_wp2_with fail
    refine hK.out _ _ trivial (fun hHeld => ?_)
    clear hK K
    (try simp only [Act.put, nA, nB, nC])
    refine wpAnyH_ready (rs := [4]) (by kernel_rfl) (by simp) ?_
    refine AllReadyH.cons rfl (fun K hK => ?_) AllReadyH.nil
    (try rw [if_pos (by kernel_rfl)])
    refine El.op_build1 eTo X 22 (.agg #[.int .u8 0, .string ⟨#[]⟩, .int .i64 0, .int .i64 0]) 40 Try.underlying22 tok_info rfl (by decide) (.tmp 79) rfl (tV ⟨4, [59], 0, 0⟩) ⟨4, [59], 0, 0⟩ rfl rfl ?_
    change K (Act.put _ (some 80) (.slice (some ⟨X.heap.size, 0, none⟩) 1 1)) (X.alloc (.cells (eTo.f ⟨4, [59], 0, 0⟩).toArray 77))
    have hbY := below_lnew X (.cells (eTo.f ⟨4, [59], 0, 0⟩).toArray 77)
    have hT9 := El.liesT_new eTo X [⟨4, [59], 0, 0⟩] (eTo.f ⟨4, [59], 0, 0⟩).toArray (fun i v h => by simpa [eTo, tS] using h)
    obtain ⟨Y, hY⟩ : ∃ Y, X.alloc (.cells (eTo.f ⟨4, [59], 0, 0⟩).toArray 77) = Y := ⟨_, rfl⟩
    replace hT9 : eTo.LiesT (X.alloc (.cells (eTo.f ⟨4, [59], 0, 0⟩).toArray 77)) (some ⟨X.heap.size, 0, none⟩) [⟨4, [59], 0, 0⟩] := hT9
    rw [hY] at hbY hT9 ⊢
    have KSy := Lib.hid (KSx.out.below hbY)
    have HT9 := Lib.hid hT9
    clear hY hbY hT9
    refine hK.out _ _ trivial (fun hHeld => ?_)
    clear hK K
    (try simp only [Act.put, nA, nB, nC])
    refine wpAnyH_ready (rs := [5]) (by kernel_rfl) (by simp) ?_
    refine AllReadyH.cons rfl (fun K hK => ?_) AllReadyH.nil
    go_simp
    go_at_call 56
    refine (need_any KSy.out.p [⟨4, [59], 0, 0⟩] (one_kd 4 (by decide) _) (some ⟨_, 0, none⟩) 1 HT9.out (by simp)).mono ?_
    rintro e9 Z hN
    rw [nd1_yes hq9] at hN
    obtain ⟨rfl, hpZ, hgZ⟩ := hN
    have KS := Lib.hid (KSy.out.step hpZ hgZ (tail_le _))
    clear hpZ hgZ KSd KSx KSy HT9
    go_wp2_with fail
    refine hK.out _ _ trivial (fun hHeld => ?_)
    clear hK K
    (try simp only [Act.put, nA, nB, nC])
    refine wpAnyH_done (by kernel_rfl) ?_ _
    obtain ⟨kA, kc, rfl, _, _, _⟩ := El.Own.form (show eX.Own Z (gs + 1) vk9 ks9 from KS.out.r)
    have q0 := KS.out.s.cell (j := 0) (by simp [SF.cs])
    have qf0 := KS.out.s.frozen 0
    have q1 := KS.out.s.cell (j := 1) (by simp [SF.cs])
    have qf1 := KS.out.s.frozen 1
    have q2 := KS.out.s.cell (j := 2) (by simp [SF.cs])
    have qf2 := KS.out.s.frozen 2
    have q3 := KS.out.s.cell (j := 3) (by simp [SF.cs])
    have qf3 := KS.out.s.frozen 3
    have q4 := KS.out.s.cell (j := 4) (by simp [SF.cs])
    have qf4 := KS.out.s.frozen 4
    have q5 := KS.out.s.cell (j := 5) (by simp [SF.cs])
    have qf5 := KS.out.s.frozen 5
    have q6 := KS.out.s.cell (j := 6) (by simp [SF.cs])
    have qf6 := KS.out.s.frozen 6
    have q7 := KS.out.s.cell (j := 7) (by simp [SF.cs])
    have qf7 := KS.out.s.frozen 7
    have q8 := KS.out.s.cell (j := 8) (by simp [SF.cs])
    have qf8 := KS.out.s.frozen 8
    have q9 := KS.out.s.cell (j := 9) (by simp [SF.cs])
    have qf9 := KS.out.s.frozen 9
    have q10 := KS.out.s.cell (j := 10) (by simp [SF.cs])
    have qf10 := KS.out.s.frozen 10
    simp only [SF.cs, List.getElem_cons_zero, List.getElem_cons_succ] at q0 q1 q2 q3 q4 q5 q6 q7 q8 q9 q10
    have hz9 : CAt Z w.heap.size 51 zSt := (KS.out.g.block _ HZ.out.lt (fun e => by injection e with e; omega)).trans HZ.out
    have r0 := hz9.cell (j := 0) (by simp [zSt])
    have r1 := hz9.cell (j := 1) (by simp [zSt])
    have r2 := hz9.cell (j := 2) (by simp [zSt])
    have r3 := hz9.cell (j := 3) (by simp [zSt])
    have r4 := hz9.cell (j := 4) (by simp [zSt])
    have r5 := hz9.cell (j := 5) (by simp [zSt])
    have r6 := hz9.cell (j := 6) (by simp [zSt])
    have r7 := hz9.cell (j := 7) (by simp [zSt])
    have r8 := hz9.cell (j := 8) (by simp [zSt])
    have r9 := hz9.cell (j := 9) (by simp [zSt])
    have r10 := hz9.cell (j := 10) (by simp [zSt])
    have rf0 := hz9.frozen 0
    have rf1 := hz9.frozen 1
    have rf2 := hz9.frozen 2
    have rf3 := hz9.frozen 3
    have rf4 := hz9.frozen 4
    have rf5 := hz9.frozen 5
    have rf6 := hz9.frozen 6
    have rf7 := hz9.frozen 7
    have rf8 := hz9.frozen 8
    have rf9 := hz9.frozen 9
    have rf10 := hz9.frozen 10
    simp only [zSt, List.getElem_cons_zero, List.getElem_cons_succ] at r0 r1 r2 r3 r4 r5 r6 r7 r8 r9 r10
    clear hz9
    have hne9 : w.heap.size < gs := by have := KS.out.n; have := HZ.out.lt; omega
    go_wp2_with fail
    exact st_end rfl rfl KS.out HG1.out HZ.out hgp (by rw [HX9.out, HK9.out])
end Go.Proofs.Ytjllbacefbjjaaa
