/-
  Merged for a claim: R3S.
-/
import Derived.Test.YtnffiaphpcopjaaGreatFJ6
namespace Go.Proofs.YtnffiaphpcopjaaGreat
open Go.RowKit

def PutW (n : Nat) (w : World) (e : Ending) (w' : World) : Prop := ∃ v l, e = .returned v ∧ Own w' w.heap.size v l ∧ l.length ≤ n ∧ Below w.heap.size w w'
/-- what Put holds between its parts -/
def PutQ (i : Ins) (w : World) (n : Nat) (v : Value) (wr : World) : Prop := (∃ l, Own wr (w.heap.size + 1) v l ∧ l.length ≤ n) ∧ InsAt wr w.heap.size i ∧ Below w.heap.size w wr
theorem putq_own {i : Ins} {w wr w' : World} {n k : Nat} {v v' : Value} {l : List UInt8} (hI : PutQ i w n v wr) (hl : l.length ≤ n + k) (ho : Own w' (w.heap.size + 1) v' l) (hb : Below (w.heap.size + 1) wr w') : PutQ i w (n + k) v' w' :=
  ⟨⟨l, ho, hl⟩, hI.2.1.below hb (by omega), hI.2.2.trans (hb.mono (by omega))⟩
theorem putq_made {i : Ins} {w wr w' : World} {n k : Nat} {v v' : Value} {l : List UInt8} (hI : PutQ i w n v wr) (hl : l.length ≤ n + k) (ho : Own w' wr.heap.size v' l) (hb : Below wr.heap.size wr w') : PutQ i w (n + k) v' w' := by
  have := hI.2.1.lt
  exact putq_own hI hl (ho.base (by omega)) (hb.mono (by omega))
theorem pairV_u8 (r s : Int) : 0 ≤ pairV r s ∧ pairV r s < 256 := by
  unfold pairV
  split
  · rename_i h
    have : 0 ≤ r ∧ r < 16 ∧ 0 ≤ s ∧ s < 16 := of_decide_eq_true h
    omega
  · omega
theorem ppL_len (l : List UInt8) (n : Int) : (ppL l n).length ≤ l.length + 10 := by
  unfold ppL
  split
  · simp [plB]
  · simp
theorem nB_ten (b : Bool) (x : Int) : (nB b x).length ≤ 10 := by simp [nB_len, size_le]
theorem wrap8 (z : Int) : ∃ x : Int, IntKind.u8.wrap z = x ∧ z % 256 = x ∧ 0 ≤ x ∧ x < 256 := ⟨z % 256, by simp [IntKind.wrap, IntKind.bits, IntKind.signed], rfl, by omega, by omega⟩
theorem wrapU (z : Int) : ∃ x : Int, IntKind.u64.wrap z = x ∧ z % 18446744073709551616 = x ∧ 0 ≤ x ∧ x < 18446744073709551616 := ⟨z % 18446744073709551616, by simp [IntKind.wrap, IntKind.bits, IntKind.signed], rfl, by omega, by omega⟩

set_option maxRecDepth 100000 in
set_option maxHeartbeats 2000000 in
theorem refPut_some (A : Option Addr) (c : Nat) (l : List UInt8) (i : Ins) (w : World) (hr : i.Rng) (h : Lies w w.heap.size A l) (hn : l.length ≤ 549755813888) :
    Calls Tryz.prog 26 #[.slice A l.length c, iv i] w (PutW (l.length + 41) w) := by
  have HRG := Lib.hid hr
  have k0 := hr.k0
  have k1 := hr.k1
  have HB0 := Lib.hid (below_box w (.cells (ic i) 54))
  have HI0 := Lib.hid (show InsAt (w.alloc (.cells (ic i) 54)) w.heap.size i from heap_alloc_new w _)
  have HR := Lib.hid (fun w => refRight_some i w hr)
  have HC := Lib.hid (copyBytes_any A c l (w.alloc (.cells (ic i) 54)) (by omega) ((h.below HB0.out).more HB0.out.size))
  have HP := Lib.hid (fun w => refParts_any i.k w k0 k1)
  have hl := str_pts i.k
  have h4 := pts_len i.k
  clear hr h
  unfold iv ic at HR
  unfold SomeB at HR
  unfold PartsR3 at HP
  unfold ic at HI0 HB0 HC
  unfold iv ic
  go_enter Tryz.func26, Tryz.ntmps26
  go_wp2_with fail
  refine HC.out.mono ?_
  rintro e w1 ⟨v1, rfl, ho1, hb1⟩
  have hi1 := HI0.out.below hb1 (by simp)
  have HO1 := Lib.hid (show Own w1 (w.heap.size + 1) v1 l from ho1.base (by simp))
  have HB1 := Lib.hid (HB0.out.trans (hb1.mono (by simp)))
  obtain ⟨⟨c0, c1, c2, c3, c4, c5, c6⟩, _⟩ := ins_cells hi1
  have HI1 := Lib.hid hi1
  clear hb1 hi1 ho1 HC HI0 HB0
  go_wp2_with fail
  refine (HR.out _).mono ?_
  rintro e w2 ⟨b, rfl, hb2⟩
  have HO2 := Lib.hid (HO1.out.below hb2)
  have HI2 := Lib.hid (HI1.out.below hb2 HI1.out.lt)
  have HB2 := Lib.hid (HB1.out.trans (hb2.mono (by have := HI1.out.lt; omega)))
  clear c0 c1 c2 c3 c4 c5 c6 HO1 HB1 HI1 hb2 HR
  cases b
  · go_wp2_with fail
    go_ret
    exact ⟨v1, l, rfl, HO2.out.base (by omega), by omega, HB2.out⟩
  obtain ⟨⟨c0, c1, c2, c3, c4, c5, c6⟩, _⟩ := ins_cells HI2.out
  have hz2 := HI2.out.lt
  have HE := Lib.hid (byte_u8 w2 i.k k0 k1)
  go_wp2_with (at_builtin; refine app_slice _ rfl (.tmp 17) (.tmp 20) rfl (w.heap.size + 1) v1 l rfl (HO2.out.alloc _) (some ⟨w2.heap.size, 0, none⟩) 1 _ [UInt8.ofNat i.k.toNat] rfl (by simp) HE.out (by simp; omega) (by simp; omega) ?_; intro v3 w3 ho3 hg3; have HO3 := Lib.hid ho3; have HB3 := Lib.hid (below_grown ((Below.refl (w.heap.size + 1) w2).alloc (by omega) _) hg3 (HO2.out.alloc _) (by simp; omega)); have hi3 := HI2.out.below HB3.out (by omega); obtain ⟨⟨d0, d1, d2, d3, d4, d5, d6⟩, _⟩ := ins_cells hi3; have HI3 := Lib.hid hi3; clear hi3 ho3 hg3 c0 c1 c2 c3 c4 c5 c6 HE)
  refine (HP.out _).mono ?_
  rintro e w4 ⟨rfl, hb4⟩
  have HI4 : Hid (PutQ i w (l.length + 1 + 0 * 10) v3 w4) := ⟨⟨_, HO3.out.below hb4, by simp⟩, HI3.out.below hb4 HI3.out.lt, (HB2.out.trans (HB3.out.mono (by omega))).trans (hb4.mono (by have := HI3.out.lt; omega))⟩
  clear d0 d1 d2 d3 d4 d5 d6 HO2 HI2 HB2 HO3 HI3 HB3 hb4 HP hz2
  go_wp2_with fail
  go_loopw [5, 8] (fun v j wr => ∃ q : Nat, q ≤ (ptsOf i.k).length ∧ j = .int .i64 q ∧ Hid (PutQ i w (l.length + 1 + q * 10) v wr)) (fun _ j _ => (ptsOf i.k).length - (intOf j).toNat)
  case atStart => exact ⟨0, by omega, rfl, HI4⟩
  case round =>
    obtain ⟨q, hq, rfl, hI⟩ := hrel
    by_cases hlt : q < (ptsOf i.k).length
    · obtain ⟨p, hp⟩ : ∃ p, (ptsOf i.k)[q]? = some p := ⟨_, List.getElem?_eq_getElem hlt⟩
      have hix := index_ltr hp
      obtain ⟨l2, ho2, hlen⟩ := hI.out.1
      have ho := Lib.hid ho2
      have hz := hI.out.2.1.lt
      obtain ⟨⟨c0, c1, c2, c3, c4, c5, c6⟩, _⟩ := ins_cells hI.out.2.1
      have hstep : l.length + 1 + q * 10 + 10 = l.length + 1 + (q + 1) * 10 := by omega
      have HST := Lib.hid hstep
      have h549 : l2.length ≤ 549755813888 + 41 := by omega
      have HLEN := Lib.hid hlen
      clear hp HI4 ho2 hstep hlen
      cases p
      case op =>
        have HE := Lib.hid (byte_u8 wr i.o HRG.out.o0 HRG.out.o1)
        simp only [ltrZ] at hix
        go_wp2_with (at_builtin; refine app_slice _ rfl (.tmp 39) (.tmp 42) rfl (w.heap.size + 1) _ l2 rfl (ho.out.alloc _) (some ⟨wr.heap.size, 0, none⟩) 1 _ [UInt8.ofNat (i.o).toNat] rfl (by simp) HE.out (by simp; omega) (by simp; omega) ?_; intro v3 w3 ho3 hg3; have HN := Lib.hid (putq_own (k := 10) hI.out (by simp; have := HLEN.out; omega) ho3 (below_grown ((Below.refl (w.heap.size + 1) wr).alloc (by omega) _) hg3 (ho.out.alloc _) (by simp; omega))); rw [HST.out] at HN; clear hg3 ho3)
        go_roundw
        case rel => exact ⟨q + 1, by omega, by go_num, HN⟩
        case measure => simp [intOf]; omega
      case reg =>
        obtain ⟨x, hx1, hx2, hx3, hx4⟩ := wrap8 i.r
        have HE := Lib.hid (byte_u8 wr x hx3 hx4)
        simp only [ltrZ] at hix
        go_wp2_with (at_builtin; refine app_slice _ rfl (.tmp 46) (.tmp 50) rfl (w.heap.size + 1) _ l2 rfl (ho.out.alloc _) (some ⟨wr.heap.size, 0, none⟩) 1 _ [UInt8.ofNat (x).toNat] rfl (by simp) HE.out (by simp; omega) (by simp; omega) ?_; intro v3 w3 ho3 hg3; have HN := Lib.hid (putq_own (k := 10) hI.out (by simp; have := HLEN.out; omega) ho3 (below_grown ((Below.refl (w.heap.size + 1) wr).alloc (by omega) _) hg3 (ho.out.alloc _) (by simp; omega))); rw [HST.out] at HN; clear hg3 ho3)
        go_roundw
        case rel => exact ⟨q + 1, by omega, by go_num, HN⟩
        case measure => simp [intOf]; omega
      case both =>
        have HPr := Lib.hid (fun w => refPair_any i.r i.s w)
        have hpv := pairV_u8 i.r i.s
        generalize pairV i.r i.s = x at *
        generalize pairB i.r i.s = b at *
        have HE := Lib.hid (byte_u8 wr x hpv.1 hpv.2)
        simp only [ltrZ] at hix
        clear hpv
        go_wp2_with (first
          | (go_at_call 35; refine (HPr.out _).mono ?_; rintro e w' ⟨rfl, rfl⟩)
          | (at_builtin; refine app_slice _ rfl (.tmp 62) (.tmp 64) rfl (w.heap.size + 1) _ l2 rfl (ho.out.alloc _) (some ⟨wr.heap.size, 0, none⟩) 1 _ [UInt8.ofNat x.toNat] rfl (by simp) HE.out (by simp; omega) (by simp; omega) ?_; intro v3 w3 ho3 hg3; have HN := Lib.hid (putq_own (k := 10) hI.out (by simp; have := HLEN.out; omega) ho3 (below_grown ((Below.refl (w.heap.size + 1) wr).alloc (by omega) _) hg3 (ho.out.alloc _) (by simp; omega))); rw [HST.out] at HN; clear hg3 ho3))
        go_roundw
        case rel => exact ⟨q + 1, by omega, by go_num, HN⟩
        case measure => simp [intOf]; omega
      case third =>
        obtain ⟨x, hx1, hx2, hx3, hx4⟩ := wrap8 i.t
        have HE := Lib.hid (byte_u8 wr x hx3 hx4)
        simp only [ltrZ] at hix
        go_wp2_with (at_builtin; refine app_slice _ rfl (.tmp 68) (.tmp 72) rfl (w.heap.size + 1) _ l2 rfl (ho.out.alloc _) (some ⟨wr.heap.size, 0, none⟩) 1 _ [UInt8.ofNat (x).toNat] rfl (by simp) HE.out (by simp; omega) (by simp; omega) ?_; intro v3 w3 ho3 hg3; have HN := Lib.hid (putq_own (k := 10) hI.out (by simp; have := HLEN.out; omega) ho3 (below_grown ((Below.refl (w.heap.size + 1) wr).alloc (by omega) _) hg3 (ho.out.alloc _) (by simp; omega))); rw [HST.out] at HN; clear hg3 ho3)
        go_roundw
        case rel => exact ⟨q + 1, by omega, by go_num, HN⟩
        case measure => simp [intOf]; omega
      case num =>
        simp only [ltrZ] at hix
        obtain ⟨A2, z2, rfl, _, hc, hL⟩ := ho.out.form
        have HM := Lib.hid (refPutS_any A2 z2 l2 i.n wr hc hL (by omega) HRG.out.n0 HRG.out.n1)
        clear hc hL
        go_wp2_with fail
        refine HM.out.mono ?_
        rintro e w5 ⟨v5, rfl, ho5, hb5⟩
        have HN := Lib.hid (putq_made (k := 10) hI.out (by rw [List.length_append]; have := nB_ten true i.n; have := HLEN.out; omega) ho5 hb5)
        rw [HST.out] at HN
        clear ho5 hb5 HM c0 c1 c2 c3 c4 c5 c6
        go_wp2_with fail
        go_roundw
        case rel => exact ⟨q + 1, by omega, by go_num, HN⟩
        case measure => simp [intOf]; omega
      case many =>
        simp only [ltrZ] at hix
        obtain ⟨A2, z2, rfl, _, hc, hL⟩ := ho.out.form
        obtain ⟨x, hx1, hx2, hx3, hx4⟩ := wrapU i.m
        have HM := Lib.hid (refPutU_any A2 z2 l2 x wr hc hL (by omega) hx3 hx4)
        clear hc hL
        go_wp2_with fail
        refine HM.out.mono ?_
        rintro e w5 ⟨v5, rfl, ho5, hb5⟩
        have HN := Lib.hid (putq_made (k := 10) hI.out (by rw [List.length_append]; have := nB_ten false x; have := HLEN.out; omega) ho5 hb5)
        rw [HST.out] at HN
        clear ho5 hb5 HM c0 c1 c2 c3 c4 c5 c6
        go_wp2_with fail
        go_roundw
        case rel => exact ⟨q + 1, by omega, by go_num, HN⟩
        case measure => simp [intOf]; omega
      case to =>
        simp only [ltrZ] at hix
        obtain ⟨A2, z2, rfl, _, hc, hL⟩ := ho.out.form
        have HM := Lib.hid (refPutPlace_any A2 z2 l2 i.n wr hc hL (by omega))
        clear hc hL
        go_wp2_with fail
        refine HM.out.mono ?_
        rintro e w5 ⟨v5, rfl, ho5, hb5⟩
        have HN := Lib.hid (putq_made (k := 10) hI.out (by have := ppL_len l2 i.n; have := HLEN.out; omega) ho5 hb5)
        rw [HST.out] at HN
        clear ho5 hb5 HM c0 c1 c2 c3 c4 c5 c6
        go_wp2_with fail
        go_roundw
        case rel => exact ⟨q + 1, by omega, by go_num, HN⟩
        case measure => simp [intOf]; omega
      case how =>
        obtain ⟨x, hx1, hx2, hx3, hx4⟩ := wrap8 i.n
        have HE := Lib.hid (byte_u8 wr x hx3 hx4)
        simp only [ltrZ] at hix
        go_wp2_with (at_builtin; refine app_slice _ rfl (.tmp 98) (.tmp 102) rfl (w.heap.size + 1) _ l2 rfl (ho.out.alloc _) (some ⟨wr.heap.size, 0, none⟩) 1 _ [UInt8.ofNat (x).toNat] rfl (by simp) HE.out (by simp; omega) (by simp; omega) ?_; intro v3 w3 ho3 hg3; have HN := Lib.hid (putq_own (k := 10) hI.out (by simp; have := HLEN.out; omega) ho3 (below_grown ((Below.refl (w.heap.size + 1) wr).alloc (by omega) _) hg3 (ho.out.alloc _) (by simp; omega))); rw [HST.out] at HN; clear hg3 ho3)
        go_roundw
        case rel => exact ⟨q + 1, by omega, by go_num, HN⟩
        case measure => simp [intOf]; omega
    · have hI' := Lib.hid hI.out
      have HQ := Lib.hid (show l.length + 1 + q * 10 ≤ l.length + 41 by omega)
      clear hI HI4
      go_wp2_with fail
      go_ret
      obtain ⟨l2, ho, hle⟩ := hI'.out.1
      exact ⟨_, l2, rfl, ho.base (by omega), Nat.le_trans hle HQ.out, hI'.out.2.2⟩

end Go.Proofs.YtnffiaphpcopjaaGreat
