/-
  Merged for a claim: R3S, C4N, C4Q, C5N, C4S, C5O.
-/
import Derived.Test.YtdnpoeegefkoiaaGreatFJ6
import Derived.Test.YtdnpoeegefkoiaaGreatFR3R
import Derived.Test.YtdnpoeegefkoiaaGreatFC4M
import Derived.Test.YtdnpoeegefkoiaaGreatFJ8
import Derived.Test.YtdnpoeegefkoiaaGreatFC5M
import Derived.Test.YtdnpoeegefkoiaaGreatFJ7
import Derived.LoopTactic
namespace Go.Proofs.YtdnpoeegefkoiaaGreat
open Go.RowKit

def PutW (n : Nat) (w : World) (e : Ending) (w' : World) : Prop := ∃ v l, e = .returned v ∧ Own w' w.heap.size v l ∧ l.length ≤ n ∧ Below w.heap.size w w'
/-- what Put holds between its parts -/
def PutQ (i : Ins) (w : World) (n : Nat) (v : Value) (wr : World) : Prop := (∃ l, Own wr (w.heap.size + 1) v l ∧ l.length ≤ n) ∧ InsAt wr w.heap.size i ∧ Below w.heap.size w wr
theorem putq_own {i : Ins} {w wr w' : World} {n k : Nat} {v v' : Value} {l : List UInt8} (hI : PutQ i w n v wr) (hl : l.length ≤ n + k) (ho : Own w' (w.heap.size + 1) v' l) (hb : Below (w.heap.size + 1) wr w') : PutQ i w (n + k) v' w' :=
  ⟨⟨l, ho, hl⟩, hI.2.1.below hb (by omega), hI.2.2.trans (hb.mono (by omega))⟩
theorem putq_made {i : Ins} {w wr w' : World} {n k : Nat} {v v' : Value} {l : List UInt8} (hI : PutQ i w n v wr) (hl : l.length ≤ n + k) (ho : Own w' wr.heap.size v' l) (hb : Below wr.heap.size wr w') : PutQ i w (n + k) v' w' := by
  have := hI.2.1.lt
  exact putq_own hI hl (ho.base (by omega)) (hb.mono (by omega))
theorem pairV_u8 (r s : Int) : 0 ≤ pairV r s ∧ pairV r s < 256 := by
  unfold pairV
  split
  · rename_i h
    have : 0 ≤ r ∧ r < 16 ∧ 0 ≤ s ∧ s < 16 := of_decide_eq_true h
    omega
  · omega
theorem ppL_len (l : List UInt8) (n : Int) : (ppL l n).length ≤ l.length + 10 := by
  unfold ppL
  split
  · simp [plB]
  · simp
theorem nB_ten (b : Bool) (x : Int) : (nB b x).length ≤ 10 := by simp [nB_len, size_le]
theorem wrap8 (z : Int) : ∃ x : Int, IntKind.u8.wrap z = x ∧ z % 256 = x ∧ 0 ≤ x ∧ x < 256 := ⟨z % 256, by simp [IntKind.wrap, IntKind.bits, IntKind.signed], rfl, by omega, by omega⟩
theorem wrapU (z : Int) : ∃ x : Int, IntKind.u64.wrap z = x ∧ z % 18446744073709551616 = x ∧ 0 ≤ x ∧ x < 18446744073709551616 := ⟨z % 18446744073709551616, by simp [IntKind.wrap, IntKind.bits, IntKind.signed], rfl, by omega, by omega⟩

set_option maxRecDepth 100000 in
set_option maxHeartbeats 2000000 in
theorem refPut_some (A : Option Addr) (c : Nat) (l : List UInt8) (i : Ins) (w : World) (hr : i.Rng) (h : Lies w w.heap.size A l) (hn : l.length ≤ 549755813888) :
    Calls Tryz.prog 22 #[.slice A l.length c, iv i] w (PutW (l.length + 41) w) := by
  have HRG := Lib.hid hr
  have k0 := hr.k0
  have k1 := hr.k1
  have HB0 := Lib.hid (below_box w (.cells (ic i) 53))
  have HI0 := Lib.hid (show InsAt (w.alloc (.cells (ic i) 53)) w.heap.size i from heap_alloc_new w _)
  have HR := Lib.hid (fun w => refRight_some i w hr)
  have HC := Lib.hid (copyBytes_any A c l (w.alloc (.cells (ic i) 53)) (by omega) ((h.below HB0.out).more HB0.out.size))
  have HP := Lib.hid (fun w => refParts_any i.k w k0 k1)
  have hl := str_pts i.k
  have h4 := pts_len i.k
  clear hr h
  unfold iv ic at HR
  unfold SomeB at HR
  unfold PartsR3 at HP
  unfold ic at HI0 HB0 HC
  unfold iv ic
  go_enter Tryz.func22, Tryz.ntmps22
  go_wp2_with fail
  refine HC.out.mono ?_
  rintro e w1 ⟨v1, rfl, ho1, hb1⟩
  have hi1 := HI0.out.below hb1 (by simp)
  have HO1 := Lib.hid (show Own w1 (w.heap.size + 1) v1 l from ho1.base (by simp))
  have HB1 := Lib.hid (HB0.out.trans (hb1.mono (by simp)))
  obtain ⟨⟨c0, c1, c2, c3, c4, c5, c6⟩, _⟩ := ins_cells hi1
  have HI1 := Lib.hid hi1
  clear hb1 hi1 ho1 HC HI0 HB0
  go_wp2_with fail
  refine (HR.out _).mono ?_
  rintro e w2 ⟨b, rfl, hb2⟩
  have HO2 := Lib.hid (HO1.out.below hb2)
  have HI2 := Lib.hid (HI1.out.below hb2 HI1.out.lt)
  have HB2 := Lib.hid (HB1.out.trans (hb2.mono (by have := HI1.out.lt; omega)))
  clear c0 c1 c2 c3 c4 c5 c6 HO1 HB1 HI1 hb2 HR
  cases b
  · go_wp2_with fail
    go_ret
    exact ⟨v1, l, rfl, HO2.out.base (by omega), by omega, HB2.out⟩
  obtain ⟨⟨c0, c1, c2, c3, c4, c5, c6⟩, _⟩ := ins_cells HI2.out
  have hz2 := HI2.out.lt
  have HE := Lib.hid (byte_u8 w2 i.k k0 k1)
  go_wp2_with (at_builtin; refine app_slice _ rfl (.tmp 17) (.tmp 20) rfl (w.heap.size + 1) v1 l rfl (HO2.out.alloc _) (some ⟨w2.heap.size, 0, none⟩) 1 _ [UInt8.ofNat i.k.toNat] rfl (by simp) HE.out (by simp; omega) (by simp; omega) ?_; intro v3 w3 ho3 hg3; have HO3 := Lib.hid ho3; have HB3 := Lib.hid (below_grown ((Below.refl (w.heap.size + 1) w2).alloc (by omega) _) hg3 (HO2.out.alloc _) (by simp; omega)); have hi3 := HI2.out.below HB3.out (by omega); obtain ⟨⟨d0, d1, d2, d3, d4, d5, d6⟩, _⟩ := ins_cells hi3; have HI3 := Lib.hid hi3; clear hi3 ho3 hg3 c0 c1 c2 c3 c4 c5 c6 HE)
  refine (HP.out _).mono ?_
  rintro e w4 ⟨rfl, hb4⟩
  have HI4 : Hid (PutQ i w (l.length + 1 + 0 * 10) v3 w4) := ⟨⟨_, HO3.out.below hb4, by simp⟩, HI3.out.below hb4 HI3.out.lt, (HB2.out.trans (HB3.out.mono (by omega))).trans (hb4.mono (by have := HI3.out.lt; omega))⟩
  clear d0 d1 d2 d3 d4 d5 d6 HO2 HI2 HB2 HO3 HI3 HB3 hb4 HP hz2
  go_wp2_with fail
  go_loopw [5, 8] (fun v j wr => ∃ q : Nat, q ≤ (ptsOf i.k).length ∧ j = .int .i64 q ∧ Hid (PutQ i w (l.length + 1 + q * 10) v wr)) (fun _ j _ => (ptsOf i.k).length - (intOf j).toNat)
  case atStart => exact ⟨0, by omega, rfl, HI4⟩
  case round =>
    obtain ⟨q, hq, rfl, hI⟩ := hrel
    by_cases hlt : q < (ptsOf i.k).length
    · obtain ⟨p, hp⟩ : ∃ p, (ptsOf i.k)[q]? = some p := ⟨_, List.getElem?_eq_getElem hlt⟩
      have hix := index_ltr hp
      obtain ⟨l2, ho2, hlen⟩ := hI.out.1
      have ho := Lib.hid ho2
      have hz := hI.out.2.1.lt
      obtain ⟨⟨c0, c1, c2, c3, c4, c5, c6⟩, _⟩ := ins_cells hI.out.2.1
      have hstep : l.length + 1 + q * 10 + 10 = l.length + 1 + (q + 1) * 10 := by omega
      have HST := Lib.hid hstep
      have h549 : l2.length ≤ 549755813888 + 41 := by omega
      have HLEN := Lib.hid hlen
      clear hp HI4 ho2 hstep hlen
      cases p
      case op =>
        have HE := Lib.hid (byte_u8 wr i.o HRG.out.o0 HRG.out.o1)
        simp only [ltrZ] at hix
        go_wp2_with (at_builtin; refine app_slice _ rfl (.tmp 39) (.tmp 42) rfl (w.heap.size + 1) _ l2 rfl (ho.out.alloc _) (some ⟨wr.heap.size, 0, none⟩) 1 _ [UInt8.ofNat (i.o).toNat] rfl (by simp) HE.out (by simp; omega) (by simp; omega) ?_; intro v3 w3 ho3 hg3; have HN := Lib.hid (putq_own (k := 10) hI.out (by simp; have := HLEN.out; omega) ho3 (below_grown ((Below.refl (w.heap.size + 1) wr).alloc (by omega) _) hg3 (ho.out.alloc _) (by simp; omega))); rw [HST.out] at HN; clear hg3 ho3)
        go_roundw
        case rel => exact ⟨q + 1, by omega, by go_num, HN⟩
        case measure => simp [intOf]; omega
      case reg =>
        obtain ⟨x, hx1, hx2, hx3, hx4⟩ := wrap8 i.r
        have HE := Lib.hid (byte_u8 wr x hx3 hx4)
        simp only [ltrZ] at hix
        go_wp2_with (at_builtin; refine app_slice _ rfl (.tmp 46) (.tmp 50) rfl (w.heap.size + 1) _ l2 rfl (ho.out.alloc _) (some ⟨wr.heap.size, 0, none⟩) 1 _ [UInt8.ofNat (x).toNat] rfl (by simp) HE.out (by simp; omega) (by simp; omega) ?_; intro v3 w3 ho3 hg3; have HN := Lib.hid (putq_own (k := 10) hI.out (by simp; have := HLEN.out; omega) ho3 (below_grown ((Below.refl (w.heap.size + 1) wr).alloc (by omega) _) hg3 (ho.out.alloc _) (by simp; omega))); rw [HST.out] at HN; clear hg3 ho3)
        go_roundw
        case rel => exact ⟨q + 1, by omega, by go_num, HN⟩
        case measure => simp [intOf]; omega
      case both =>
        have HPr := Lib.hid (fun w => refPair_any i.r i.s w)
        have hpv := pairV_u8 i.r i.s
        generalize pairV i.r i.s = x at *
        generalize pairB i.r i.s = b at *
        have HE := Lib.hid (byte_u8 wr x hpv.1 hpv.2)
        simp only [ltrZ] at hix
        clear hpv
        go_wp2_with (first
          | (go_at_call 33; refine (HPr.out _).mono ?_; rintro e w' ⟨rfl, rfl⟩)
          | (at_builtin; refine app_slice _ rfl (.tmp 62) (.tmp 64) rfl (w.heap.size + 1) _ l2 rfl (ho.out.alloc _) (some ⟨wr.heap.size, 0, none⟩) 1 _ [UInt8.ofNat x.toNat] rfl (by simp) HE.out (by simp; omega) (by simp; omega) ?_; intro v3 w3 ho3 hg3; have HN := Lib.hid (putq_own (k := 10) hI.out (by simp; have := HLEN.out; omega) ho3 (below_grown ((Below.refl (w.heap.size + 1) wr).alloc (by omega) _) hg3 (ho.out.alloc _) (by simp; omega))); rw [HST.out] at HN; clear hg3 ho3))
        go_roundw
        case rel => exact ⟨q + 1, by omega, by go_num, HN⟩
        case measure => simp [intOf]; omega
      case third =>
        obtain ⟨x, hx1, hx2, hx3, hx4⟩ := wrap8 i.t
        have HE := Lib.hid (byte_u8 wr x hx3 hx4)
        simp only [ltrZ] at hix
        go_wp2_with (at_builtin; refine app_slice _ rfl (.tmp 68) (.tmp 72) rfl (w.heap.size + 1) _ l2 rfl (ho.out.alloc _) (some ⟨wr.heap.size, 0, none⟩) 1 _ [UInt8.ofNat (x).toNat] rfl (by simp) HE.out (by simp; omega) (by simp; omega) ?_; intro v3 w3 ho3 hg3; have HN := Lib.hid (putq_own (k := 10) hI.out (by simp; have := HLEN.out; omega) ho3 (below_grown ((Below.refl (w.heap.size + 1) wr).alloc (by omega) _) hg3 (ho.out.alloc _) (by simp; omega))); rw [HST.out] at HN; clear hg3 ho3)
        go_roundw
        case rel => exact ⟨q + 1, by omega, by go_num, HN⟩
        case measure => simp [intOf]; omega
      case num =>
        simp only [ltrZ] at hix
        obtain ⟨A2, z2, rfl, _, hc, hL⟩ := ho.out.form
        have HM := Lib.hid (refPutS_any A2 z2 l2 i.n wr hc hL (by omega) HRG.out.n0 HRG.out.n1)
        clear hc hL
        go_wp2_with fail
        refine HM.out.mono ?_
        rintro e w5 ⟨v5, rfl, ho5, hb5⟩
        have HN := Lib.hid (putq_made (k := 10) hI.out (by rw [List.length_append]; have := nB_ten true i.n; have := HLEN.out; omega) ho5 hb5)
        rw [HST.out] at HN
        clear ho5 hb5 HM c0 c1 c2 c3 c4 c5 c6
        go_wp2_with fail
        go_roundw
        case rel => exact ⟨q + 1, by omega, by go_num, HN⟩
        case measure => simp [intOf]; omega
      case many =>
        simp only [ltrZ] at hix
        obtain ⟨A2, z2, rfl, _, hc, hL⟩ := ho.out.form
        obtain ⟨x, hx1, hx2, hx3, hx4⟩ := wrapU i.m
        have HM := Lib.hid (refPutU_any A2 z2 l2 x wr hc hL (by omega) hx3 hx4)
        clear hc hL
        go_wp2_with fail
        refine HM.out.mono ?_
        rintro e w5 ⟨v5, rfl, ho5, hb5⟩
        have HN := Lib.hid (putq_made (k := 10) hI.out (by rw [List.length_append]; have := nB_ten false x; have := HLEN.out; omega) ho5 hb5)
        rw [HST.out] at HN
        clear ho5 hb5 HM c0 c1 c2 c3 c4 c5 c6
        go_wp2_with fail
        go_roundw
        case rel => exact ⟨q + 1, by omega, by go_num, HN⟩
        case measure => simp [intOf]; omega
      case to =>
        simp only [ltrZ] at hix
        obtain ⟨A2, z2, rfl, _, hc, hL⟩ := ho.out.form
        have HM := Lib.hid (refPutPlace_any A2 z2 l2 i.n wr hc hL (by omega))
        clear hc hL
        go_wp2_with fail
        refine HM.out.mono ?_
        rintro e w5 ⟨v5, rfl, ho5, hb5⟩
        have HN := Lib.hid (putq_made (k := 10) hI.out (by have := ppL_len l2 i.n; have := HLEN.out; omega) ho5 hb5)
        rw [HST.out] at HN
        clear ho5 hb5 HM c0 c1 c2 c3 c4 c5 c6
        go_wp2_with fail
        go_roundw
        case rel => exact ⟨q + 1, by omega, by go_num, HN⟩
        case measure => simp [intOf]; omega
      case how =>
        obtain ⟨x, hx1, hx2, hx3, hx4⟩ := wrap8 i.n
        have HE := Lib.hid (byte_u8 wr x hx3 hx4)
        simp only [ltrZ] at hix
        go_wp2_with (at_builtin; refine app_slice _ rfl (.tmp 98) (.tmp 102) rfl (w.heap.size + 1) _ l2 rfl (ho.out.alloc _) (some ⟨wr.heap.size, 0, none⟩) 1 _ [UInt8.ofNat (x).toNat] rfl (by simp) HE.out (by simp; omega) (by simp; omega) ?_; intro v3 w3 ho3 hg3; have HN := Lib.hid (putq_own (k := 10) hI.out (by simp; have := HLEN.out; omega) ho3 (below_grown ((Below.refl (w.heap.size + 1) wr).alloc (by omega) _) hg3 (ho.out.alloc _) (by simp; omega))); rw [HST.out] at HN; clear hg3 ho3)
        go_roundw
        case rel => exact ⟨q + 1, by omega, by go_num, HN⟩
        case measure => simp [intOf]; omega
    · have hI' := Lib.hid hI.out
      have HQ := Lib.hid (show l.length + 1 + q * 10 ≤ l.length + 41 by omega)
      clear hI HI4
      go_wp2_with fail
      go_ret
      obtain ⟨l2, ho, hle⟩ := hI'.out.1
      exact ⟨_, l2, rfl, ho.base (by omega), Nat.le_trans hle HQ.out, hI'.out.2.2⟩

end Go.Proofs.YtdnpoeegefkoiaaGreat

namespace Go.Proofs.YtdnpoeegefkoiaaGreat
open Go Go.RowKit

def Yes4 (w : World) (e : Ending) (w' : World) : Prop := e = .returned (.bool true) ∧ Below w.heap.size w w'
def wkC : List UInt8 := [2, 1, 7, 16, 1, 17, 1]
def wkM : Mc := m0 wkC 0 10 []
theorem wk_a : (runM 2 wkM).1.how = 0 ∧ (runM 2 wkM).2 = 0 := by decide +kernel
theorem wk_b : (runM 5 (runM 2 wkM).1).1.how = 1 ∧ (runM 5 (runM 2 wkM).1).2 = 4 ∧ haltV (runM 5 (runM 2 wkM).1).1 = 7 ∧ haltB (runM 5 (runM 2 wkM).1).1 = true ∧ (runM 5 (runM 2 wkM).1).1.out = [7] := by decide +kernel
theorem wk_ok : Okm wkM 2 := ⟨by decide, by decide, by decide⟩
theorem wk_ok2 : Okm (runM 2 wkM).1 5 := ⟨by decide +kernel, by decide +kernel, by decide +kernel⟩

set_option maxRecDepth 100000 in
set_option maxHeartbeats 1000000 in
theorem works4_any (w : World) : Calls Tryz.prog 5 #[] w (Yes4 w) := by
  have hb0 := below_box w (.cells #[.int .u8 2, .int .u8 1, .int .u8 7, .int .u8 16, .int .u8 1, .int .u8 17, .int .u8 1] 5)
  have HN := Lib.hid (new_good (some ⟨w.heap.size, 0, none⟩) none 7 0 wkC [] 0 10 _ (lies_lit w 5 wkC #[.int .u8 2, .int .u8 1, .int .u8 7, .int .u8 16, .int .u8 1, .int .u8 17, .int .u8 1] rfl) (fun h => absurd h (by simp)) (by simp) (by decide) (by decide) (by decide) (by decide) (by decide))
  have HB0 := Lib.hid hb0
  clear hb0
  unfold NewR at HN
  simp only [wkC, List.length_cons, List.length_nil, Nat.reduceAdd] at HN
  go_enter Tryz.func5, Tryz.ntmps5
  go_wp2_with fail
  refine HN.out.mono ?_
  rintro e w1 ⟨g, p, rfl, hM, hb1⟩
  have HM : Hid (MIn w1 (grow none_ (w.alloc (.cells #[.int .u8 2, .int .u8 1, .int .u8 7, .int .u8 16, .int .u8 1, .int .u8 17, .int .u8 1] 5)) w1) g wkM p) := hM
  have HB1 := Lib.hid (HB0.out.trans (hb1.mono HB0.out.size))
  have hz0 : w.heap.size ≤ (w.alloc (.cells #[.int .u8 2, .int .u8 1, .int .u8 7, .int .u8 16, .int .u8 1, .int .u8 17, .int .u8 1] 5)).heap.size := HB0.out.size
  generalize (w.alloc (.cells #[.int .u8 2, .int .u8 1, .int .u8 7, .int .u8 16, .int .u8 1, .int .u8 17, .int .u8 1] 5)) = w0 at HM hz0
  have HR := Lib.hid (run_any HM.out 2 wk_ok)
  have HS0 : Hid (∀ k, grow none_ w0 w1 k → w.heap.size ≤ k) := fun k hk => by
    rcases hk with h | h
    · exact absurd h (fun h => h)
    · have := h.1; omega
  clear hM hb1 HN hz0
  generalize hS : grow none_ w0 w1 = S at HR HS0 HM
  clear hS HM HB0
  unfold RunR at HR
  simp only [show (2 : Int).toNat = 2 from rfl] at HR
  rw [wk_a.1, wk_a.2] at HR
  go_wp2_with fail
  refine HR.out.mono ?_
  rintro e w2 ⟨rfl, p2, hM2, hk2⟩
  have HB2 := Lib.hid (HB1.out.trans (hk2.below HS0.out HB1.out.size))
  have HS2 : Hid (∀ k, grow S w1 w2 k → w.heap.size ≤ k) := fun k hk => by
    rcases hk with h | h
    · exact HS0.out k h
    · have := h.1; have := HB1.out.size; omega
  have HR2 := Lib.hid (run_any hM2 5 wk_ok2)
  clear hM2 hk2 HR
  generalize grow S w1 w2 = S2 at HR2 HS2
  unfold RunR at HR2
  simp only [show (5 : Int).toNat = 5 from rfl] at HR2
  rw [wk_b.1, wk_b.2.1] at HR2
  go_wp2_with fail
  refine HR2.out.mono ?_
  rintro e w3 ⟨rfl, p3, hM3, hk3⟩
  have HB3 := Lib.hid (HB2.out.trans (hk3.below HS2.out HB2.out.size))
  have HH := Lib.hid (halted_any hM3)
  have HO := Lib.hid (out_any hM3 (by rw [wk_b.2.2.2.2]; decide))
  rw [wk_b.2.2.1, wk_b.2.2.2.1] at HH
  unfold MadeI at HO
  rw [wk_b.2.2.2.2] at HO
  clear hM3 hk3 HR2
  go_wp2_with fail
  refine HH.out.mono ?_
  rintro e w' ⟨rfl, rfl⟩
  go_wp2_with fail
  refine HO.out.mono ?_
  rintro e w4 ⟨v, rfl, h1, h2, -⟩
  obtain ⟨A, c, rfl, hc, hls⟩ := h1.ils
  obtain ⟨g4, o4, rfl, -, q4⟩ := hls (by simp)
  have c4 := q4 0 (by simp)
  have HB4 := Lib.hid (HB3.out.trans (h2.mono HB3.out.size))
  simp only [List.getD_cons_zero, Nat.add_zero] at c4
  clear h1 h2 hls q4 HO HH
  go_wp2_with fail
  go_ret
  exact ⟨rfl, HB4.out⟩

end Go.Proofs.YtdnpoeegefkoiaaGreat

namespace Go.Proofs.YtdnpoeegefkoiaaGreat
open Go Go.RowKit

def vastB (c : Cs) : Bool := decide (200 < c.xs.length ∨ 4096 < c.bs.length ∨ (1024 < c.wd ∧ c.wd ≤ 65536) ∨ 100 < c.inp.length ∨ 1000 < c.fu)
def VastR (c : Cs) (w : World) (e : Ending) (w' : World) : Prop := e = .returned (.bool (vastB c)) ∧ Below w.heap.size w w'
theorem vast_no {c : Cs} (h : vastB c = false) : c.xs.length ≤ 200 ∧ c.bs.length ≤ 4096 ∧ (c.wd ≤ 1024 ∨ 65536 < c.wd) ∧ c.inp.length ≤ 100 ∧ c.fu ≤ 1000 := by
  have := of_decide_eq_false h
  omega
set_option maxRecDepth 100000 in
set_option maxHeartbeats 1000000 in
theorem vast_any (c : Cs) (w : World) : Calls Tryz.prog 4 #[.agg (csC c)] w (VastR c w) := by
  have HB := Lib.hid (below_box w (.cells (csC c) 26))
  obtain ⟨v, hv⟩ : ∃ v, v = vastB c := ⟨_, rfl⟩
  unfold VastR
  rw [← hv]
  have HV := Lib.hid hv
  clear hv
  unfold csC at HB
  unfold csC
  by_cases h1 : 200 < c.xs.length
  · obtain rfl : v = true := by rw [HV.out]; exact decide_eq_true (by omega)
    clear HV
    go_enter Tryz.func4, Tryz.ntmps4
    go_wp2
    go_ret
    exact ⟨rfl, HB.out⟩
  by_cases h2 : 4096 < c.bs.length
  · obtain rfl : v = true := by rw [HV.out]; exact decide_eq_true (by omega)
    clear HV
    go_enter Tryz.func4, Tryz.ntmps4
    go_wp2
    go_ret
    exact ⟨rfl, HB.out⟩
  by_cases h3 : 1024 < c.wd
  · by_cases h4 : c.wd ≤ 65536
    · obtain rfl : v = true := by rw [HV.out]; exact decide_eq_true (by omega)
      clear HV
      go_enter Tryz.func4, Tryz.ntmps4
      go_wp2
      go_ret
      exact ⟨rfl, HB.out⟩
    by_cases h5 : 100 < c.inp.length
    · obtain rfl : v = true := by rw [HV.out]; exact decide_eq_true (by omega)
      clear HV
      go_enter Tryz.func4, Tryz.ntmps4
      go_wp2
      go_ret
      exact ⟨rfl, HB.out⟩
    by_cases h6 : 1000 < c.fu
    · obtain rfl : v = true := by rw [HV.out]; exact decide_eq_true (by omega)
      clear HV
      go_enter Tryz.func4, Tryz.ntmps4
      go_wp2
      go_ret
      exact ⟨rfl, HB.out⟩
    obtain rfl : v = false := by rw [HV.out]; exact decide_eq_false (by omega)
    clear HV
    go_enter Tryz.func4, Tryz.ntmps4
    go_wp2
    go_ret
    exact ⟨by simp <;> omega, HB.out⟩
  · by_cases h5 : 100 < c.inp.length
    · obtain rfl : v = true := by rw [HV.out]; exact decide_eq_true (by omega)
      clear HV
      go_enter Tryz.func4, Tryz.ntmps4
      go_wp2
      go_ret
      exact ⟨rfl, HB.out⟩
    by_cases h6 : 1000 < c.fu
    · obtain rfl : v = true := by rw [HV.out]; exact decide_eq_true (by omega)
      clear HV
      go_enter Tryz.func4, Tryz.ntmps4
      go_wp2
      go_ret
      exact ⟨rfl, HB.out⟩
    obtain rfl : v = false := by rw [HV.out]; exact decide_eq_false (by omega)
    clear HV
    go_enter Tryz.func4, Tryz.ntmps4
    go_wp2
    go_ret
    exact ⟨by simp <;> omega, HB.out⟩

/-- a case lies in a block -/
def CsAt (w : World) (g : Nat) (c : Cs) : Prop := w.heap[g]? = some (.cells (csC c) 26 (0, 0))
theorem CsAt.below {w w' : World} {g B : Nat} {c : Cs} (h : CsAt w g c) (hb : Below B w w') (hg : g < B) : CsAt w' g c := (hb.block g hg).trans h
theorem CsAt.cells {w : World} {g : Nat} {c : Cs} (h : CsAt w g c) : w.cell? ⟨g, 0, none⟩ = some (.slice c.A0 c.xs.length c.c0) ∧ w.cell? ⟨g, 1, none⟩ = some (.slice c.A1 c.bs.length c.c1) ∧ w.cell? ⟨g, 2, none⟩ = some (.int .i64 c.st) ∧
    w.cell? ⟨g, 3, none⟩ = some (.int .i64 c.wd) ∧ w.cell? ⟨g, 4, none⟩ = some (.slice c.A2 c.inp.length c.c2) ∧ w.cell? ⟨g, 5, none⟩ = some (.int .i64 c.fu) := by
  unfold CsAt at h
  simp [World.cell?, h, csC]
def BytesI (c : Cs) (w : World) (q : Nat) (v : Value) (wr : World) : Prop := (∃ l, Own wr (w.heap.size + 1) v l ∧ l.length ≤ 4096 + q * 41) ∧ CsAt wr w.heap.size c ∧ Below w.heap.size w wr ∧ w.heap.size < wr.heap.size
theorem csat_new (c : Cs) (w : World) : CsAt (w.alloc (.cells (csC c) 26)) w.heap.size c := heap_alloc_new w _
set_option maxRecDepth 100000 in
set_option maxHeartbeats 1000000 in
theorem bytes_any (c : Cs) (w : World) (hC : CsIn w c) (hv : vastB c = false) : Calls Tryz.prog 6 #[.agg (csC c)] w (PutW 12296 w) := by
  obtain ⟨hx, hbs, -⟩ := vast_no hv
  have hb0 := below_box w (.cells (csC c) 26)
  have HB0 := Lib.hid hb0
  have HC := Lib.hid hC
  have HA := Lib.hid (csat_new c w)
  have hb1 := hb0.alloc hb0.size (.cells #[] 5)
  have HB1 := Lib.hid hb1
  have HA1 := Lib.hid (show CsAt ((w.alloc (.cells (csC c) 26)).alloc (.cells #[] 5)) w.heap.size c from heap_alloc2_old w _ _)
  have h2 := Lib.hid (show Own ((w.alloc (.cells (csC c) 26)).alloc (.cells #[] 5)) (w.heap.size + 1) (.slice (some ⟨w.heap.size + 1, 0, none⟩) 0 0) [] from by
    have := Own.of (blk_lit (w.alloc (.cells (csC c) 26)) [] #[] rfl) (show w.heap.size + 1 ≤ _ by simp) 0 (by simp) (by simp [maxLen])
    simpa using this)
  have hh0 := hC.h0
  clear hC hv hb0 hb1
  unfold csC at HA HA1 HB0 HB1 h2
  unfold csC
  go_enter Tryz.func6, Tryz.ntmps6
  go_wp2_with (at_builtin; refine app_slice _ rfl (.tmp 5) (.tmp 7) rfl (w.heap.size + 1) _ [] rfl h2.out c.A1 c.c1 _ c.bs rfl HC.out.n1 ((HC.out.l1.below HB1.out)) (by simp; omega) (by simp) ?_; intro v1 w1 h3 h4; have HO1 := Lib.hid h3; have HB2 := Lib.hid (HB1.out.grown h4 (by simp; omega) (fun k e => Nat.le_of_lt (Nat.lt_of_lt_of_le (by omega) (h2.out.lt k e).1))); have HA2 := Lib.hid (show CsAt w1 w.heap.size c from (h4.block w.heap.size (by simp; omega) (fun e => by have := (h2.out.lt _ e.symm).1; omega)).trans HA1.out); have hz1 := HB2.out.size; have hz2 : w.heap.size < w1.heap.size := (by have := h4.size; simp at this; omega); clear h3 h4)
  have HI : Hid (BytesI c w 0 v1 w1) := ⟨⟨_, HO1.out, by simp; omega⟩, HA2.out, HB2.out, hz2⟩
  clear HO1 HB2 HA2 HB1 HB0 HA HA1 h2
  go_loopw [3, 4] (fun v j wr => ∃ q : Nat, q ≤ c.xs.length ∧ j = .int .i64 q ∧ Hid (BytesI c w q v wr)) (fun _ j _ => c.xs.length - (intOf j).toNat)
  case atStart => exact ⟨0, by omega, rfl, HI⟩
  case round =>
    obtain ⟨q, hq, rfl, hI⟩ := hrel
    obtain ⟨⟨l2, ho, hl2⟩, hat, hbr, hzr⟩ := hI.out
    obtain ⟨c0, -, -, -, -, -⟩ := hat.cells
    by_cases hlt : q < c.xs.length
    · obtain ⟨g, o, hA0, -, d0, d1, d2, d3, d4, d5, d6⟩ := ((HC.out.below hbr).l0).at_ hlt
      obtain ⟨A2, z2, rfl, hzz, hc2, hL2⟩ := ho.form
      have HP := Lib.hid (refPut_some A2 z2 l2 c.xs[q] wr (HC.out.rng _ (List.getElem_mem hlt)) hL2 (by omega))
      have HAT := Lib.hid hat
      have HBR := Lib.hid hbr
      have HL2 := Lib.hid hl2
      rw [hA0] at c0
      clear hA0
      generalize c.xs[q] = i at *
      unfold PutW iv ic at HP
      have q0 : (0 : Int) ≤ (q : Int) := by omega
      have q1 : (q : Int) < (c.xs.length : Int) := by omega
      clear ho hat hbr hL2 hc2 HI hl2
      go_wp2_with fail
      refine HP.out.mono ?_
      rintro e w5 ⟨v5, l5, rfl, ho5, hle5, hb5⟩
      have HI5 : Hid (BytesI c w (q + 1) v5 w5) := ⟨⟨l5, ho5.base (by omega), by have := HL2.out; omega⟩, HAT.out.below hb5 hzr, HBR.out.trans (hb5.mono (by omega)), Nat.lt_of_lt_of_le hzr hb5.size⟩
      clear ho5 hle5 hb5 hI
      go_wp2_with fail
      go_roundw
      case rel => exact ⟨q + 1, by omega, by go_num, HI5⟩
      case measure => simp [intOf]; omega
    · obtain rfl : q = c.xs.length := by omega
      clear HI
      have HI' := Lib.hid hI.out
      clear hI ho hat hbr
      go_wp2_with fail
      go_ret
      obtain ⟨⟨l3, ho, hl3⟩, -, hbr, -⟩ := HI'.out
      exact ⟨_, l3, rfl, ho.base (by omega), by omega, hbr⟩

end Go.Proofs.YtdnpoeegefkoiaaGreat

namespace Go.Proofs.YtdnpoeegefkoiaaGreat
open Go.ChangeShapes Go.WideShapes Go.ChangeAt Go.RowKit Go.Deep

set_option maxRecDepth 100000 in
theorem case_cells5 {H : Type} {enc : TypeId × Value → H} {P : Program} {W : World} {e ti tb tn ei eb en : TypeId} {g0 g1 g2 g3 g4 g5 g6 f0 f1 f2 f3 f4 f5 : Field} {fuel : Nat} {cs : List Value} {x : DataW H × List MemPlace}
    (hs : P.underlying e = some (.struct #[f0, f1, f2, f3, f4, f5])) (hone : oneCellFields P #[f0, f1, f2, f3, f4, f5] = true) (hC : P.cellsOf e = 6)
    (t0 : f0.type = ti) (t1 : f1.type = tb) (t2 : P.underlying f2.type = some (.int .i64)) (t3 : P.underlying f3.type = some (.int .i64)) (t4 : f4.type = tn) (t5 : P.underlying f5.type = some (.int .i64))
    (hti : P.underlying ti = some (.slice ei)) (hei : P.underlying ei = some (.struct #[g0, g1, g2, g3, g4, g5, g6])) (hion : oneCellFields P #[g0, g1, g2, g3, g4, g5, g6] = true) (hiC : P.cellsOf ei = 7)
    (u0 : P.underlying g0.type = some (.int .u8)) (u1 : P.underlying g1.type = some (.int .u8)) (u2 : P.underlying g2.type = some (.int .i64)) (u3 : P.underlying g3.type = some (.int .i64)) (u4 : P.underlying g4.type = some (.int .i64)) (u5 : P.underlying g5.type = some (.int .i64)) (u6 : P.underlying g6.type = some (.int .i64))
    (htb : P.underlying tb = some (.slice eb)) (heb : P.underlying eb = some (.int .u8)) (hbC : P.cellsOf eb = 1) (htn : P.underlying tn = some (.slice en)) (hen : P.underlying en = some (.int .i64)) (hnC : P.cellsOf en = 1)
    (h : DataW.trod enc P W 0 (fun _ => true) true fuel e cs = some x) : ∃ c : Cs, cs = (csC c).toList ∧ CsIn W c ∧ (c.A2 = none → c.c2 = 0) := by
  obtain ⟨ys, n, _, _, hlen, hyl, hf⟩ := DataW.trod_struct hs h
  rw [hC] at hlen
  have hsome : ∀ j, j < 6 → ∃ z, ys[j]? = some z := fun j hj => ⟨_, List.getElem?_eq_getElem (by rw [hyl]; exact hj)⟩
  match cs, hlen with
  | [v0, v1, v2, v3, v4, v5], _ =>
    obtain ⟨o0, k0⟩ := hone_of hone 0 f0 rfl
    have q0 := hf 0 f0 rfl
    obtain ⟨z0, e0⟩ := hsome 0 (by omega)
    rw [e0, o0, k0, t0] at q0
    obtain ⟨A0, c0, xs, r0, a0, b0, d0⟩ := cells_instrs hti hei hion hiC u0 u1 u2 u3 u4 u5 u6 q0
    obtain ⟨o1, k1⟩ := hone_of hone 1 f1 rfl
    have q1 := hf 1 f1 rfl
    obtain ⟨z1, e1⟩ := hsome 1 (by omega)
    rw [e1, o1, k1, t1] at q1
    obtain ⟨A1, c1, bs, r1, a1, b1, d1⟩ := cells_bytes htb heb hbC q1
    obtain ⟨o2, k2⟩ := hone_of hone 2 f2 rfl
    have q2 := hf 2 f2 rfl
    obtain ⟨z2, e2⟩ := hsome 2 (by omega)
    rw [e2, o2, k2] at q2
    obtain ⟨st, r2, _, w2⟩ := DataW.trod_int t2 q2
    obtain ⟨o3, k3⟩ := hone_of hone 3 f3 rfl
    have q3 := hf 3 f3 rfl
    obtain ⟨z3, e3⟩ := hsome 3 (by omega)
    rw [e3, o3, k3] at q3
    obtain ⟨wd, r3, _, w3⟩ := DataW.trod_int t3 q3
    obtain ⟨o4, k4⟩ := hone_of hone 4 f4 rfl
    have q4 := hf 4 f4 rfl
    obtain ⟨z4, e4⟩ := hsome 4 (by omega)
    rw [e4, o4, k4, t4] at q4
    obtain ⟨A2, c2, inp, r4, a4, b4, d4⟩ := cells_ints htn hen hnC q4
    obtain ⟨o5, k5⟩ := hone_of hone 5 f5 rfl
    have q5 := hf 5 f5 rfl
    obtain ⟨z5, e5⟩ := hsome 5 (by omega)
    rw [e5, o5, k5] at q5
    obtain ⟨fu, r5, _, w5⟩ := DataW.trod_int t5 q5
    simp at r0 r1 r2 r3 r4 r5
    have x2 := bounds_i64 w2
    have x3 := bounds_i64 w3
    have x5 := bounds_i64 w5
    refine ⟨⟨xs, bs, st, wd, inp, fu, A0, c0, A1, c1, A2, c2⟩, ?_, ⟨b0, d0, a0, d1, a1, b1, d4, a4, (by simp only; omega), (by simp only; omega), (by simp only; omega), (by simp only; omega), (by simp only; omega), (by simp only; omega)⟩, b4⟩
    simp only [csC, r0, r1, r2, r3, r4, r5]
set_option maxRecDepth 100000 in
theorem open_case5 {H : Type} {enc : TypeId × Value → H} {W : World} {base : Nat} {v : Value} {d : DataW H} {p : List MemPlace}
    (hv : Value.okWide Tryz.prog W .any base 26 v) (h : DataW.Trod enc Tryz.prog W 0 (fun _ => true) true 26 v d p) : ∃ c : Cs, v = .agg (csC c) ∧ CsIn W c ∧ (c.A2 = none → c.c2 = 0) := by
  obtain ⟨cs, rfl, _⟩ := okWide_struct Tryz.underlying26 hv
  obtain ⟨fuel, hf⟩ := h
  obtain ⟨c, he, hc, hn⟩ := case_cells5 (ti := 22) (tb := 23) (tn := 24) Tryz.underlying26 (by kernel_rfl) (by kernel_rfl) rfl rfl (by kernel_rfl) (by kernel_rfl) rfl (by kernel_rfl)
    Tryz.underlying22 Tryz.underlying53 (by kernel_rfl) (by kernel_rfl) (by kernel_rfl) (by kernel_rfl) (by kernel_rfl) (by kernel_rfl) (by kernel_rfl) (by kernel_rfl) (by kernel_rfl)
    Tryz.underlying23 Tryz.underlying5 (by kernel_rfl) Tryz.underlying24 Tryz.underlying2 (by kernel_rfl) hf
  refine ⟨c, ?_, hc, hn⟩
  have : cs.toList = (csC c).toList := by simpa [Value.cells] using he
  congr 1
  apply Array.ext'
  exact this


/-- what was shown with more held, holds with less -/
theorem wpAnyH_weaken {P : Program} {md : Region.Mode} {ops : Array Oper} {Q : Exit → Act → World → Prop} {S S2 : World → Prop} (hS : ∀ w, S2 w → S w) :
    ∀ (fuel : Nat) (listed : Array Bool) (a : Act) (w : World), wpAnyH P md ops Q S2 fuel listed a w → wpAnyH P md ops Q S fuel listed a w
  | 0, _, _, _, h => h
  | fuel + 1, _, _, _, h => ⟨h.1, fun i hi => wpOp_mono (fun a' w' h' => ⟨hS _ h'.1, wpAnyH_weaken hS fuel _ a' w' h'.2⟩) (h.2 i hi)⟩

/-- New of anything -/
def NewP5 (code : List UInt8) (start words : Int) (input : List Int) (w : World) (P : Option Addr) (E : Int) (w' : World) : Prop :=
  Below w.heap.size w w' ∧ ((newOk code.length start words ∧ E = 0 ∧ ∃ g p, P = some ⟨g, 0, none⟩ ∧ MIn w' (grow none_ w w') g (m0 code start words input) p) ∨ (¬ newOk code.length start words ∧ P = none ∧ E = 1))
def NewA5 (code : List UInt8) (start words : Int) (input : List Int) (w : World) (e : Ending) (w' : World) : Prop := ∃ P E, e = .returned (.tuple #[.pointer P, .int .i64 E]) ∧ NewP5 code start words input w P E w'
theorem new_all5 (A A2 : Option Addr) (c c2 : Nat) (code : List UInt8) (input : List Int) (start words : Int) (w : World) (hcode : Lies w w.heap.size A code) (hin : ILs w A2 input) (hlen : input.length ≤ 1099511627776) :
    Calls Tryz.prog 8 #[.slice A code.length c, .int .i64 start, .int .i64 words, .slice A2 input.length c2] w (NewA5 code start words input w) := by
  by_cases hok : newOk code.length start words
  · have hok' := hok
    obtain ⟨h1, h2, h3, h4, h5⟩ := hok
    obtain ⟨n, rfl⟩ : ∃ n : Nat, words = n := ⟨words.toNat, by omega⟩
    exact (new_good A A2 c c2 code input start n w hcode hin hlen h1 h2 h3 h4 h5).mono fun e w' ⟨g, p, he, hM, hb⟩ => ⟨_, _, he, hb, .inl ⟨hok', rfl, g, p, rfl, hM⟩⟩
  · exact (new_bad A A2 c input.length c2 code.length start words w hok).mono fun e w' ⟨he, hw⟩ => ⟨_, _, he, by rw [hw]; exact Below.refl _ _, .inr ⟨hok, rfl, rfl⟩⟩

theorem Okm.step5 {M : Mc} {n : Nat} (h : Okm M (n + 1)) (h0 : M.how = 0) : Okm (stepM M) n := by
  unfold stepM
  rw [if_pos h0]
  exact h.do_
theorem Okm.make5 {l : List UInt8} {inp : List Int} {st wd : Int} (h1 : l.length ≤ 1048576) (h2 : wd ≤ 65536) (n : Nat) (hn : n ≤ 10000) : Okm (m0 l st wd inp) n :=
  ⟨by simp only [m0]; omega, by simp only [m0, List.length_replicate]; omega, by simp only [m0, List.length_nil]; omega⟩
/-- the document's New of anything -/
def NewQ5 (code : List UInt8) (start words : Int) (input : List Int) (w : World) (P : Option Addr) (E : Int) (w' : World) : Prop :=
  Below w.heap.size w w' ∧ ((newOk code.length start words ∧ E = 0 ∧ ∃ g p, P = some ⟨g, 0, none⟩ ∧ DIn w' (grow none_ w w') g (m0 code start words input) p) ∨ (¬ newOk code.length start words ∧ P = none ∧ E = 1))
def NewD5 (code : List UInt8) (start words : Int) (input : List Int) (w : World) (e : Ending) (w' : World) : Prop := ∃ P E, e = .returned (.tuple #[.pointer P, .int .i64 E]) ∧ NewQ5 code start words input w P E w'
theorem dnew_all (A A2 : Option Addr) (c c2 : Nat) (code : List UInt8) (input : List Int) (start words : Int) (w : World) (hcode : Lies w w.heap.size A code) (hin : ILs w A2 input) (hc2 : A2 = none → c2 = 0) (hlen : input.length ≤ 1099511627776) :
    Calls Tryz.prog 9 #[.slice A code.length c, .int .i64 start, .int .i64 words, .slice A2 input.length c2] w (NewD5 code start words input w) := by
  by_cases hok : newOk code.length start words
  · have hok' := hok
    obtain ⟨h1, h2, h3, h4, h5⟩ := hok
    obtain ⟨n, rfl⟩ : ∃ n : Nat, words = n := ⟨words.toNat, by omega⟩
    exact (dnew_good A A2 c c2 code input start n w hcode hin hc2 hlen h1 h2 h3 h4 h5).mono fun e w' ⟨g, p, he, hM, hb⟩ => ⟨_, _, he, hb, .inl ⟨hok', rfl, g, p, rfl, hM⟩⟩
  · exact (dnew_bad A A2 c input.length c2 code.length start words w hok).mono fun e w' ⟨he, hw⟩ => ⟨_, _, he, by rw [hw]; exact Below.refl _ _, .inr ⟨hok, rfl, rfl⟩⟩

theorem endOf_num {m : Mc} {i : Ins} {a b : Int} (h : endOf m i = some (a, b)) (ha : a = 0) : b = 0 := by
  unfold endOf at h
  repeat' split at h
  all_goals first
    | (cases h; done)
    | (cases h; rfl)
    | (cases h; omega)
/-- what a machine keeps that both answer for -/
structure Ok5 (m : Mc) (n : Nat) : Prop where
  ok : Okm m n
  inp : m.input.length ≤ 1099511627776
  num : m.how = 0 → m.num = 0
theorem Ok5.step {m : Mc} {n : Nat} (h : Ok5 m (n + 1)) (h0 : m.how = 0) : Ok5 (stepM m) n := by
  refine ⟨h.ok.step5 h0, ?_, ?_⟩
  · unfold stepM
    rw [if_pos h0]
    unfold doM
    split
    · split
      · exact h.inp
      · exact Nat.le_trans (turn_same m _ _).2.2.2.2.2.2.2 h.inp
    · exact h.inp
  · unfold stepM
    rw [if_pos h0]
    unfold doM
    split
    · split
      · rename_i a b he
        exact fun ha => endOf_num he ha
      · exact fun _ => (turn_same m _ _).2.2.1.trans (h.num h0)
    · exact fun _ => rfl
theorem Ok5.less {m : Mc} {n k : Nat} (h : Ok5 m n) (hk : k ≤ n) : Ok5 m k := ⟨h.ok.less hk, h.inp, h.num⟩

/-- the program's machine and the document's, each in blocks of its own, none below B -/
def Bo (B : Nat) (w : World) (g g' : Nat) (M M' : Mc) : Prop :=
  ∃ S T p q, MIn w S g M p ∧ DIn w T g' M' q ∧ (∀ k, S k → ¬ T k) ∧ (∀ k, S k → B ≤ k) ∧ (∀ k, T k → B ≤ k)
section
variable {B : Nat} {w w' : World} {g g' : Nat} {M M' : Mc}
theorem Bo.below (h : Bo B w g g' M M') (hb : Below w.heap.size w w') : Bo B w' g g' M M' := by
  obtain ⟨S, T, p, q, h1, h2, h3, h4, h5⟩ := h
  exact ⟨S, T, p, q, h1.below hb, h2.below hb, h3, h4, h5⟩
theorem Bo.set (h : Bo B w g g' M M') (a : Addr) (ha : a.block < B) (v : Value) : Bo B (w.setCell a v) g g' M M' := by
  obtain ⟨S, T, p, q, h1, h2, h3, h4, h5⟩ := h
  exact ⟨S, T, p, q, h1.same (fun k hk => Below.heap_setCell w a v k (by have := h4 k hk; omega)) (by simp [World.setCell]), h2.same (fun k hk => Below.heap_setCell w a v k (by have := h5 k hk; omega)) (by simp [World.setCell]), h3, h4, h5⟩
theorem bo_new {w2 w3 w4 : World} {p : Mp} {q : Rp} (h1 : MIn w3 (grow none_ w2 w3) g M p) (hb : Below w3.heap.size w3 w4) (h2 : DIn w4 (grow none_ w3 w4) g' M' q) (hz : w2.heap.size ≤ w3.heap.size) : Bo w2.heap.size w4 g g' M M' := by
  refine ⟨_, _, p, q, h1.below hb, h2, fun k a b => ?_, fun k a => ?_, fun k b => ?_⟩
  · rcases a with a | a
    · exact a
    · rcases b with b | b
      · exact b
      · have := a.2; have := b.1; omega
  · rcases a with a | a
    · exact absurd a (fun h => h)
    · exact a.1
  · rcases b with b | b
    · exact absurd b (fun h => h)
    · exact Nat.le_trans hz b.1
/-- the program's Step -/
theorem bo_step1 (h : Bo B w g g' M M') (hB : B ≤ w.heap.size) (ho : Okm M 0) : Calls Tryz.prog 12 #[.pointer (some ⟨g, 0, none⟩)] w fun e w' => e = .returned (.int .u8 (stepM M).how) ∧ Bo B w' g g' (stepM M) M' ∧ Below B w w' ∧ w.heap.size ≤ w'.heap.size := by
  obtain ⟨S, T, p, q, h1, h2, h3, h4, h5⟩ := h
  refine (step_any h1 ho).mono fun e w' ⟨he, p', hM, hk⟩ => ⟨he, ⟨grow S w w', T, p', q, hM, h2.keep hk (fun k hT hS => h3 k hS hT), fun k a hT => ?_, fun k a => ?_, h5⟩, hk.below h4 hB, hk.size⟩
  · rcases a with a | a
    · exact h3 k a hT
    · have := h2.lt k hT; omega
  · rcases a with a | a
    · exact h4 k a
    · omega
/-- the document's Step -/
theorem bo_step2 (h : Bo B w g g' M M') (hB : B ≤ w.heap.size) (ho : Ok5 M' 0) : Calls Tryz.prog 13 #[.pointer (some ⟨g', 0, none⟩)] w fun e w' => e = .returned (.int .u8 (stepM M').how) ∧ Bo B w' g g' M (stepM M') ∧ Below B w w' ∧ w.heap.size ≤ w'.heap.size := by
  obtain ⟨S, T, p, q, h1, h2, h3, h4, h5⟩ := h
  refine (dstep_any h2 ho.num ho.ok.code ho.ok.words (by have := ho.ok.out; omega) ho.inp).mono fun e w' ⟨he, q', hD, hk⟩ => ⟨he, ⟨S, grow T w w', p, q', h1.keep hk (fun k hS hT => h3 k hS hT), hD, fun k hS a => ?_, h4, fun k a => ?_⟩, hk.below h5 hB, hk.size⟩
  · rcases a with a | a
    · exact h3 k hS a
    · have := h1.lt k hS; omega
  · rcases a with a | a
    · exact h5 k a
    · omega
theorem bo_like (h : Bo B w g g' M M) (ho : Okm M 0) : Calls Tryz.prog 11 #[.pointer (some ⟨g, 0, none⟩), .pointer (some ⟨g', 0, none⟩)] w (LikeR w) := by
  obtain ⟨S, T, p, q, h1, h2, h3, h4, h5⟩ := h
  exact like_any h1 h2 ho.words (by have := ho.out; omega)
theorem bo_how (h : Bo B w g g' M M') : Calls Tryz.prog 14 #[.pointer (some ⟨g, 0, none⟩)] w fun e w' => e = .returned (.int .u8 M.how) ∧ w = w' := by
  obtain ⟨S, T, p, q, h1, _⟩ := h
  exact how_any h1
theorem bo_pc (h : Bo B w g g' M M') : Calls Tryz.prog 15 #[.pointer (some ⟨g, 0, none⟩)] w fun e w' => e = .returned (.int .i64 M.pc) ∧ w = w' := by
  obtain ⟨S, T, p, q, h1, _⟩ := h
  exact pc_any h1
theorem bo_regs (h : Bo B w g g' M M') : Calls Tryz.prog 17 #[.pointer (some ⟨g, 0, none⟩)] w (MadeI w M.regs) := by
  obtain ⟨S, T, p, q, h1, _⟩ := h
  exact regs_any h1
/-- what the law reads of the document's machine -/
theorem bo_cells (h : Bo B w g g' M M') : ∃ gr gw, g' < w.heap.size ∧ M'.regs.length = 16 ∧ ILs w (some ⟨gr, 0, none⟩) M'.regs ∧ ILs w (some ⟨gw, 0, none⟩) M'.words ∧ w.cell? ⟨g', 1, none⟩ = some (.int .i64 M'.pc) ∧ w.cell? ⟨g', 2, none⟩ = some (.slice (some ⟨gr, 0, none⟩) 16 16) ∧
    w.cell? ⟨g', 3, none⟩ = some (.slice (some ⟨gw, 0, none⟩) M'.words.length M'.words.length) ∧ w.cell? ⟨g', 6, none⟩ = some (.int .u8 M'.how) := by
  obtain ⟨S, T, p, q, h1, h2, h3, h4, h5⟩ := h
  have c := h2.cells
  exact ⟨q.gr, q.gw, h2.lt _ h2.mem, h2.regs, h2.regsI, h2.wordsI, c.2.1, c.2.2.1, c.2.2.2.1, c.2.2.2.2.2.2.1⟩
end

/-- cells of one kind that may be turned, in blocks from lo up to hi -/
def Slots (k : IntKind) (lo hi : Nat) (w : World) (A : Option Addr) (n : Nat) : Prop :=
  ∀ j, j < n → ∃ g o x, A = some ⟨g, o, none⟩ ∧ lo ≤ g ∧ g < hi ∧ g < w.heap.size ∧ w.cell? ⟨g, o + j, none⟩ = some (.int k x) ∧ w.frozen? ⟨g, o + j, none⟩ = false
section
variable {k : IntKind} {lo hi n : Nat} {w w' : World} {A : Option Addr}
theorem Slots.below (h : Slots k lo hi w A n) (hb : Below w.heap.size w w') : Slots k lo hi w' A n := fun j hj => by
  obtain ⟨g, o, x, h1, a, b, h3, h4, h5⟩ := h j hj
  exact ⟨g, o, x, h1, a, b, Nat.lt_of_lt_of_le h3 hb.size, (hb.cell (p := ⟨g, o + j, none⟩) h3).trans h4, (hb.frozen (p := ⟨g, o + j, none⟩) h3).trans h5⟩
theorem Slots.set (h : Slots k lo hi w A n) (p : Addr) (y : Int) : Slots k lo hi (w.setCell p (.int k y)) A n := fun j hj => by
  obtain ⟨g, o, x, h1, a, b, h3, h4, h5⟩ := h j hj
  by_cases hp : p = ⟨g, o + j, none⟩
  · subst hp
    exact ⟨g, o, y, h1, a, b, by simpa [World.setCell] using h3, by rw [World.cell?_setCell_same _ _ _ (by rw [h4])], by rw [World.frozen?_setCell]; exact h5⟩
  · exact ⟨g, o, x, h1, a, b, by simpa [World.setCell] using h3, by rw [World.cell?_setCell_other _ _ _ _ (fun e => hp e)]; exact h4, by rw [World.frozen?_setCell]; exact h5⟩
theorem Slots.far (h : Slots k lo hi w A n) (p : Addr) (hp : p.block < lo ∨ hi ≤ p.block) (v : Value) : Slots k lo hi (w.setCell p v) A n := fun j hj => by
  obtain ⟨g, o, x, h1, a, b, h3, h4, h5⟩ := h j hj
  exact ⟨g, o, x, h1, a, b, by simpa [World.setCell] using h3, (World.cell?_setCell_far _ _ _ _ (by simp only; omega)).trans h4, by rw [World.frozen?_setCell]; exact h5⟩
end
end Go.Proofs.YtdnpoeegefkoiaaGreat

namespace Go.Proofs.YtdnpoeegefkoiaaGreat
open Go Go.RowKit

/-- a machine of the call's own, in blocks below N -/
def One (w0 : World) (N : Nat) (w : World) (g : Nat) (M : Mc) : Prop :=
  ∃ S p, MIn w S g M p ∧ (∀ k, S k → w0.heap.size ≤ k ∧ k < N) ∧ N ≤ w.heap.size ∧ w0.heap.size ≤ N ∧ Below w0.heap.size w0 w
/-- two of them, apart -/
def Two (w0 : World) (N : Nat) (w : World) (g1 g2 : Nat) (M1 M2 : Mc) : Prop :=
  ∃ S1 S2 p1 p2, MIn w S1 g1 M1 p1 ∧ MIn w S2 g2 M2 p2 ∧ (∀ k, S1 k → ¬ S2 k) ∧ (∀ k, S1 k → w0.heap.size ≤ k ∧ k < N) ∧ (∀ k, S2 k → w0.heap.size ≤ k ∧ k < N) ∧ N ≤ w.heap.size ∧ w0.heap.size ≤ N ∧ Below w0.heap.size w0 w
section
variable {w0 w w' : World} {N g g1 g2 : Nat} {M M1 M2 : Mc}
theorem One.keep (h : One w0 N w g M) (hb : Below N w w') : One w0 N w' g M := by
  obtain ⟨S, p, h1, h2, h3, h4, h5⟩ := h
  exact ⟨S, p, h1.same (fun k hk => hb.block k (h2 k hk).2) hb.size, h2, Nat.le_trans h3 hb.size, h4, h5.trans (hb.mono h4)⟩
theorem Two.keep (h : Two w0 N w g1 g2 M1 M2) (hb : Below N w w') : Two w0 N w' g1 g2 M1 M2 := by
  obtain ⟨S1, S2, p1, p2, h1, h2, hd, h3, h4, h5, h6, h7⟩ := h
  exact ⟨S1, S2, p1, p2, h1.same (fun k hk => hb.block k (h3 k hk).2) hb.size, h2.same (fun k hk => hb.block k (h4 k hk).2) hb.size, hd, h3, h4, Nat.le_trans h5 hb.size, h6, h7.trans (hb.mono h6)⟩
theorem One.sz (h : One w0 N w g M) : N ≤ w.heap.size ∧ w0.heap.size ≤ N ∧ Below w0.heap.size w0 w := by
  obtain ⟨S, p, h1, h2, h3, h4, h5⟩ := h
  exact ⟨h3, h4, h5⟩
theorem Two.sz (h : Two w0 N w g1 g2 M1 M2) : N ≤ w.heap.size ∧ w0.heap.size ≤ N ∧ Below w0.heap.size w0 w := by
  obtain ⟨S1, S2, p1, p2, h1, h2, hd, h3, h4, h5, h6, h7⟩ := h
  exact ⟨h5, h6, h7⟩
theorem Two.one (h : Two w0 N w g1 g2 M1 M2) : One w0 N w g1 M1 := by
  obtain ⟨S1, S2, p1, p2, h1, h2, hd, h3, h4, h5, h6, h7⟩ := h
  exact ⟨S1, p1, h1, h3, h5, h6, h7⟩
theorem Two.two (h : Two w0 N w g1 g2 M1 M2) : One w0 N w g2 M2 := by
  obtain ⟨S1, S2, p1, p2, h1, h2, hd, h3, h4, h5, h6, h7⟩ := h
  exact ⟨S2, p2, h2, h4, h5, h6, h7⟩
theorem Two.swap (h : Two w0 N w g1 g2 M1 M2) : Two w0 N w g2 g1 M2 M1 := by
  obtain ⟨S1, S2, p1, p2, h1, h2, hd, h3, h4, h5, h6, h7⟩ := h
  exact ⟨S2, S1, p2, p1, h2, h1, fun k h2 h1 => hd k h1 h2, h4, h3, h5, h6, h7⟩
/-- what has turned the first one leaves the second -/
theorem Two.turn {S1 : Nat → Prop} {p1 p1' : Mp} {M1' : Mc} (_h1 : MIn w S1 g1 M1 p1) (hS1 : ∀ k, S1 k → w0.heap.size ≤ k ∧ k < N) (h : ∃ S2 p2, MIn w S2 g2 M2 p2 ∧ (∀ k, S1 k → ¬ S2 k) ∧ (∀ k, S2 k → w0.heap.size ≤ k ∧ k < N) ∧ N ≤ w.heap.size ∧ w0.heap.size ≤ N ∧ Below w0.heap.size w0 w)
    (hM : MIn w' (grow S1 w w') g1 M1' p1') (hk : Keeps S1 w w') : Two w0 w'.heap.size w' g1 g2 M1' M2 := by
  obtain ⟨S2, p2, h2, hd, h4, h5, h6, h7⟩ := h
  refine ⟨grow S1 w w', S2, p1', p2, hM, h2.keep hk (fun k hs h1' => hd k h1' hs), fun k hk1 hk2 => ?_, fun k hk1 => ?_, fun k hk2 => ?_, Nat.le_refl _, by have := hk.size; omega, ?_⟩
  · rcases hk1 with h | h
    · exact hd k h hk2
    · have := h2.lt k hk2; omega
  · have hl := hM.lt k hk1
    rcases hk1 with h | h
    · exact ⟨(hS1 k h).1, hl⟩
    · exact ⟨by omega, hl⟩
  · exact ⟨(h4 k hk2).1, by have := h2.lt k hk2; have := hk.size; omega⟩
  · exact h7.trans (hk.below (fun k h => (hS1 k h).1) (by omega))
theorem two_run (h : Two w0 N w g1 g2 M1 M2) (fuel : Int) (ho : Okm M1 fuel.toNat) : Calls Tryz.prog 19 #[.pointer (some ⟨g1, 0, none⟩), .int .i64 fuel] w fun e w' =>
    e = .returned (.tuple #[.int .u8 (runM fuel.toNat M1).1.how, .int .i64 (runM fuel.toNat M1).2]) ∧ Two w0 w'.heap.size w' g1 g2 (runM fuel.toNat M1).1 M2 := by
  obtain ⟨S1, S2, p1, p2, h1, h2, hd, h3, h4, h5, h6, h7⟩ := h
  exact (run_any h1 fuel ho).mono fun e w' ⟨he, p', hM, hk⟩ => ⟨he, Two.turn h1 h3 ⟨S2, p2, h2, hd, h4, h5, h6, h7⟩ hM hk⟩
theorem one_step (h : One w0 N w g M) (ho : Okm M 0) : Calls Tryz.prog 12 #[.pointer (some ⟨g, 0, none⟩)] w fun e w' => e = .returned (.int .u8 (stepM M).how) ∧ One w0 w'.heap.size w' g (stepM M) ∧ Below N w' w' := by
  obtain ⟨S, p, h1, h2, h3, h4, h5⟩ := h
  refine (step_any h1 ho).mono fun e w' ⟨he, p', hM, hk⟩ => ⟨he, ⟨grow S w w', p', hM, fun k hk1 => ?_, Nat.le_refl _, by have := hk.size; omega, h5.trans (hk.below (fun k h => (h2 k h).1) (by omega))⟩, Below.refl _ _⟩
  have hl := hM.lt k hk1
  rcases hk1 with h | h
  · exact ⟨(h2 k h).1, hl⟩
  · exact ⟨by omega, hl⟩

/-- numbers that are read and may be written, in blocks from N on -/
def Nums (N : Nat) (w : World) (A : Option Addr) (n : Nat) : Prop := ∀ j, j < n → ∃ g o x, A = some ⟨g, o, none⟩ ∧ N ≤ g ∧ g < w.heap.size ∧ w.cell? ⟨g, o + j, none⟩ = some (.int .i64 x) ∧ w.frozen? ⟨g, o + j, none⟩ = false
theorem Nums.below {A : Option Addr} {n : Nat} (h : Nums N w A n) (hb : Below w.heap.size w w') : Nums N w' A n := fun j hj => by
  obtain ⟨g, o, x, h1, h2, h3, h4, h5⟩ := h j hj
  exact ⟨g, o, x, h1, h2, Nat.lt_of_lt_of_le h3 hb.size, (hb.cell (p := ⟨g, o + j, none⟩) h3).trans h4, (hb.frozen (p := ⟨g, o + j, none⟩) h3).trans h5⟩
theorem Nums.set {A : Option Addr} {n : Nat} (h : Nums N w A n) (p : Addr) (y : Int) : Nums N (w.setCell p (.int .i64 y)) A n := fun j hj => by
  obtain ⟨g, o, x, h1, h2, h3, h4, h5⟩ := h j hj
  by_cases hp : p = ⟨g, o + j, none⟩
  · subst hp
    exact ⟨g, o, y, h1, h2, by simpa [World.setCell] using h3, by rw [World.cell?_setCell_same _ _ _ (by rw [h4])], by rw [World.frozen?_setCell]; exact h5⟩
  · exact ⟨g, o, x, h1, h2, by simpa [World.setCell] using h3, (World.cell?_setCell_other _ _ _ _ (fun e => hp e)).trans h4, by rw [World.frozen?_setCell]; exact h5⟩
theorem IRow.nums {v : Value} {l : List Int} (h : IRow w v l) (hN : ∀ k, v.ownBlock = some k → N ≤ k) : ∃ A c, v = .slice A l.length c ∧ l.length ≤ c ∧ ILs w A l ∧ Nums N w A l.length := by
  obtain ⟨A, c, e, hc, hl⟩ := h.ils
  refine ⟨A, c, e, hc, hl, fun j hj => ?_⟩
  obtain ⟨g, o, rfl, hg, hq⟩ := hl (by omega)
  subst e
  refine ⟨g, o, _, rfl, hN g rfl, hg, hq j hj, ?_⟩
  rcases h.2 with ⟨e, _⟩ | ⟨g', cap, cur, e, _, hh, _⟩
  · cases e
  · injection e with e1 e2 e3
    injection e1 with e1
    injection e1 with e4 e5 e6
    subst e4
    simp [World.frozen?, hh]
/-- numbers taken down of a machine -/
def Taken (N : Nat) (l : List Int) (w : World) (e : Ending) (w' : World) : Prop := ∃ A c, e = .returned (.slice A l.length c) ∧ l.length ≤ c ∧ ILs w' A l ∧ Nums N w' A l.length ∧ Below w.heap.size w w'
theorem MadeI.taken {l : List Int} {e : Ending} (h : MadeI w l e w') (hN : N ≤ w.heap.size) : Taken N l w e w' := by
  obtain ⟨v, rfl, h1, h2, h3⟩ := h
  obtain ⟨A, c, rfl, hc, hl, hn⟩ := h1.nums (N := N) (fun k e => Nat.le_trans hN (h3 k e))
  exact ⟨A, c, rfl, hc, hl, hn, h2⟩
theorem one_words (h : One w0 N w g M) (hl : M.words.length ≤ 1099511627776) : Calls Tryz.prog 26 #[.pointer (some ⟨g, 0, none⟩)] w (Taken N M.words w) := by
  obtain ⟨S, p, h1, h2, h3, h4, h5⟩ := h
  exact (words_any h1 hl).mono fun e w' he => he.taken h3
theorem one_regs (h : One w0 N w g M) : Calls Tryz.prog 17 #[.pointer (some ⟨g, 0, none⟩)] w (Taken N M.regs w) := by
  obtain ⟨S, p, h1, h2, h3, h4, h5⟩ := h
  exact (regs_any h1).mono fun e w' he => he.taken h3
theorem one_out (h : One w0 N w g M) (hl : M.out.length ≤ 1099511627776) : Calls Tryz.prog 21 #[.pointer (some ⟨g, 0, none⟩)] w (Taken N M.out w) := by
  obtain ⟨S, p, h1, h2, h3, h4, h5⟩ := h
  exact (out_any h1 hl).mono fun e w' he => he.taken h3
theorem one_pc (h : One w0 N w g M) : Calls Tryz.prog 15 #[.pointer (some ⟨g, 0, none⟩)] w fun e w' => e = .returned (.int .i64 M.pc) ∧ w = w' := by
  obtain ⟨S, p, h1, _⟩ := h
  exact pc_any h1
theorem one_left (h : One w0 N w g M) : Calls Tryz.prog 25 #[.pointer (some ⟨g, 0, none⟩)] w fun e w' => e = .returned (.int .i64 M.input.length) ∧ w = w' := by
  obtain ⟨S, p, h1, _⟩ := h
  exact left_any h1
theorem one_how (h : One w0 N w g M) : Calls Tryz.prog 14 #[.pointer (some ⟨g, 0, none⟩)] w fun e w' => e = .returned (.int .u8 M.how) ∧ w = w' := by
  obtain ⟨S, p, h1, _⟩ := h
  exact how_any h1
end

end Go.Proofs.YtdnpoeegefkoiaaGreat

namespace Go.Proofs.YtdnpoeegefkoiaaGreat
open Go Go.RowKit

theorem own_slots {w : World} {B : Nat} {A : Option Addr} {n c : Nat} {l : List UInt8} (h : Own w B (.slice A n c) l) : Slots .u8 B w.heap.size w A n := by
  intro j hj
  have hlt := h.lt
  rcases h with ⟨e, rfl⟩ | ⟨g, r, e, hB, hm, hb⟩
  · cases e; omega
  · injection e with e1 e2 e3
    subst e1 e2
    have hj' : j < (l ++ r).length := by simp; omega
    exact ⟨g, 0, _, rfl, hB, (hlt g rfl).2, (hlt g rfl).2, by rw [Nat.zero_add]; exact hb.cell hj', hb.frozen _⟩
theorem irow_slots {w : World} {lo : Nat} {v : Value} {l : List Int} (h : IRow w v l) (hN : ∀ k, v.ownBlock = some k → lo ≤ k) : ∃ A c, v = .slice A l.length c ∧ l.length ≤ c ∧ ILs w A l ∧ Slots .i64 lo w.heap.size w A l.length := by
  obtain ⟨A, c, e, hc, hl, hn⟩ := h.nums hN
  exact ⟨A, c, e, hc, hl, fun j hj => by
    obtain ⟨g, o, x, h1, h2, h3, h4, h5⟩ := hn j hj
    exact ⟨g, o, x, h1, h2, h3, h3, h4, h5⟩⟩
def wordV (m : Mc) (a : Int) : Int := if hasW m a = true then wd m a else 0
set_option maxRecDepth 100000 in
theorem word5 {w : World} {S : Nat → Prop} {g : Nat} {m : Mc} {p : Mp} (h : MIn w S g m p) (a : Int) :
    Calls Tryz.prog 18 #[.pointer (some ⟨g, 0, none⟩), .int .i64 a] w fun e w' => e = .returned (.tuple #[.int .i64 (wordV m a), .bool (hasW m a)]) ∧ w = w' := by
  have c := h.cells.2.2.2.1
  unfold wordV
  cases hh : hasW m a with
  | false =>
    have HH := Lib.hid (has_no g p.gw m.words.length a w c (hasW_no hh))
    rw [if_neg (by simp)]
    clear h c
    go_enter Tryz.func18, Tryz.ntmps18
    go_wp2_with fail
    refine HH.out.mono ?_
    rintro e w' ⟨rfl, rfl⟩
    go_wp2_with fail
    go_ret2
    exact ⟨rfl, rfl⟩
  | true =>
    obtain ⟨k, rfl, hk⟩ := hasW_nat hh
    have HH := Lib.hid (has_yes g p.gw m.words.length k w c (by omega) (by omega))
    have d := h.words.cell hk
    have hd : (m.words.getD k 0) = wd m k := by simp [wd]
    have k1 : (k : Int) < m.words.length := by omega
    have k0 : (0 : Int) ≤ k := by omega
    rw [if_pos rfl]
    clear h hh
    go_enter Tryz.func18, Tryz.ntmps18
    go_wp2_with fail
    refine HH.out.mono ?_
    rintro e w' ⟨rfl, rfl⟩
    go_wp2_with fail
    go_ret2
    exact ⟨by rw [← hd]; simp [hk], rfl⟩
theorem bo_word {B : Nat} {w : World} {g g' : Nat} {M M' : Mc} (h : Bo B w g g' M M') (a : Int) : Calls Tryz.prog 18 #[.pointer (some ⟨g, 0, none⟩), .int .i64 a] w fun e w' => e = .returned (.tuple #[.int .i64 (wordV M a), .bool (hasW M a)]) ∧ w = w' := by
  obtain ⟨S, T, p, q, h1, _⟩ := h
  exact word5 h1 a
end Go.Proofs.YtdnpoeegefkoiaaGreat
