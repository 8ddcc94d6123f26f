/-
  Merged for a claim: R3P.
-/
import Derived.Test.YtnffiaphpcopjaaFR3B
import Derived.Test.YtnffiaphpcopjaaFR0A
import Derived.Test.YtnffiaphpcopjaaFR2A
import Derived.Test.YtnffiaphpcopjaaFO1Q
import Derived.Test.YtnffiaphpcopjaaFO1B
namespace Go.Proofs.Ytnffiaphpcopjaa
open Go.RowKit

def ltrZ : Pt → Int
  | .op => 111
  | .reg => 114
  | .both => 97
  | .third => 116
  | .num => 110
  | .many => 109
  | .to => 106
  | .how => 107
theorem ltr_Z (p : Pt) : ((ltr p).toNat : Int) = ltrZ p := by cases p <;> rfl
theorem index_ltr {k : Int} {q : Nat} {p : Pt} (h : (ptsOf k)[q]? = some p) (w : World) : (Instr.index 9 (.string (strL (sOf k))) (.int .i64 q)).run Try.prog w = .ok (.int .u8 (ltrZ p)) w := by
  obtain ⟨hq, e⟩ := List.getElem?_eq_some_iff.1 h
  have hq' : q < (sOf k).length := by simpa [sOf] using hq
  rw [index_str (sOf k) q hq' w]
  have : (sOf k)[q] = ltr p := by simp [sOf, e]
  rw [this, ltr_Z]
theorem pts_len (k : Int) : (ptsOf k).length ≤ 4 := by
  unfold ptsOf
  repeat' split
  all_goals simp
theorem str_pts (k : Int) : (strL (sOf k)).size = (ptsOf k).length := by rw [str_len]; simp [sOf]

/-- what Put holds between its parts -/
def PutI (i : Ins) (w : World) (q : Nat) (v : Value) (wr : World) : Prop :=
  Own wr (w.heap.size + 1) v (ownP i ((ptsOf i.k).take q)) ∧ InsAt wr w.heap.size i ∧ Below w.heap.size w wr
theorem puti_step {i : Ins} {w wr w' : World} {q : Nat} {v v' : Value} {p : Pt} (hp : (ptsOf i.k)[q]? = some p) (hI : PutI i w q v wr)
    (ho : Own w' (w.heap.size + 1) v' (ownP i ((ptsOf i.k).take q) ++ bytesP p i)) (hb : Below (w.heap.size + 1) wr w') : PutI i w (q + 1) v' w' := by
  refine ⟨?_, hI.2.1.below hb (by omega), hI.2.2.trans (hb.mono (by omega))⟩
  rw [take_snoc hp, ownP_snoc]
  exact ho
theorem puti_made {i : Ins} {w wr w' : World} {q : Nat} {v v' : Value} {p : Pt} {l : List UInt8} (hp : (ptsOf i.k)[q]? = some p) (hI : PutI i w q v wr)
    (hl : l = ownP i ((ptsOf i.k).take q) ++ bytesP p i) (ho : Own w' wr.heap.size v' l) (hb : Below wr.heap.size wr w') : PutI i w (q + 1) v' w' := by
  have := hI.2.1.lt
  subst hl
  exact puti_step hp hI (ho.base (by omega)) (hb.mono (by omega))
theorem puti_len {i : Ins} {w wr : World} {q : Nat} {v : Value} (_hI : PutI i w q v wr) : (ownP i ((ptsOf i.k).take q)).length ≤ 41 := by
  have h1 := ownP_len i ((ptsOf i.k).take q)
  have h2 := pts_len i.k
  have h3 : ((ptsOf i.k).take q).length ≤ (ptsOf i.k).length := by simp only [List.length_take]; omega
  omega
theorem pair_in {r s : Int} (h : 0 ≤ r ∧ r < 16 ∧ 0 ≤ s ∧ s < 16) (w : World) :
    Calls Try.prog 32 #[.int .i64 r, .int .i64 s] w fun e w' => e = .returned (.tuple #[.int .u8 (r * 16 + s), .bool true]) ∧ w = w' := by
  have h2 := refPair_any r s w
  have hb : pairB r s = true := by simp [pairB]; omega
  have hv : pairV r s = r * 16 + s := by simp [pairV, hb]
  rw [hv, hb] at h2
  exact h2

set_option maxRecDepth 100000 in
set_option maxHeartbeats 1000000 in
theorem refPut_any (i : Ins) (w : World) (hr : i.Rng) (hb : rightB i = true) (hR : ∀ w, Calls Try.prog 10 #[iv i] w fun e w' => e = .returned (.bool true) ∧ Below w.heap.size w w') :
    Calls Try.prog 14 #[.slice none 0 0, iv i] w (Made w (ownB i)) := by
  have hp := right_parts hb
  have HF := Lib.hid hp.2.1
  have HO := Lib.hid (show ownB i = ownP i (ptsOf i.k) by simp [ownB, ownP, hb])
  have HRG := Lib.hid hr
  have k0 := hr.k0
  have k1 := hr.k1
  have HB0 := Lib.hid (below_box w (.cells (ic i) 24))
  have HI0 := Lib.hid (show InsAt (w.alloc (.cells (ic i) 24)) w.heap.size i from heap_alloc_new w _)
  have HR := Lib.hid hR
  have HC := Lib.hid (copyBytes_any none 0 [] (w.alloc (.cells (ic i) 24)) (by simp) (Lies.empty _ _ _))
  have HP := Lib.hid (fun w => refParts_any i.k w k0 k1)
  have hl := str_pts i.k
  have h4 := pts_len i.k
  clear hr hb hR hp
  unfold iv ic at HR
  unfold PartsR3 at HP
  unfold ic at HI0 HB0 HC
  unfold iv ic
  go_enter Try.func14, Try.ntmps14
  go_wp2_with fail
  refine HC.out.mono ?_
  rintro e w1 ⟨v1, rfl, ho1, hb1⟩
  have hi1 := HI0.out.below hb1 (by simp)
  have HO1 := Lib.hid (show Own w1 (w.heap.size + 1) v1 [] from ho1.base (by simp))
  have HB1 := Lib.hid (HB0.out.trans (hb1.mono (by simp)))
  obtain ⟨⟨c0, c1, c2, c3, c4, c5, c6⟩, _⟩ := ins_cells hi1
  have HI1 := Lib.hid hi1
  clear hb1 hi1 ho1 HC HI0 HB0
  go_wp2_with fail
  refine (HR.out _).mono ?_
  rintro e w2 ⟨rfl, hb2⟩
  have HO2 := Lib.hid (HO1.out.below hb2)
  have HI2 := Lib.hid (HI1.out.below hb2 HI1.out.lt)
  have HB2 := Lib.hid (HB1.out.trans (hb2.mono (by have := HI1.out.lt; omega)))
  clear c0 c1 c2 c3 c4 c5 c6 HO1 HB1 HI1 hb2 HR
  obtain ⟨⟨c0, c1, c2, c3, c4, c5, c6⟩, _⟩ := ins_cells HI2.out
  have hz2 := HI2.out.lt
  have HE := Lib.hid (byte_u8 w2 i.k k0 k1)
  go_wp2_with (at_builtin; refine app_slice _ rfl (.tmp 17) (.tmp 20) rfl (w.heap.size + 1) v1 [] rfl (HO2.out.alloc _) (some ⟨w2.heap.size, 0, none⟩) 1 _ [UInt8.ofNat i.k.toNat] rfl (by simp) HE.out (by simp) (by simp; omega) ?_; intro v3 w3 ho3 hg3; have HO3 := Lib.hid ho3; have HB3 := Lib.hid (below_grown ((Below.refl (w.heap.size + 1) w2).alloc (by omega) _) hg3 (HO2.out.alloc _) (by simp; omega)); have hi3 := HI2.out.below HB3.out (by omega); obtain ⟨⟨d0, d1, d2, d3, d4, d5, d6⟩, _⟩ := ins_cells hi3; have HI3 := Lib.hid hi3; clear hi3 ho3 hg3 c0 c1 c2 c3 c4 c5 c6 HE)
  refine (HP.out _).mono ?_
  rintro e w4 ⟨rfl, hb4⟩
  have HI4 : Hid (PutI i w 0 v3 w4) := ⟨HO3.out.below hb4, HI3.out.below hb4 HI3.out.lt, (HB2.out.trans (HB3.out.mono (by omega))).trans (hb4.mono (by have := HI3.out.lt; omega))⟩
  clear d0 d1 d2 d3 d4 d5 d6 HO2 HI2 HB2 HO3 HI3 HB3 hb4 HP hz2
  go_wp2_with fail
  go_loopw [5, 8] (fun v j wr => ∃ q : Nat, q ≤ (ptsOf i.k).length ∧ j = .int .i64 q ∧ Hid (PutI i w q v wr)) (fun _ j _ => (ptsOf i.k).length - (intOf j).toNat)
  case atStart => exact ⟨0, by omega, rfl, HI4⟩
  case round =>
    obtain ⟨q, hq, rfl, hI⟩ := hrel
    by_cases hlt : q < (ptsOf i.k).length
    · obtain ⟨p, hp⟩ : ∃ p, (ptsOf i.k)[q]? = some p := ⟨_, List.getElem?_eq_getElem hlt⟩
      have hfit := HF.out p (List.mem_of_getElem? hp)
      have hix := index_ltr hp
      have hlen := puti_len hI.out
      have HIp := Lib.hid hp
      have ho := Lib.hid hI.out.1
      have hz := hI.out.2.1.lt
      obtain ⟨⟨c0, c1, c2, c3, c4, c5, c6⟩, _⟩ := ins_cells hI.out.2.1
      clear hp HI4
      cases p
      case op =>
        have HE := Lib.hid (byte_u8 wr i.o HRG.out.o0 HRG.out.o1)
        simp only [ltrZ] at hix
        clear hfit
        go_wp2_with (at_builtin; refine app_slice _ rfl (.tmp 39) (.tmp 42) rfl (w.heap.size + 1) _ _ rfl (ho.out.alloc _) (some ⟨wr.heap.size, 0, none⟩) 1 _ [UInt8.ofNat i.o.toNat] rfl (by simp) HE.out (by simp; omega) (by simp; omega) ?_; intro v3 w3 ho3 hg3; have HN := Lib.hid (puti_step HIp.out hI.out ho3 (below_grown ((Below.refl (w.heap.size + 1) wr).alloc (by omega) _) hg3 (ho.out.alloc _) (by simp; omega))); clear hg3 ho3)
        go_roundw
        case rel => exact ⟨q + 1, by omega, by go_num, HN⟩
        case measure => simp [intOf]; omega
      case reg =>
        have hf : 0 ≤ i.r ∧ i.r < 16 := of_decide_eq_true hfit
        have HE := Lib.hid (byte_u8 wr i.r (by omega) (by omega))
        simp only [ltrZ] at hix
        clear hfit
        go_wp2_with (at_builtin; refine app_slice _ rfl (.tmp 46) (.tmp 50) rfl (w.heap.size + 1) _ _ rfl (ho.out.alloc _) (some ⟨wr.heap.size, 0, none⟩) 1 _ [UInt8.ofNat i.r.toNat] rfl (by simp) HE.out (by simp; omega) (by simp; omega) ?_; intro v3 w3 ho3 hg3; have HN := Lib.hid (puti_step HIp.out hI.out ho3 (below_grown ((Below.refl (w.heap.size + 1) wr).alloc (by omega) _) hg3 (ho.out.alloc _) (by simp; omega))); clear hg3 ho3)
        go_roundw
        case rel => exact ⟨q + 1, by omega, by go_num, HN⟩
        case measure => simp [intOf]; omega
      case both =>
        have hf : (0 ≤ i.r ∧ i.r < 16) ∧ (0 ≤ i.s ∧ i.s < 16) := by simpa [fitsP, isR] using hfit
        have HE := Lib.hid (byte_u8 wr (i.r * 16 + i.s) (by omega) (by omega))
        have HPr := Lib.hid (pair_in (r := i.r) (s := i.s) (by omega))
        simp only [ltrZ] at hix
        clear hfit
        go_wp2_with (first
          | (go_at_call 32; refine (HPr.out _).mono ?_; rintro e w' ⟨rfl, rfl⟩)
          | (at_builtin; refine app_slice _ rfl (.tmp 62) (.tmp 64) rfl (w.heap.size + 1) _ _ rfl (ho.out.alloc _) (some ⟨wr.heap.size, 0, none⟩) 1 _ [UInt8.ofNat (i.r * 16 + i.s).toNat] rfl (by simp) HE.out (by simp; omega) (by simp; omega) ?_; intro v3 w3 ho3 hg3; have HN := Lib.hid (puti_step HIp.out hI.out ho3 (below_grown ((Below.refl (w.heap.size + 1) wr).alloc (by omega) _) hg3 (ho.out.alloc _) (by simp; omega))); clear hg3 ho3))
        go_roundw
        case rel => exact ⟨q + 1, by omega, by go_num, HN⟩
        case measure => simp [intOf]; omega
      case third =>
        have hf : 0 ≤ i.t ∧ i.t < 16 := of_decide_eq_true hfit
        have HE := Lib.hid (byte_u8 wr i.t (by omega) (by omega))
        simp only [ltrZ] at hix
        clear hfit
        go_wp2_with (at_builtin; refine app_slice _ rfl (.tmp 68) (.tmp 72) rfl (w.heap.size + 1) _ _ rfl (ho.out.alloc _) (some ⟨wr.heap.size, 0, none⟩) 1 _ [UInt8.ofNat i.t.toNat] rfl (by simp) HE.out (by simp; omega) (by simp; omega) ?_; intro v3 w3 ho3 hg3; have HN := Lib.hid (puti_step HIp.out hI.out ho3 (below_grown ((Below.refl (w.heap.size + 1) wr).alloc (by omega) _) hg3 (ho.out.alloc _) (by simp; omega))); clear hg3 ho3)
        go_roundw
        case rel => exact ⟨q + 1, by omega, by go_num, HN⟩
        case measure => simp [intOf]; omega
      case num =>
        simp only [ltrZ] at hix
        clear hfit
        obtain ⟨A, c, rfl, _, hc, hL⟩ := ho.out.form
        have HM := Lib.hid (refPutS_any A c _ i.n wr hc hL (by omega) HRG.out.n0 HRG.out.n1)
        clear hc hL
        go_wp2_with fail
        refine HM.out.mono ?_
        rintro e w5 ⟨v5, rfl, ho5, hb5⟩
        have HN := Lib.hid (puti_made HIp.out hI.out rfl ho5 hb5)
        clear ho5 hb5 HM c0 c1 c2 c3 c4 c5 c6
        go_wp2_with fail
        go_roundw
        case rel => exact ⟨q + 1, by omega, by go_num, HN⟩
        case measure => simp [intOf]; omega
      case many =>
        have hf : 1 ≤ i.m ∧ i.m ≤ 65536 := of_decide_eq_true hfit
        simp only [ltrZ] at hix
        clear hfit
        obtain ⟨A, c, rfl, _, hc, hL⟩ := ho.out.form
        have HM := Lib.hid (refPutU_any A c _ i.m wr hc hL (by omega) (by omega) (by omega))
        clear hc hL
        go_wp2_with fail
        refine HM.out.mono ?_
        rintro e w5 ⟨v5, rfl, ho5, hb5⟩
        have HN := Lib.hid (puti_made HIp.out hI.out rfl ho5 hb5)
        clear ho5 hb5 HM c0 c1 c2 c3 c4 c5 c6
        go_wp2_with fail
        go_roundw
        case rel => exact ⟨q + 1, by omega, by go_num, HN⟩
        case measure => simp [intOf]; omega
      case to =>
        have hf : 0 ≤ i.n ∧ i.n < 16777216 := of_decide_eq_true hfit
        simp only [ltrZ] at hix
        clear hfit
        obtain ⟨A, c, rfl, _, hc, hL⟩ := ho.out.form
        have HM := Lib.hid (refPutPlace_any A c _ i.n wr hc hL (by omega))
        have HL := Lib.hid (show ppL (ownP i ((ptsOf i.k).take q)) i.n = ownP i ((ptsOf i.k).take q) ++ bytesP .to i by simp only [ppL, if_pos hf, bytesP])
        clear hc hL
        go_wp2_with fail
        refine HM.out.mono ?_
        rintro e w5 ⟨v5, rfl, ho5, hb5⟩
        have HN := Lib.hid (puti_made HIp.out hI.out HL.out ho5 hb5)
        clear ho5 hb5 HM HL c0 c1 c2 c3 c4 c5 c6
        go_wp2_with fail
        go_roundw
        case rel => exact ⟨q + 1, by omega, by go_num, HN⟩
        case measure => simp [intOf]; omega
      case how =>
        have hf : 2 ≤ i.n ∧ i.n ≤ 4 := of_decide_eq_true hfit
        have HE := Lib.hid (byte_u8 wr i.n (by omega) (by omega))
        simp only [ltrZ] at hix
        clear hfit
        go_wp2_with (at_builtin; refine app_slice _ rfl (.tmp 98) (.tmp 102) rfl (w.heap.size + 1) _ _ rfl (ho.out.alloc _) (some ⟨wr.heap.size, 0, none⟩) 1 _ [UInt8.ofNat i.n.toNat] rfl (by simp) HE.out (by simp; omega) (by simp; omega) ?_; intro v3 w3 ho3 hg3; have HN := Lib.hid (puti_step HIp.out hI.out ho3 (below_grown ((Below.refl (w.heap.size + 1) wr).alloc (by omega) _) hg3 (ho.out.alloc _) (by simp; omega))); clear hg3 ho3)
        go_roundw
        case rel => exact ⟨q + 1, by omega, by go_num, HN⟩
        case measure => simp [intOf]; omega
    · have hI' := Lib.hid hI.out.1
      have hB' := Lib.hid hI.out.2.2
      rw [List.take_of_length_le (by omega)] at hI'
      clear hI HI4
      go_wp2_with fail
      go_ret
      exact ⟨_, rfl, by rw [HO.out]; exact hI'.out.base (by omega), hB'.out⟩

end Go.Proofs.Ytnffiaphpcopjaa
