/-
  Merged for a claim: S1L.
-/
import Derived.Test.YtcgohlooelojfaaHJ14
namespace Go.Proofs.Ytcgohlooelojfaa
open Go Go.RowKit

def TrueR12 (w : World) (e : Ending) (w' : World) : Prop := e = .returned (.bool true) ∧ Below w.heap.size w w'
theorem El.Lies.take {α : Type} {K : El α} {w : World} {B : Nat} {A : Option Addr} {l : List α} (h : K.Lies w B A l) (k : Nat) : K.Lies w B A (l.take k) := fun hl => by
  have h0 : 0 < l.length := by rw [List.length_take] at hl; omega
  obtain ⟨g, o, e, hg, hc⟩ := h h0
  refine ⟨g, o, e, hg, fun j hj f u hu => hc j (by rw [List.length_take] at hj; omega) f u ?_⟩
  rw [List.getElem_take] at hu
  exact hu
/-- Parse, its answer in plain words -/
theorem parseN {w : World} (A : Option Addr) (n c : Nat) (l : List To) (hn : l.length = n) (hT : eTo.Lies w w.heap.size A l) (hl : n ≤ 1000000) :
    Calls Try.prog 9 #[.slice A n c] w (fun e w' => Below w.heap.size w w' ∧ ∃ A1 n1 c1 A2 n2 c2, e = .returned (.tuple #[.agg #[.slice A1 n1 c1, .slice A2 n2 c2], .int .i64 (parP l).2.1, .int .i64 (parP l).2.2])) := by
  subst hn
  refine (parse_any A c l hT hl).mono ?_
  rintro e w' ⟨m, rfl, _, _, hb⟩
  exact ⟨hb, m.A1, m.ss.length, m.c1, m.A2, m.fs.length, m.c2, rfl⟩
theorem two_obj (w : World) (o : Obj) (w1 w2 : World) (h : Below w.heap.size w w1) (h2 : Below w1.heap.size w1 w2) : Below w.heap.size w (w2.alloc o) := h.trans ((h2.trans ((below_lnew w2 o).mono h2.size)).mono h.size)
set_option maxRecDepth 100000 in
set_option maxHeartbeats 8000000 in
theorem stops_any (A : Option Addr) (c : Nat) (l : List To) (A2 : Option Addr) (c2 : Nat) (b : List To) (cut : Int) (w : World) (hc : l.length ≤ c) (hcA : A = none → c = 0) (hl : eTo.Lies w w.heap.size A l) (hc2 : A2 = none → c2 = 0) (hb : eTo.Lies w w.heap.size A2 b) (h0 : 0 ≤ cut) (h1 : cut ≤ 65535) :
    Calls Try.prog 6 #[.slice A l.length c, .slice A2 b.length c2, .int .u16 cut] w (TrueR12 w) := by
  by_cases hbig : 2000 < l.length
  · have hbi : (2000 : Int) < (l.length : Int) := by omega
    go_enter Try.func6, Try.ntmps6
    go_wp2_with fail
    refine (works_any _).mono ?_
    rintro e w1 ⟨rfl, hb1⟩
    go_wp2_with fail
    go_ret
    exact ⟨rfl, hb1⟩
  have hbi : ¬ (2000 : Int) < (l.length : Int) := by omega
  by_cases hbig2 : 1000 < b.length
  · have hbi2 : (1000 : Int) < (b.length : Int) := by omega
    go_enter Try.func6, Try.ntmps6
    go_wp2_with fail
    refine (works_any _).mono ?_
    rintro e w1 ⟨rfl, hb1⟩
    go_wp2_with fail
    go_ret
    exact ⟨rfl, hb1⟩
  have hbi2 : ¬ (1000 : Int) < (b.length : Int) := by omega
  have HL := Lib.hid hl
  have HB := Lib.hid hb
  have HC2 := Lib.hid hc2
  obtain ⟨n, hn⟩ : ∃ n, l.length = n := ⟨_, rfl⟩
  obtain ⟨nb, hnb⟩ : ∃ n, b.length = n := ⟨_, rfl⟩
  rw [hn] at hbi hbig hc ⊢
  rw [hnb] at hbi2 hbig2 ⊢
  have HN := Lib.hid hn
  have HNB := Lib.hid hnb
  have HP := Lib.hid (parseN A n c l hn hl (by omega))
  have HS := Lib.hid (par_stops l)
  have HCA := Lib.hid hcA
  clear hl hb hc2 hn hnb hcA
  go_enter Try.func6, Try.ntmps6
  go_wp2_with fail
  refine HP.out.mono ?_
  rintro e w1 ⟨hb1, a1, n1, x1, a2, n2, x2, rfl⟩
  have HB1 := Lib.hid hb1
  clear hb1 HP
  rcases HS.out with ⟨h7, k, hk, hkn, hta, hlt⟩ | ⟨hz, he, hta⟩
  · rw [h7, hk]
    rw [HN.out] at hkn
    have HLT := Lib.hid hlt
    have HTA := Lib.hid hta
    clear hlt hta h7 hk HS
    have hk0 : ¬ (k : Int) < 0 := by omega
    have hkl : ¬ (n : Int) < (k : Int) := by omega
    have hkc : (k : Int) ≤ (c : Int) := by omega
    have hk00 : (0 : Int) ≤ (k : Int) := by omega
    go_wp2_with fail
    have HB1A := Lib.hid (show ∀ o : Obj, Below w.heap.size w (w1.alloc o) from fun o => HB1.out.trans ((below_lnew w1 o).mono HB1.out.size))
    refine (parseN A k c (l.take k) (by rw [List.length_take, HN.out]; omega) (((HL.out.below (HB1A.out _)).more (HB1A.out _).size).take k) (by omega)).mono ?_
    rintro e w2 ⟨hb2, a3, n3, x3, a4, n4, x4, rfl⟩
    have HB2 := Lib.hid ((HB1A.out _).trans (hb2.mono (HB1A.out _).size))
    clear hb2
    generalize (parP (l.take k)).2.1 = at2 at *
    generalize (parP (l.take k)).2.2 = er2 at *
    by_cases h72 : er2 = 7
    · obtain rfl := HTA.out h72
      subst h72
      have HB2A := Lib.hid (show ∀ o : Obj, Below w.heap.size w (w2.alloc o) from fun o => HB2.out.trans ((below_lnew w2 o).mono HB2.out.size))
      by_cases hkn2 : k < n
      · have hki : (k : Int) < (n : Int) := by omega
        have HR := Lib.hid (HLT.out (by rw [HN.out]; exact hkn2) b)
        have hsz : (w2.alloc (.cells #[.slice a3 n3 x3, .slice a4 n4 x4] 27)).heap.size = w2.heap.size + 1 := by simp
        have ho0 := El.own_empty eTo (w2.alloc (.cells #[.slice a3 n3 x3, .slice a4 n4 x4] 27))
        rw [hsz] at ho0
        have HO0 := Lib.hid ho0
        have HSZ := Lib.hid (show w.heap.size ≤ w2.heap.size + 1 from Nat.le_succ_of_le HB2.out.size)
        clear ho0 hsz
        have HB2B := Lib.hid (show Below w.heap.size w ((w2.alloc (.cells #[.slice a3 n3 x3, .slice a4 n4 x4] 27)).alloc (.cells #[] eTo.e)) from (HB2A.out _).trans ((below_lnew _ _).mono (HB2A.out _).size))
        have hyl : Value.slice A (k + 1) c = .slice A (l.take (k + 1)).length c := by rw [List.length_take, HN.out, Nat.min_eq_left (by omega)]
        have hyb : Value.slice A2 nb c2 = .slice A2 b.length c2 := by rw [HNB.out]
        have HYL := Lib.hid hyl
        have HYB := Lib.hid hyb
        have hk1c : (k : Int) + 1 ≤ (c : Int) := by omega
        have hk10 : (0 : Int) ≤ (k : Int) + 1 := by omega
        clear hyl hyb HLT HTA
        go_wp2_with (first
          | (at_builtin
             refine El.apps eTo _ rfl 22 _ _ Try.underlying22 tok_info rfl (by decide) (.tmp 65) (.tmp 69) rfl (w2.heap.size + 1) _ [] rfl HO0.out A c _ (l.take (k + 1)) ((show _ = Value.slice A (k + 1) c from rfl).trans HYL.out) HCA.out (((HL.out.below HB2B.out).more HB2B.out.size).take (k + 1)) (by rw [List.length_take]; simp; omega) (by rw [List.length_take]; simp [eTo]; omega) (by simp) ?_
             intro v3 w3 ho3 hg3
             have HO3 := Lib.hid ho3
             have HB3 := Lib.hid (HB2B.out.trans ((El.below_grown (Below.refl _ _) hg3 HO0.out (by simp)).mono HSZ.out))
             obtain ⟨A3, m3, c3, rfl, hm3, _, _, _⟩ := ho3.formN
             have HBS := Lib.hid (show Below (w2.heap.size + 1) ((w2.alloc (.cells #[.slice a3 n3 x3, .slice a4 n4 x4] 27)).alloc (.cells #[] eTo.e)) w3 from El.below_grown (Below.refl _ _) hg3 HO0.out (by simp))
             clear ho3 hg3)
          | (at_builtin
             refine El.apps eTo _ rfl 22 _ _ Try.underlying22 tok_info rfl (by decide) (.tmp 70) (.tmp 71) rfl (w2.heap.size + 1) _ ([] ++ l.take (k + 1)) rfl HO3.out A2 c2 _ b ((show _ = Value.slice A2 nb c2 from rfl).trans HYB.out) HC2.out ((HB.out.below HB3.out).more HB3.out.size) (by rw [List.nil_append, List.length_take, HNB.out]; omega) (by rw [List.nil_append, List.length_take, HNB.out]; simp [eTo]; omega) (Nat.le_trans (by simp) HBS.out.size) ?_
             intro v4 w4 ho4 hg4
             have HO4 := Lib.hid ho4
             have HB4 := Lib.hid (HB3.out.trans ((El.below_grown (Below.refl _ _) hg4 HO3.out (Nat.le_trans (by simp) HBS.out.size)).mono HSZ.out))
             obtain ⟨A4, m4, c4, rfl, hm4, _, _, ht4⟩ := ho4.formN
             have HT4 := Lib.hid ht4
             clear ho4 hg4 ht4))
        refine (parseN A4 m4 c4 ([] ++ l.take (k + 1) ++ b) hm4.out HT4.out.lies (by rw [← hm4.out, List.length_append, List.nil_append, List.length_take, HNB.out]; omega)).mono ?_
        rintro e w5 ⟨hb5, a5, n5, x5, a6, n6, x6, rfl⟩
        rw [List.nil_append, HR.out.1, HR.out.2]
        have HB5 := Lib.hid (two_obj w (.cells #[.slice a5 n5 x5, .slice a6 n6 x6] 27) w4 w5 HB4.out hb5)
        clear hb5
        go_wp2_with fail
        refine (works_any _).mono ?_
        rintro e w9 ⟨rfl, hb9⟩
        have HB9 := Lib.hid (HB5.out.trans (hb9.mono HB5.out.size))
        clear hb9
        go_wp2_with fail
        go_ret
        exact ⟨rfl, HB9.out⟩
      · have hki : ¬ (k : Int) < (n : Int) := by omega
        go_wp2_with fail
        refine (works_any _).mono ?_
        rintro e w9 ⟨rfl, hb9⟩
        have HB9 := Lib.hid ((HB2A.out _).trans (hb9.mono (HB2A.out _).size))
        clear hb9
        go_wp2_with fail
        go_ret
        exact ⟨rfl, HB9.out⟩
    · have h7i : (er2 == 7) = false := beq_eq_false_iff_ne.2 h72
      have HB2A := Lib.hid (show ∀ o : Obj, Below w.heap.size w (w2.alloc o) from fun o => HB2.out.trans ((below_lnew w2 o).mono HB2.out.size))
      by_cases hkn2 : k < n
      · have hki : (k : Int) < (n : Int) := by omega
        have HR := Lib.hid (HLT.out (by rw [HN.out]; exact hkn2) b)
        have hsz : (w2.alloc (.cells #[.slice a3 n3 x3, .slice a4 n4 x4] 27)).heap.size = w2.heap.size + 1 := by simp
        have ho0 := El.own_empty eTo (w2.alloc (.cells #[.slice a3 n3 x3, .slice a4 n4 x4] 27))
        rw [hsz] at ho0
        have HO0 := Lib.hid ho0
        have HSZ := Lib.hid (show w.heap.size ≤ w2.heap.size + 1 from Nat.le_succ_of_le HB2.out.size)
        clear ho0 hsz
        have HB2B := Lib.hid (show Below w.heap.size w ((w2.alloc (.cells #[.slice a3 n3 x3, .slice a4 n4 x4] 27)).alloc (.cells #[] eTo.e)) from (HB2A.out _).trans ((below_lnew _ _).mono (HB2A.out _).size))
        have hyl : Value.slice A (k + 1) c = .slice A (l.take (k + 1)).length c := by rw [List.length_take, HN.out, Nat.min_eq_left (by omega)]
        have hyb : Value.slice A2 nb c2 = .slice A2 b.length c2 := by rw [HNB.out]
        have HYL := Lib.hid hyl
        have HYB := Lib.hid hyb
        have hk1c : (k : Int) + 1 ≤ (c : Int) := by omega
        have hk10 : (0 : Int) ≤ (k : Int) + 1 := by omega
        clear hyl hyb HLT HTA
        go_wp2_with (first
          | (at_builtin
             refine El.apps eTo _ rfl 22 _ _ Try.underlying22 tok_info rfl (by decide) (.tmp 65) (.tmp 69) rfl (w2.heap.size + 1) _ [] rfl HO0.out A c _ (l.take (k + 1)) ((show _ = Value.slice A (k + 1) c from rfl).trans HYL.out) HCA.out (((HL.out.below HB2B.out).more HB2B.out.size).take (k + 1)) (by rw [List.length_take]; simp; omega) (by rw [List.length_take]; simp [eTo]; omega) (by simp) ?_
             intro v3 w3 ho3 hg3
             have HO3 := Lib.hid ho3
             have HB3 := Lib.hid (HB2B.out.trans ((El.below_grown (Below.refl _ _) hg3 HO0.out (by simp)).mono HSZ.out))
             obtain ⟨A3, m3, c3, rfl, hm3, _, _, _⟩ := ho3.formN
             have HBS := Lib.hid (show Below (w2.heap.size + 1) ((w2.alloc (.cells #[.slice a3 n3 x3, .slice a4 n4 x4] 27)).alloc (.cells #[] eTo.e)) w3 from El.below_grown (Below.refl _ _) hg3 HO0.out (by simp))
             clear ho3 hg3)
          | (at_builtin
             refine El.apps eTo _ rfl 22 _ _ Try.underlying22 tok_info rfl (by decide) (.tmp 70) (.tmp 71) rfl (w2.heap.size + 1) _ ([] ++ l.take (k + 1)) rfl HO3.out A2 c2 _ b ((show _ = Value.slice A2 nb c2 from rfl).trans HYB.out) HC2.out ((HB.out.below HB3.out).more HB3.out.size) (by rw [List.nil_append, List.length_take, HNB.out]; omega) (by rw [List.nil_append, List.length_take, HNB.out]; simp [eTo]; omega) (Nat.le_trans (by simp) HBS.out.size) ?_
             intro v4 w4 ho4 hg4
             have HO4 := Lib.hid ho4
             have HB4 := Lib.hid (HB3.out.trans ((El.below_grown (Below.refl _ _) hg4 HO3.out (Nat.le_trans (by simp) HBS.out.size)).mono HSZ.out))
             obtain ⟨A4, m4, c4, rfl, hm4, _, _, ht4⟩ := ho4.formN
             have HT4 := Lib.hid ht4
             clear ho4 hg4 ht4))
        refine (parseN A4 m4 c4 ([] ++ l.take (k + 1) ++ b) hm4.out HT4.out.lies (by rw [← hm4.out, List.length_append, List.nil_append, List.length_take, HNB.out]; omega)).mono ?_
        rintro e w5 ⟨hb5, a5, n5, x5, a6, n6, x6, rfl⟩
        rw [List.nil_append, HR.out.1, HR.out.2]
        have HB5 := Lib.hid (two_obj w (.cells #[.slice a5 n5 x5, .slice a6 n6 x6] 27) w4 w5 HB4.out hb5)
        clear hb5
        go_wp2_with fail
        refine (works_any _).mono ?_
        rintro e w9 ⟨rfl, hb9⟩
        have HB9 := Lib.hid (HB5.out.trans (hb9.mono HB5.out.size))
        clear hb9
        go_wp2_with fail
        go_ret
        exact ⟨rfl, HB9.out⟩
      · have hki : ¬ (k : Int) < (n : Int) := by omega
        go_wp2_with fail
        refine (works_any _).mono ?_
        rintro e w9 ⟨rfl, hb9⟩
        have HB9 := Lib.hid ((HB2A.out _).trans (hb9.mono (HB2A.out _).size))
        clear hb9
        go_wp2_with fail
        go_ret
        exact ⟨rfl, HB9.out⟩
  · rw [hz]
    have HTA := Lib.hid hta
    have HE := Lib.hid he
    clear hta hz he HS
    obtain ⟨kn, hkn⟩ : ∃ kn : Nat, (kn : Int) = cut.tmod ((n : Int) + 1) := ⟨(cut.tmod ((n : Int) + 1)).toNat, by rw [Int.toNat_of_nonneg (Int.tmod_nonneg _ h0)]⟩
    have hklt : kn ≤ n := by
      have := Int.tmod_lt_of_pos cut (show (0 : Int) < (n : Int) + 1 by omega)
      omega
    have hkc : (kn : Int) ≤ (c : Int) := by omega
    have hk00 : (0 : Int) ≤ (kn : Int) := by omega
    have hnp : ¬ (n : Int) + 1 = 0 := by omega
    generalize (parP l).2.2 = er at *
    have HB1A := Lib.hid (show ∀ o : Obj, Below w.heap.size w (w1.alloc o) from fun o => HB1.out.trans ((below_lnew w1 o).mono HB1.out.size))
    rcases HE.out with h | h
    · subst h
      have hkw : cut.tmod ((n : Int) + 1) = (kn : Int) := hkn.symm
      clear hkn
      go_wp2_with fail
      refine (parseN A kn c (l.take kn) (by rw [List.length_take, HN.out]; omega) (((HL.out.below (HB1A.out _)).more (HB1A.out _).size).take kn) (by omega)).mono ?_
      rintro e w2 ⟨hb2, a3, n3, x3, a4, n4, x4, rfl⟩
      have HB2 := Lib.hid (two_obj w (.cells #[.slice a3 n3 x3, .slice a4 n4 x4] 27) _ w2 (HB1A.out _) hb2)
      have HT := Lib.hid (HTA.out kn (by rw [HN.out]; exact hklt))
      clear hb2 HTA
      generalize (parP (l.take kn)).2.1 = at2 at *
      generalize (parP (l.take kn)).2.2 = er2 at *
      by_cases h72 : er2 = 7
      · obtain rfl := HT.out h72
        subst h72
        go_wp2_with fail
        refine (works_any _).mono ?_
        rintro e w9 ⟨rfl, hb9⟩
        have HB9 := Lib.hid (HB2.out.trans (hb9.mono HB2.out.size))
        clear hb9
        go_wp2_with fail
        go_ret
        exact ⟨rfl, HB9.out⟩
      · have h7i : (er2 == 7) = false := beq_eq_false_iff_ne.2 h72
        have h7n : (er2 != 7) = true := bne_iff_ne.2 h72
        go_wp2_with fail
        refine (works_any _).mono ?_
        rintro e w9 ⟨rfl, hb9⟩
        have HB9 := Lib.hid (HB2.out.trans (hb9.mono HB2.out.size))
        clear hb9
        go_wp2_with fail
        go_ret
        exact ⟨rfl, HB9.out⟩
    · subst h
      have hkw : cut.tmod ((n : Int) + 1) = (kn : Int) := hkn.symm
      clear hkn
      go_wp2_with fail
      refine (parseN A kn c (l.take kn) (by rw [List.length_take, HN.out]; omega) (((HL.out.below (HB1A.out _)).more (HB1A.out _).size).take kn) (by omega)).mono ?_
      rintro e w2 ⟨hb2, a3, n3, x3, a4, n4, x4, rfl⟩
      have HB2 := Lib.hid (two_obj w (.cells #[.slice a3 n3 x3, .slice a4 n4 x4] 27) _ w2 (HB1A.out _) hb2)
      have HT := Lib.hid (HTA.out kn (by rw [HN.out]; exact hklt))
      clear hb2 HTA
      generalize (parP (l.take kn)).2.1 = at2 at *
      generalize (parP (l.take kn)).2.2 = er2 at *
      by_cases h72 : er2 = 7
      · obtain rfl := HT.out h72
        subst h72
        go_wp2_with fail
        refine (works_any _).mono ?_
        rintro e w9 ⟨rfl, hb9⟩
        have HB9 := Lib.hid (HB2.out.trans (hb9.mono HB2.out.size))
        clear hb9
        go_wp2_with fail
        go_ret
        exact ⟨rfl, HB9.out⟩
      · have h7i : (er2 == 7) = false := beq_eq_false_iff_ne.2 h72
        have h7n : (er2 != 7) = true := bne_iff_ne.2 h72
        go_wp2_with fail
        refine (works_any _).mono ?_
        rintro e w9 ⟨rfl, hb9⟩
        have HB9 := Lib.hid (HB2.out.trans (hb9.mono HB2.out.size))
        clear hb9
        go_wp2_with fail
        go_ret
        exact ⟨rfl, HB9.out⟩
end Go.Proofs.Ytcgohlooelojfaa
