/-
  Merged for a claim: S1Q.
-/
import Derived.Test.YtcgohlooelojfaaJJ14
import Derived.Deep.CutRange
namespace Go.Proofs.Ytcgohlooelojfaa
open Go Go.RowKit

theorem par_err (l : List To) : (parP l).2.2 = 0 ∨ (parP l).2.2 = 7 ∨ (parP l).2.2 = 11 := by
  rcases par_stops l with ⟨h, _⟩ | ⟨_, h | h, _⟩
  · exact .inr (.inl h)
  · exact .inl h
  · exact .inr (.inr h)
theorem par_at (l : List To) (hl : l.length ≤ 3000) : 0 ≤ (parP l).2.1 ∧ (parP l).2.1 ≤ 3000 := by
  rcases par_stops l with ⟨_, k, h, hk, _⟩ | ⟨h, _⟩ <;> rw [h] <;> omega
theorem par_few (l : List To) (hl : l.length ≤ mostT) : (parP l).1.few := by
  rcases proP_cases l with ⟨u, h, _⟩ | ⟨x, h⟩
  · rw [parP_bad h]
    exact ⟨by simp, fun _ q => absurd q (by simp), fun _ q => absurd q (by simp)⟩
  · rw [parP_ok h]
    split
    · exact ⟨by simp, fun _ q => absurd q (by simp), fun _ q => absurd q (by simp)⟩
    · exact proP_few hl h
set_option maxRecDepth 100000 in
set_option maxHeartbeats 4000000 in
theorem joins_any (A : Option Addr) (c : Nat) (a : List To) (B : Option Addr) (d : Nat) (b : List To) (w : World) (hcA : A = none → c = 0) (hcB : B = none → d = 0) (hla : eTo.Lies w w.heap.size A a) (hlb : eTo.Lies w w.heap.size B b) (hs1 : a.length ≤ 140737488355328) (hs2 : b.length ≤ 140737488355328) :
    Calls Try.prog 7 #[.slice A a.length c, .slice B b.length d] w (TrueR12 w) := by
  have hw64 : wrap64 ((a.length : Int) + (b.length : Int)) = (a.length : Int) + (b.length : Int) := by unfold wrap64; omega
  by_cases hbig : 3000 < a.length + b.length
  · have hbi : (3000 : Int) < (a.length : Int) + (b.length : Int) := by omega
    go_enter Try.func7, Try.ntmps7
    go_wp2_with fail
    refine (works_any _).mono ?_
    rintro e w1 ⟨rfl, hb1⟩
    go_wp2_with fail
    go_ret
    exact ⟨rfl, hb1⟩
  have hbi : ¬ (3000 : Int) < (a.length : Int) + (b.length : Int) := by omega
  have HLA := Lib.hid hla
  have HLB := Lib.hid hlb
  have HCA := Lib.hid hcA
  have HCB := Lib.hid hcB
  have HJ0 := Lib.hid (par_joins a b)
  have HP1 := Lib.hid (parse_any A c a hla (by omega))
  obtain ⟨na, hna⟩ : ∃ n, a.length = n := ⟨_, rfl⟩
  obtain ⟨nb, hnb⟩ : ∃ n, b.length = n := ⟨_, rfl⟩
  rw [hna, hnb] at hbi hw64 ⊢
  rw [hna, hnb] at hbig
  rw [hna] at HP1
  have HNA := Lib.hid hna
  have HNB := Lib.hid hnb
  clear hla hlb hcA hcB hna hnb hs1 hs2
  go_enter Try.func7, Try.ntmps7
  go_wp2_with fail
  refine HP1.out.mono ?_
  rintro e w1 ⟨⟨A1, c1, s1, A2, c2, f1⟩, rfl, hd1, ho1, hb1⟩
  have HB1 := Lib.hid (hb1.trans ((below_lnew w1 (.cells #[.slice A1 s1.length c1, .slice A2 f1.length c2] 27)).mono hb1.size))
  have HO1 := Lib.hid (show PgM.Ok (w1.alloc (.cells #[.slice A1 s1.length c1, .slice A2 f1.length c2] 27)) (fun _ => True) ⟨A1, c1, s1, A2, c2, f1⟩ from ho1.keep (fun g _ _ ht _ => (below_lnew w1 _).block g ht.lt) (fun _ _ => trivial))
  have HC1 := Lib.hid (show CAt (w1.alloc (.cells #[.slice A1 s1.length c1, .slice A2 f1.length c2] 27)) w1.heap.size 27 _ from heap_alloc_new w1 _)
  have HD1 := Lib.hid hd1
  clear hb1 ho1 hd1 HP1
  unfold PgM.cs
  dsimp only
  go_upto_region 4 with fail
  obtain ⟨g5, hg5⟩ : ∃ g, w1.heap.size = g := ⟨_, rfl⟩
  obtain ⟨w2, hw2⟩ : ∃ g, w1.alloc (.cells #[.slice A1 s1.length c1, .slice A2 f1.length c2] 27) = g := ⟨_, rfl⟩
  rw [hg5] at HC1 ⊢
  rw [hw2] at HB1 HO1 HC1 ⊢
  clear hg5 hw2
  have HP2 := Lib.hid (parse_any B d b ((HLB.out.below HB1.out).more HB1.out.size) (by rw [HNB.out]; omega))
  rw [HNB.out] at HP2
  go_wp2_with fail
  refine HP2.out.mono ?_
  rintro e w3 ⟨⟨B1, d1, s2, B2, d2, f2⟩, rfl, hd2, ho2, hb2⟩
  have hbb := hb2.trans ((below_lnew w3 (.cells #[.slice B1 s2.length d1, .slice B2 f2.length d2] 27)).mono hb2.size)
  have HB2 := Lib.hid (HB1.out.trans (hbb.mono HB1.out.size))
  have HO1' := Lib.hid (HO1.out.keep (Q := fun _ => True) (fun g _ _ ht _ => hbb.block g ht.lt) (fun _ _ => trivial))
  have HC1' := Lib.hid (HC1.out.below hbb HC1.out.lt)
  have HO2 := Lib.hid (show PgM.Ok (w3.alloc (.cells #[.slice B1 s2.length d1, .slice B2 f2.length d2] 27)) (fun _ => True) ⟨B1, d1, s2, B2, d2, f2⟩ from ho2.keep (fun g _ _ ht _ => (below_lnew w3 _).block g ht.lt) (fun _ _ => trivial))
  have HC2 := Lib.hid (show CAt (w3.alloc (.cells #[.slice B1 s2.length d1, .slice B2 f2.length d2] 27)) w3.heap.size 27 _ from heap_alloc_new w3 _)
  have HD2 := Lib.hid hd2
  clear hb2 ho2 hd2 HP2 hbb HO1 HC1 HB1
  unfold PgM.cs
  dsimp only
  go_upto_region 5 with fail
  obtain ⟨g8, hg8⟩ : ∃ g, w3.heap.size = g := ⟨_, rfl⟩
  obtain ⟨w4, hw4⟩ : ∃ g, w3.alloc (.cells #[.slice B1 s2.length d1, .slice B2 f2.length d2] 27) = g := ⟨_, rfl⟩
  rw [hg8] at HC2 ⊢
  rw [hw4] at HB2 HO1' HC1' HO2 HC2 ⊢
  clear hg8 hw4
  have HE0 := Lib.hid (El.own_empty eTo w4)
  have HB2B := Lib.hid (show Below w4.heap.size w4 (w4.alloc (.cells #[] eTo.e)) from below_lnew w4 _)
  have hya : Value.slice A na c = .slice A a.length c := by rw [HNA.out]
  have hyb : Value.slice B nb d = .slice B b.length d := by rw [HNB.out]
  have HYA := Lib.hid hya
  have HYB := Lib.hid hyb
  clear hya hyb
  go_wp2_with (first
    | (at_builtin
       refine El.apps eTo _ rfl 22 _ _ Try.underlying22 tok_info rfl (by decide) (.tmp 35) (.tmp 36) rfl w4.heap.size _ [] rfl HE0.out A c _ a ((show _ = Value.slice A na c from rfl).trans HYA.out) HCA.out (((HLA.out.below HB2.out).more HB2.out.size).below HB2B.out) (by rw [HNA.out]; simp; omega) (by rw [HNA.out]; simp [eTo]; omega) (by simp) ?_
       intro v5 w5 ho5 hg5
       have HO5 := Lib.hid ho5
       have HB5 := Lib.hid (show Below w4.heap.size w4 w5 from HB2B.out.trans ((El.below_grown (Below.refl _ _) hg5 HE0.out (by simp))))
       obtain ⟨A5, m5, c5, rfl, hm5, _, _, _⟩ := ho5.formN
       clear ho5 hg5)
    | (at_builtin
       refine El.apps eTo _ rfl 22 _ _ Try.underlying22 tok_info rfl (by decide) (.tmp 37) (.tmp 38) rfl w4.heap.size _ ([] ++ a) rfl HO5.out B d _ b ((show _ = Value.slice B nb d from rfl).trans HYB.out) HCB.out (((HLB.out.below HB2.out).more HB2.out.size).below HB5.out) (by rw [List.nil_append, HNA.out, HNB.out]; omega) (by rw [List.nil_append, HNA.out, HNB.out]; simp [eTo]; omega) HB5.out.size ?_
       intro v6 w6 ho6 hg6
       have HB6 := Lib.hid (show Below w4.heap.size w4 w6 from HB5.out.trans (El.below_grown (Below.refl _ _) hg6 HO5.out HB5.out.size))
       obtain ⟨A6, m6, c6, rfl, hm6, _, _, ht6⟩ := ho6.formN
       have HT6 := Lib.hid ht6
       clear ho6 hg6 ht6))
  have hp3 := parse_any A6 c6 ([] ++ a ++ b) HT6.out.lies (by rw [List.nil_append, List.length_append, HNA.out, HNB.out]; omega)
  rw [hm6.out, List.nil_append] at hp3
  have HP3 := Lib.hid hp3
  clear hp3
  refine HP3.out.mono ?_
  rintro e w7 ⟨⟨E1, e1, s3, E2, e2, f3⟩, rfl, hd3, ho3, hb3⟩
  have hbb := (HB6.out.trans (hb3.mono HB6.out.size)).trans ((below_lnew w7 (.cells #[.slice E1 s3.length e1, .slice E2 f3.length e2] 27)).mono (HB6.out.trans (hb3.mono HB6.out.size)).size)
  have HBE := Lib.hid (HB2.out.trans (hbb.mono HB2.out.size))
  have HX1 := Lib.hid (HO1'.out.keep (Q := fun _ => True) (fun g _ _ ht _ => hbb.block g ht.lt) (fun _ _ => trivial))
  have HX2 := Lib.hid (HO2.out.keep (Q := fun _ => True) (fun g _ _ ht _ => hbb.block g ht.lt) (fun _ _ => trivial))
  have HQ1 := Lib.hid (HC1'.out.below hbb HC1'.out.lt)
  have HQ2 := Lib.hid (HC2.out.below hbb HC2.out.lt)
  have HX3 := Lib.hid (show PgM.Ok (w7.alloc (.cells #[.slice E1 s3.length e1, .slice E2 f3.length e2] 27)) (fun _ => True) ⟨E1, e1, s3, E2, e2, f3⟩ from ho3.keep (fun g _ _ ht _ => (below_lnew w7 _).block g ht.lt) (fun _ _ => trivial))
  have HQ3 := Lib.hid (show CAt (w7.alloc (.cells #[.slice E1 s3.length e1, .slice E2 f3.length e2] 27)) w7.heap.size 27 _ from heap_alloc_new w7 _)
  have HD3 := Lib.hid hd3
  clear hb3 ho3 hd3 hbb HP3 HO1' HO2 HC1' HC2 HB2 HB5 HB6 HE0 HB2B HO5 HYA HYB HT6
  unfold PgM.cs
  dsimp only
  go_upto_region 6 with fail
  obtain ⟨g11, hg11⟩ : ∃ g, w7.heap.size = g := ⟨_, rfl⟩
  obtain ⟨W0, hW0⟩ : ∃ g, w7.alloc (.cells #[.slice E1 s3.length e1, .slice E2 f3.length e2] 27) = g := ⟨_, rfl⟩
  rw [hg11] at HQ3 ⊢
  rw [hW0] at HBE HX1 HX2 HX3 HQ1 HQ2 HQ3 ⊢
  clear hg11 hW0
  have HPA := Lib.hid (par_at b (by rw [HNB.out]; omega))
  have HE2 := Lib.hid (par_err b)
  rcases HJ0.out with h7 | ⟨h1, ⟨h7, hab⟩ | ⟨h7, h11, hab⟩ | ⟨ha0, hb0, hab⟩⟩
  · rw [h7]
    clear HJ0 HD1 HD2 HD3 HX1 HX2 HX3 HQ1 HQ2 HQ3
    go_wp2_with fail
    refine (works_any _).mono ?_
    rintro e w9 ⟨rfl, hb9⟩
    have HB9 := Lib.hid (HBE.out.trans (hb9.mono HBE.out.size))
    clear hb9
    go_wp2_with fail
    go_ret
    exact ⟨rfl, HB9.out⟩
  · rw [hab, h7]
    clear HJ0 HD1 HD2 HD3 HX1 HX2 HX3 HQ1 HQ2 HQ3 hab h7
    generalize (parP b).2.1 = atb at *
    have hp1 := HPA.out
    have hpw : IntKind.i64.wrap ((na : Int) + atb) = (na : Int) + atb := by rw [IntKind.wrap_i64]; omega
    have HNE := HNA.out
    rw [HNE]
    clear HNE
    generalize (parP a).2.2 = era at *
    rcases h1 with h1 | h1
    · subst h1
      go_wp2_with fail
      refine (works_any _).mono ?_
      rintro e w9 ⟨rfl, hb9⟩
      have HB9 := Lib.hid (HBE.out.trans (hb9.mono HBE.out.size))
      clear hb9
      go_wp2_with fail
      go_ret
      exact ⟨rfl, HB9.out⟩
    · subst h1
      go_wp2_with fail
      refine (works_any _).mono ?_
      rintro e w9 ⟨rfl, hb9⟩
      have HB9 := Lib.hid (HBE.out.trans (hb9.mono HBE.out.size))
      clear hb9
      go_wp2_with fail
      go_ret
      exact ⟨rfl, HB9.out⟩
  · clear HJ0 HD1 HD2 HD3 HX1 HX2 HX3 HQ1 HQ2 HQ3
    rw [hab]
    clear hab
    generalize (parP b).2.2 = erb at *
    generalize (parP a).2.2 = era at *
    have hc9 : (era = 0 ∨ era = 11) ∧ (erb = 0 ∨ erb = 11) ∧ (era = 11 ∨ erb = 11) := ⟨h1, by rcases HE2.out with h | h | h; exact .inl h; exact absurd h h7; exact .inr h, h11⟩
    clear h1 h7 h11
    obtain ⟨h1 | h1, h2 | h2, h3⟩ := hc9
    · omega
    · subst h1 h2
      go_wp2_with fail
      refine (works_any _).mono ?_
      rintro e w9 ⟨rfl, hb9⟩
      have HB9 := Lib.hid (HBE.out.trans (hb9.mono HBE.out.size))
      clear hb9
      go_wp2_with fail
      go_ret
      exact ⟨rfl, HB9.out⟩
    · subst h1 h2
      go_wp2_with fail
      refine (works_any _).mono ?_
      rintro e w9 ⟨rfl, hb9⟩
      have HB9 := Lib.hid (HBE.out.trans (hb9.mono HBE.out.size))
      clear hb9
      go_wp2_with fail
      go_ret
      exact ⟨rfl, HB9.out⟩
    · subst h1 h2
      go_wp2_with fail
      refine (works_any _).mono ?_
      rintro e w9 ⟨rfl, hb9⟩
      have HB9 := Lib.hid (HBE.out.trans (hb9.mono HBE.out.size))
      clear hb9
      go_wp2_with fail
      go_ret
      exact ⟨rfl, HB9.out⟩
  · have hfw := par_few (a ++ b) (by rw [List.length_append, HNA.out, HNB.out]; show _ ≤ 1000000; omega)
    have HW := Lib.hid (show (⟨E1, e1, s3, E2, e2, f3⟩ : PgM).d = ((parP a).1.and (parP b).1) ∧ ((parP a).1.and (parP b).1).few from ⟨by rw [HD3.out, hab], by rw [hab] at hfw; exact hfw⟩)
    have hl1 := congrArg (fun q => q.ss.length + q.fs.length) HW.out.1
    have hl2 := HW.out.2.1
    rw [← HD1.out, ← HD2.out] at hl2
    simp [PgM.d, Pg.and, mostT] at hl2
    have hA1 := HX1.out.1.2.2.1
    have hA2 := HX1.out.2.1.2.2.1
    have hB1 := HX2.out.1.2.2.1
    have hB2 := HX2.out.2.1.2.2.1
    have HA1 := Lib.hid HX1.out.1.1.lies
    have HA2 := Lib.hid HX1.out.2.1.1.lies
    have HB1 := Lib.hid HX2.out.1.1.lies
    have HB2 := Lib.hid HX2.out.2.1.1.lies
    rw [hab, ha0, hb0]
    dsimp only at hA1 hA2 hB1 hB2 HA1 HA2 HB1 HB2 ⊢
    have HCL := Lib.hid (show ∀ W9, Below W0.heap.size W0 W9 → (W9.cell? ⟨g5, 0, none⟩ = some (.slice A1 s1.length c1) ∧ W9.cell? ⟨g5, 1, none⟩ = some (.slice A2 f1.length c2) ∧ W9.cell? ⟨g8, 0, none⟩ = some (.slice B1 s2.length d1) ∧ W9.cell? ⟨g8, 1, none⟩ = some (.slice B2 f2.length d2)) from fun W9 hb => ⟨(HQ1.out.below hb HQ1.out.lt).cell (j := 0) (by simp), (HQ1.out.below hb HQ1.out.lt).cell (j := 1) (by simp), (HQ2.out.below hb HQ2.out.lt).cell (j := 0) (by simp), (HQ2.out.below hb HQ2.out.lt).cell (j := 1) (by simp)⟩)
    have HJ := Lib.hid (JnW.new W0)
    clear hfw hab ha0 hb0 h1 hl1 HJ0 HPA HE2
    go_upto_region 12 with fail
    go_cut [14] from 74 to 88 (fun pv wx => ∃ g14, pv = .pointer (some ⟨g14, 0, none⟩) ∧ Hid (JnE W0 (s1 ++ s2) (f1 ++ f2) g14 wx))
    case first =>
      refine wp_region_held_drew (S := fun W9 => W9.cell? ⟨g5, 0, none⟩ = some (.slice A1 s1.length c1) ∧ W9.cell? ⟨g5, 1, none⟩ = some (.slice A2 f1.length c2) ∧ W9.cell? ⟨g8, 0, none⟩ = some (.slice B1 s2.length d1) ∧ W9.cell? ⟨g8, 1, none⟩ = some (.slice B2 f2.length d2)) (by kernel_rfl) (HCL.out _ HJ.out.drew.b) (fun hHeld => ?_)
      have HJd := Lib.hid HJ.out.drew
      obtain ⟨Wd, hWd⟩ : ∃ Wd, W0.drew = Wd := ⟨_, rfl⟩
      rw [hWd] at HJd hHeld ⊢
      clear hWd
      refine heldTake (i := 1) (d := some 75) (v := ?_) rfl rfl (by kernel_rfl) (by kernel_rfl) (by kernel_rfl) (fun _ _ _ h => h) (by kernel_rfl) ?hyq_1 (by assumption) ?restq_1
      case hyq_1 => (intro W9 hSw; (try dsimp only at hSw); go_simp; try (with_reducible rfl))
      (try simp only [Act.put, List.setIfInBounds_toArray, List.set_cons_zero, List.set_cons_succ])
      refine heldTake (i := 2) (d := some 76) (v := ?_) rfl rfl (by kernel_rfl) (by kernel_rfl) (by kernel_rfl) (fun _ _ _ h => h) (by kernel_rfl) ?hyq_2 (by assumption) ?restq_2
      case hyq_2 => (intro W9 hSw; (try dsimp only at hSw); go_simp; try (with_reducible rfl))
      (try simp only [Act.put, List.setIfInBounds_toArray, List.set_cons_zero, List.set_cons_succ])
      refine heldTake (i := 4) (d := some 78) (v := ?_) rfl rfl (by kernel_rfl) (by kernel_rfl) (by kernel_rfl) (fun _ _ _ h => h) (by kernel_rfl) ?hyq_3 (by assumption) ?restq_3
      case hyq_3 => (intro W9 hSw; (try dsimp only at hSw); go_simp; try (with_reducible rfl))
      (try simp only [Act.put, List.setIfInBounds_toArray, List.set_cons_zero, List.set_cons_succ])
      refine heldTake (i := 5) (d := some 79) (v := ?_) rfl rfl (by kernel_rfl) (by kernel_rfl) (by kernel_rfl) (fun _ _ _ h => h) (by kernel_rfl) ?hyq_4 (by assumption) ?restq_4
      case hyq_4 => (intro W9 hSw; (try dsimp only at hSw); go_simp; try (with_reducible rfl))
      (try simp only [Act.put, List.setIfInBounds_toArray, List.set_cons_zero, List.set_cons_succ])
      refine heldTake (i := 8) (d := some 82) (v := ?_) rfl rfl (by kernel_rfl) (by kernel_rfl) (by kernel_rfl) (fun _ _ _ h => h) (by kernel_rfl) ?hyq_5 (by assumption) ?restq_5
      case hyq_5 => (intro W9 hSw; (try dsimp only at hSw); go_simp; try (with_reducible rfl))
      (try simp only [Act.put, List.setIfInBounds_toArray, List.set_cons_zero, List.set_cons_succ])
      refine heldTake (i := 9) (d := some 83) (v := ?_) rfl rfl (by kernel_rfl) (by kernel_rfl) (by kernel_rfl) (fun _ _ _ h => h) (by kernel_rfl) ?hyq_6 (by assumption) ?restq_6
      case hyq_6 => (intro W9 hSw; (try dsimp only at hSw); go_simp; try (with_reducible rfl))
      (try simp only [Act.put, List.setIfInBounds_toArray, List.set_cons_zero, List.set_cons_succ])
      refine heldTake (i := 11) (d := some 85) (v := ?_) rfl rfl (by kernel_rfl) (by kernel_rfl) (by kernel_rfl) (fun _ _ _ h => h) (by kernel_rfl) ?hyq_7 (by assumption) ?restq_7
      case hyq_7 => (intro W9 hSw; (try dsimp only at hSw); go_simp; try (with_reducible rfl))
      (try simp only [Act.put, List.setIfInBounds_toArray, List.set_cons_zero, List.set_cons_succ])
      refine heldTake (i := 12) (d := some 86) (v := ?_) rfl rfl (by kernel_rfl) (by kernel_rfl) (by kernel_rfl) (fun _ _ _ h => h) (by kernel_rfl) ?hyq_8 (by assumption) ?restq_8
      case hyq_8 => (intro W9 hSw; (try dsimp only at hSw); go_simp; try (with_reducible rfl))
      (try simp only [Act.put, List.setIfInBounds_toArray, List.set_cons_zero, List.set_cons_succ])
      refine wpAnyH_ready (rs := [0, 7, 15]) (by kernel_rfl) (by simp) ?_
      refine AllReadyH.cons rfl (fun K hK => ?_) (AllReadyH.cons rfl (fun K hK => ?_) (AllReadyH.cons rfl (fun K hK => ?_) AllReadyH.nil))
      · go_simp
        have hkn := HJd.out.build1
        obtain ⟨Y2, hY⟩ : ∃ Y, Wd.alloc (.cells #[] 71) = Y := ⟨_, rfl⟩
        rw [hY] at hkn ⊢
        have HK1 := Lib.hid hkn
        clear hY hkn
        refine hK.out _ _ (HCL.out _ HK1.out.b) (fun hHeld => ?_)
        clear hK K
        (try simp only [Act.put, List.setIfInBounds_toArray, List.set_cons_zero, List.set_cons_succ])
        refine wpAnyH_ready (rs := [3, 7, 15]) (by kernel_rfl) (by simp) ?_
        refine AllReadyH.cons rfl (fun K hK => ?_) (AllReadyH.cons rfl (fun K hK => ?_) (AllReadyH.cons rfl (fun K hK => ?_) AllReadyH.nil))
        · (try rw [if_pos (by kernel_rfl)])
          refine El.op_apps eSc Y2 24 (.agg #[.string ⟨#[]⟩, .slice none 0 0]) 40 Try.underlying24 sc_info rfl (by decide) (.tmp 74) (.tmp 76) rfl W0.heap.size (.slice (some ⟨Wd.heap.size, 0, none⟩) 0 0) [] rfl (HK1.out.r1 _ _ rfl) A1 c1 W0.heap.size s1 rfl hA1 ((HA1.out.below HK1.out.b)) (by first | omega | (simp; omega)) (by first | (simp [eSc]; omega) | omega) HK1.out.b.size ?_
          intro v9 Z4 ho9 hg9
          (try rw [List.nil_append] at ho9)
          have hkn := HK1.out.app1 ho9 hg9
          obtain ⟨a5, n6, c7, rfl, _, _, _, _⟩ := ho9.formN
          have HK3 := Lib.hid hkn
          change K (Act.put _ (some 77) (.slice a5 n6 c7)) Z4
          clear ho9 hg9 hkn
          refine hK.out _ _ (HCL.out _ HK3.out.b) (fun hHeld => ?_)
          clear hK K
          (try simp only [Act.put, List.setIfInBounds_toArray, List.set_cons_zero, List.set_cons_succ])
          refine wpAnyH_ready (rs := [6, 7, 15]) (by kernel_rfl) (by simp) ?_
          refine AllReadyH.cons rfl (fun K hK => ?_) (AllReadyH.cons rfl (fun K hK => ?_) (AllReadyH.cons rfl (fun K hK => ?_) AllReadyH.nil))
          · (try rw [if_pos (by kernel_rfl)])
            refine El.op_apps eSc Z4 24 (.agg #[.string ⟨#[]⟩, .slice none 0 0]) 40 Try.underlying24 sc_info rfl (by decide) (.tmp 77) (.tmp 79) rfl W0.heap.size (.slice a5 n6 c7) s1 rfl (HK3.out.r1 _ _ rfl) B1 d1 W0.heap.size s2 rfl hB1 ((HB1.out.below HK3.out.b)) (by first | omega | (simp; omega)) (by first | (simp [eSc]; omega) | omega) HK3.out.b.size ?_
            intro v9 Z9 ho9 hg9
            (try rw [List.nil_append] at ho9)
            have hkn := HK3.out.app1 ho9 hg9
            obtain ⟨a10, n11, c12, rfl, _, _, _, _⟩ := ho9.formN
            have HK8 := Lib.hid hkn
            change K (Act.put _ (some 80) (.slice a10 n11 c12)) Z9
            clear ho9 hg9 hkn
            refine hK.out _ _ (HCL.out _ HK8.out.b) (fun hHeld => ?_)
            clear hK K
            (try simp only [Act.put, List.setIfInBounds_toArray, List.set_cons_zero, List.set_cons_succ])
            refine wpAnyH_ready (rs := [7, 15]) (by kernel_rfl) (by simp) ?_
            refine AllReadyH.cons rfl (fun K hK => ?_) (AllReadyH.cons rfl (fun K hK => ?_) AllReadyH.nil)
            · go_simp
              have hkn := HK8.out.build2
              obtain ⟨Y14, hY⟩ : ∃ Y, Z9.alloc (.cells #[] 50) = Y := ⟨_, rfl⟩
              rw [hY] at hkn ⊢
              have HK13 := Lib.hid hkn
              clear hY hkn
              refine hK.out _ _ (HCL.out _ HK13.out.b) (fun hHeld => ?_)
              clear hK K
              (try simp only [Act.put, List.setIfInBounds_toArray, List.set_cons_zero, List.set_cons_succ])
              refine wpAnyH_ready (rs := [10, 15]) (by kernel_rfl) (by simp) ?_
              refine AllReadyH.cons rfl (fun K hK => ?_) (AllReadyH.cons rfl (fun K hK => ?_) AllReadyH.nil)
              · (try rw [if_pos (by kernel_rfl)])
                refine El.op_apps eDc Y14 25 (.agg #[.string ⟨#[]⟩, .int .i64 0, .slice none 0 0, .int .u8 0, .int .i64 0, .string ⟨#[]⟩, .slice none 0 0]) 104 Try.underlying25 dc_info rfl (by decide) (.tmp 81) (.tmp 83) rfl W0.heap.size (.slice (some ⟨Z9.heap.size, 0, none⟩) 0 0) [] rfl (HK13.out.r2 _ _ rfl) A2 c2 W0.heap.size f1 rfl hA2 ((HA2.out.below HK13.out.b)) (by first | omega | (simp; omega)) (by first | (simp [eDc]; omega) | omega) HK13.out.b.size ?_
                intro v9 Z16 ho9 hg9
                (try rw [List.nil_append] at ho9)
                have hkn := HK13.out.app2 ho9 hg9
                obtain ⟨a17, n18, c19, rfl, _, _, _, _⟩ := ho9.formN
                have HK15 := Lib.hid hkn
                change K (Act.put _ (some 84) (.slice a17 n18 c19)) Z16
                clear ho9 hg9 hkn
                refine hK.out _ _ (HCL.out _ HK15.out.b) (fun hHeld => ?_)
                clear hK K
                (try simp only [Act.put, List.setIfInBounds_toArray, List.set_cons_zero, List.set_cons_succ])
                refine wpAnyH_ready (rs := [13, 15]) (by kernel_rfl) (by simp) ?_
                refine AllReadyH.cons rfl (fun K hK => ?_) (AllReadyH.cons rfl (fun K hK => ?_) AllReadyH.nil)
                · (try rw [if_pos (by kernel_rfl)])
                  refine El.op_apps eDc Z16 25 (.agg #[.string ⟨#[]⟩, .int .i64 0, .slice none 0 0, .int .u8 0, .int .i64 0, .string ⟨#[]⟩, .slice none 0 0]) 104 Try.underlying25 dc_info rfl (by decide) (.tmp 84) (.tmp 86) rfl W0.heap.size (.slice a17 n18 c19) f1 rfl (HK15.out.r2 _ _ rfl) B2 d2 W0.heap.size f2 rfl hB2 ((HB2.out.below HK15.out.b)) (by first | omega | (simp; omega)) (by first | (simp [eDc]; omega) | omega) HK15.out.b.size ?_
                  intro v9 Z21 ho9 hg9
                  (try rw [List.nil_append] at ho9)
                  have hkn := HK15.out.app2 ho9 hg9
                  obtain ⟨a22, n23, c24, rfl, _, _, _, _⟩ := ho9.formN
                  have HK20 := Lib.hid hkn
                  change K (Act.put _ (some 87) (.slice a22 n23 c24)) Z21
                  clear ho9 hg9 hkn
                  refine hK.out _ _ (HCL.out _ HK20.out.b) (fun hHeld => ?_)
                  clear hK K
                  (try simp only [Act.put, List.setIfInBounds_toArray, List.set_cons_zero, List.set_cons_succ])
                  refine heldTake (i := 14) (d := some 88) (v := ?_) rfl rfl (by kernel_rfl) (by kernel_rfl) (by kernel_rfl) (fun _ _ _ h => h) (by kernel_rfl) ?hyq_9 (by assumption) ?restq_9
                  case hyq_9 => (intro W9 hSw; (try dsimp only at hSw); go_simp; try (with_reducible rfl))
                  (try simp only [Act.put, List.setIfInBounds_toArray, List.set_cons_zero, List.set_cons_succ])
                  refine wpAnyH_ready (rs := [15]) (by kernel_rfl) (by simp) ?_
                  refine AllReadyH.cons rfl (fun K hK => ?_) AllReadyH.nil
                  go_simp
                  have hkn := HK20.out.al
                  obtain ⟨Y26, hY⟩ : ∃ Y, Z21.alloc (.cells #[.slice none 0 0, .slice none 0 0] 27) = Y := ⟨_, rfl⟩
                  rw [hY] at hkn ⊢
                  have HK25 := Lib.hid hkn
                  clear hY hkn
                  refine hK.out _ _ (HCL.out _ HK25.out.b) (fun hHeld => ?_)
                  clear hK K
                  (try simp only [Act.put, List.setIfInBounds_toArray, List.set_cons_zero, List.set_cons_succ])
                  refine wpAnyH_ready (rs := [16]) (by kernel_rfl) (by simp) ?_
                  refine AllReadyH.cons rfl (fun K hK => ?_) AllReadyH.nil
                  have hr3 := (HK25.out.r3 _ rfl).2
                  have q0 := hr3.cell (j := 0) (by simp)
                  have qf0 := hr3.frozen 0
                  have q1 := hr3.cell (j := 1) (by simp)
                  have qf1 := hr3.frozen 1
                  simp only [List.getElem_cons_zero, List.getElem_cons_succ] at q0 q1
                  have HE27 := Lib.hid HK25.out.store
                  clear hr3
                  go_simp
                  refine hK.out _ _ (HCL.out _ HE27.out.1) (fun hHeld => ?_)
                  clear hK K
                  (try simp only [Act.put, List.setIfInBounds_toArray, List.set_cons_zero, List.set_cons_succ])
                  refine wpAnyH_done (by kernel_rfl) ?_ _
                  go_wp2_with fail
                  go_meet
                  exact ⟨_, rfl, HE27⟩
                · go_simp
                  have hkn := HK15.out.al
                  obtain ⟨Y29, hY⟩ : ∃ Y, Z16.alloc (.cells #[.slice none 0 0, .slice none 0 0] 27) = Y := ⟨_, rfl⟩
                  rw [hY] at hkn ⊢
                  have HK28 := Lib.hid hkn
                  clear hY hkn
                  refine hK.out _ _ (HCL.out _ HK28.out.b) (fun hHeld => ?_)
                  clear hK K
                  (try simp only [Act.put, List.setIfInBounds_toArray, List.set_cons_zero, List.set_cons_succ])
                  refine wpAnyH_ready (rs := [13]) (by kernel_rfl) (by simp) ?_
                  refine AllReadyH.cons rfl (fun K hK => ?_) AllReadyH.nil
                  (try rw [if_pos (by kernel_rfl)])
                  refine El.op_apps eDc Y29 25 (.agg #[.string ⟨#[]⟩, .int .i64 0, .slice none 0 0, .int .u8 0, .int .i64 0, .string ⟨#[]⟩, .slice none 0 0]) 104 Try.underlying25 dc_info rfl (by decide) (.tmp 84) (.tmp 86) rfl W0.heap.size (.slice a17 n18 c19) f1 rfl (HK28.out.r2 _ _ rfl) B2 d2 W0.heap.size f2 rfl hB2 ((HB2.out.below HK28.out.b)) (by first | omega | (simp; omega)) (by first | (simp [eDc]; omega) | omega) HK28.out.b.size ?_
                  intro v9 Z31 ho9 hg9
                  (try rw [List.nil_append] at ho9)
                  have hkn := HK28.out.app2 ho9 hg9
                  obtain ⟨a32, n33, c34, rfl, _, _, _, _⟩ := ho9.formN
                  have HK30 := Lib.hid hkn
                  change K (Act.put _ (some 87) (.slice a32 n33 c34)) Z31
                  clear ho9 hg9 hkn
                  refine hK.out _ _ (HCL.out _ HK30.out.b) (fun hHeld => ?_)
                  clear hK K
                  (try simp only [Act.put, List.setIfInBounds_toArray, List.set_cons_zero, List.set_cons_succ])
                  refine heldTake (i := 14) (d := some 88) (v := ?_) rfl rfl (by kernel_rfl) (by kernel_rfl) (by kernel_rfl) (fun _ _ _ h => h) (by kernel_rfl) ?hyq_10 (by assumption) ?restq_10
                  case hyq_10 => (intro W9 hSw; (try dsimp only at hSw); go_simp; try (with_reducible rfl))
                  (try simp only [Act.put, List.setIfInBounds_toArray, List.set_cons_zero, List.set_cons_succ])
                  refine wpAnyH_ready (rs := [16]) (by kernel_rfl) (by simp) ?_
                  refine AllReadyH.cons rfl (fun K hK => ?_) AllReadyH.nil
                  have hr3 := (HK30.out.r3 _ rfl).2
                  have q0 := hr3.cell (j := 0) (by simp)
                  have qf0 := hr3.frozen 0
                  have q1 := hr3.cell (j := 1) (by simp)
                  have qf1 := hr3.frozen 1
                  simp only [List.getElem_cons_zero, List.getElem_cons_succ] at q0 q1
                  have HE35 := Lib.hid HK30.out.store
                  clear hr3
                  go_simp
                  refine hK.out _ _ (HCL.out _ HE35.out.1) (fun hHeld => ?_)
                  clear hK K
                  (try simp only [Act.put, List.setIfInBounds_toArray, List.set_cons_zero, List.set_cons_succ])
                  refine wpAnyH_done (by kernel_rfl) ?_ _
                  go_wp2_with fail
                  go_meet
                  exact ⟨_, rfl, HE35⟩
              · go_simp
                have hkn := HK13.out.al
                obtain ⟨Y37, hY⟩ : ∃ Y, Y14.alloc (.cells #[.slice none 0 0, .slice none 0 0] 27) = Y := ⟨_, rfl⟩
                rw [hY] at hkn ⊢
                have HK36 := Lib.hid hkn
                clear hY hkn
                refine hK.out _ _ (HCL.out _ HK36.out.b) (fun hHeld => ?_)
                clear hK K
                (try simp only [Act.put, List.setIfInBounds_toArray, List.set_cons_zero, List.set_cons_succ])
                refine wpAnyH_ready (rs := [10]) (by kernel_rfl) (by simp) ?_
                refine AllReadyH.cons rfl (fun K hK => ?_) AllReadyH.nil
                (try rw [if_pos (by kernel_rfl)])
                refine El.op_apps eDc Y37 25 (.agg #[.string ⟨#[]⟩, .int .i64 0, .slice none 0 0, .int .u8 0, .int .i64 0, .string ⟨#[]⟩, .slice none 0 0]) 104 Try.underlying25 dc_info rfl (by decide) (.tmp 81) (.tmp 83) rfl W0.heap.size (.slice (some ⟨Z9.heap.size, 0, none⟩) 0 0) [] rfl (HK36.out.r2 _ _ rfl) A2 c2 W0.heap.size f1 rfl hA2 ((HA2.out.below HK36.out.b)) (by first | omega | (simp; omega)) (by first | (simp [eDc]; omega) | omega) HK36.out.b.size ?_
                intro v9 Z39 ho9 hg9
                (try rw [List.nil_append] at ho9)
                have hkn := HK36.out.app2 ho9 hg9
                obtain ⟨a40, n41, c42, rfl, _, _, _, _⟩ := ho9.formN
                have HK38 := Lib.hid hkn
                change K (Act.put _ (some 84) (.slice a40 n41 c42)) Z39
                clear ho9 hg9 hkn
                refine hK.out _ _ (HCL.out _ HK38.out.b) (fun hHeld => ?_)
                clear hK K
                (try simp only [Act.put, List.setIfInBounds_toArray, List.set_cons_zero, List.set_cons_succ])
                refine wpAnyH_ready (rs := [13]) (by kernel_rfl) (by simp) ?_
                refine AllReadyH.cons rfl (fun K hK => ?_) AllReadyH.nil
                (try rw [if_pos (by kernel_rfl)])
                refine El.op_apps eDc Z39 25 (.agg #[.string ⟨#[]⟩, .int .i64 0, .slice none 0 0, .int .u8 0, .int .i64 0, .string ⟨#[]⟩, .slice none 0 0]) 104 Try.underlying25 dc_info rfl (by decide) (.tmp 84) (.tmp 86) rfl W0.heap.size (.slice a40 n41 c42) f1 rfl (HK38.out.r2 _ _ rfl) B2 d2 W0.heap.size f2 rfl hB2 ((HB2.out.below HK38.out.b)) (by first | omega | (simp; omega)) (by first | (simp [eDc]; omega) | omega) HK38.out.b.size ?_
                intro v9 Z44 ho9 hg9
                (try rw [List.nil_append] at ho9)
                have hkn := HK38.out.app2 ho9 hg9
                obtain ⟨a45, n46, c47, rfl, _, _, _, _⟩ := ho9.formN
                have HK43 := Lib.hid hkn
                change K (Act.put _ (some 87) (.slice a45 n46 c47)) Z44
                clear ho9 hg9 hkn
                refine hK.out _ _ (HCL.out _ HK43.out.b) (fun hHeld => ?_)
                clear hK K
                (try simp only [Act.put, List.setIfInBounds_toArray, List.set_cons_zero, List.set_cons_succ])
                refine heldTake (i := 14) (d := some 88) (v := ?_) rfl rfl (by kernel_rfl) (by kernel_rfl) (by kernel_rfl) (fun _ _ _ h => h) (by kernel_rfl) ?hyq_11 (by assumption) ?restq_11
                case hyq_11 => (intro W9 hSw; (try dsimp only at hSw); go_simp; try (with_reducible rfl))
                (try simp only [Act.put, List.setIfInBounds_toArray, List.set_cons_zero, List.set_cons_succ])
                refine wpAnyH_ready (rs := [16]) (by kernel_rfl) (by simp) ?_
                refine AllReadyH.cons rfl (fun K hK => ?_) AllReadyH.nil
                have hr3 := (HK43.out.r3 _ rfl).2
                have q0 := hr3.cell (j := 0) (by simp)
                have qf0 := hr3.frozen 0
                have q1 := hr3.cell (j := 1) (by simp)
                have qf1 := hr3.frozen 1
                simp only [List.getElem_cons_zero, List.getElem_cons_succ] at q0 q1
                have HE48 := Lib.hid HK43.out.store
                clear hr3
                go_simp
                refine hK.out _ _ (HCL.out _ HE48.out.1) (fun hHeld => ?_)
                clear hK K
                (try simp only [Act.put, List.setIfInBounds_toArray, List.set_cons_zero, List.set_cons_succ])
                refine wpAnyH_done (by kernel_rfl) ?_ _
                go_wp2_with fail
                go_meet
                exact ⟨_, rfl, HE48⟩
            · go_simp
              have hkn := HK8.out.al
              obtain ⟨Y50, hY⟩ : ∃ Y, Z9.alloc (.cells #[.slice none 0 0, .slice none 0 0] 27) = Y := ⟨_, rfl⟩
              rw [hY] at hkn ⊢
              have HK49 := Lib.hid hkn
              clear hY hkn
              refine hK.out _ _ (HCL.out _ HK49.out.b) (fun hHeld => ?_)
              clear hK K
              (try simp only [Act.put, List.setIfInBounds_toArray, List.set_cons_zero, List.set_cons_succ])
              refine wpAnyH_ready (rs := [7]) (by kernel_rfl) (by simp) ?_
              refine AllReadyH.cons rfl (fun K hK => ?_) AllReadyH.nil
              go_simp
              have hkn := HK49.out.build2
              obtain ⟨Y52, hY⟩ : ∃ Y, Y50.alloc (.cells #[] 50) = Y := ⟨_, rfl⟩
              rw [hY] at hkn ⊢
              have HK51 := Lib.hid hkn
              clear hY hkn
              refine hK.out _ _ (HCL.out _ HK51.out.b) (fun hHeld => ?_)
              clear hK K
              (try simp only [Act.put, List.setIfInBounds_toArray, List.set_cons_zero, List.set_cons_succ])
              refine wpAnyH_ready (rs := [10]) (by kernel_rfl) (by simp) ?_
              refine AllReadyH.cons rfl (fun K hK => ?_) AllReadyH.nil
              (try rw [if_pos (by kernel_rfl)])
              refine El.op_apps eDc Y52 25 (.agg #[.string ⟨#[]⟩, .int .i64 0, .slice none 0 0, .int .u8 0, .int .i64 0, .string ⟨#[]⟩, .slice none 0 0]) 104 Try.underlying25 dc_info rfl (by decide) (.tmp 81) (.tmp 83) rfl W0.heap.size (.slice (some ⟨Y50.heap.size, 0, none⟩) 0 0) [] rfl (HK51.out.r2 _ _ rfl) A2 c2 W0.heap.size f1 rfl hA2 ((HA2.out.below HK51.out.b)) (by first | omega | (simp; omega)) (by first | (simp [eDc]; omega) | omega) HK51.out.b.size ?_
              intro v9 Z54 ho9 hg9
              (try rw [List.nil_append] at ho9)
              have hkn := HK51.out.app2 ho9 hg9
              obtain ⟨a55, n56, c57, rfl, _, _, _, _⟩ := ho9.formN
              have HK53 := Lib.hid hkn
              change K (Act.put _ (some 84) (.slice a55 n56 c57)) Z54
              clear ho9 hg9 hkn
              refine hK.out _ _ (HCL.out _ HK53.out.b) (fun hHeld => ?_)
              clear hK K
              (try simp only [Act.put, List.setIfInBounds_toArray, List.set_cons_zero, List.set_cons_succ])
              refine wpAnyH_ready (rs := [13]) (by kernel_rfl) (by simp) ?_
              refine AllReadyH.cons rfl (fun K hK => ?_) AllReadyH.nil
              (try rw [if_pos (by kernel_rfl)])
              refine El.op_apps eDc Z54 25 (.agg #[.string ⟨#[]⟩, .int .i64 0, .slice none 0 0, .int .u8 0, .int .i64 0, .string ⟨#[]⟩, .slice none 0 0]) 104 Try.underlying25 dc_info rfl (by decide) (.tmp 84) (.tmp 86) rfl W0.heap.size (.slice a55 n56 c57) f1 rfl (HK53.out.r2 _ _ rfl) B2 d2 W0.heap.size f2 rfl hB2 ((HB2.out.below HK53.out.b)) (by first | omega | (simp; omega)) (by first | (simp [eDc]; omega) | omega) HK53.out.b.size ?_
              intro v9 Z59 ho9 hg9
              (try rw [List.nil_append] at ho9)
              have hkn := HK53.out.app2 ho9 hg9
              obtain ⟨a60, n61, c62, rfl, _, _, _, _⟩ := ho9.formN
              have HK58 := Lib.hid hkn
              change K (Act.put _ (some 87) (.slice a60 n61 c62)) Z59
              clear ho9 hg9 hkn
              refine hK.out _ _ (HCL.out _ HK58.out.b) (fun hHeld => ?_)
              clear hK K
              (try simp only [Act.put, List.setIfInBounds_toArray, List.set_cons_zero, List.set_cons_succ])
              refine heldTake (i := 14) (d := some 88) (v := ?_) rfl rfl (by kernel_rfl) (by kernel_rfl) (by kernel_rfl) (fun _ _ _ h => h) (by kernel_rfl) ?hyq_12 (by assumption) ?restq_12
              case hyq_12 => (intro W9 hSw; (try dsimp only at hSw); go_simp; try (with_reducible rfl))
              (try simp only [Act.put, List.setIfInBounds_toArray, List.set_cons_zero, List.set_cons_succ])
              refine wpAnyH_ready (rs := [16]) (by kernel_rfl) (by simp) ?_
              refine AllReadyH.cons rfl (fun K hK => ?_) AllReadyH.nil
              have hr3 := (HK58.out.r3 _ rfl).2
              have q0 := hr3.cell (j := 0) (by simp)
              have qf0 := hr3.frozen 0
              have q1 := hr3.cell (j := 1) (by simp)
              have qf1 := hr3.frozen 1
              simp only [List.getElem_cons_zero, List.getElem_cons_succ] at q0 q1
              have HE63 := Lib.hid HK58.out.store
              clear hr3
              go_simp
              refine hK.out _ _ (HCL.out _ HE63.out.1) (fun hHeld => ?_)
              clear hK K
              (try simp only [Act.put, List.setIfInBounds_toArray, List.set_cons_zero, List.set_cons_succ])
              refine wpAnyH_done (by kernel_rfl) ?_ _
              go_wp2_with fail
              go_meet
              exact ⟨_, rfl, HE63⟩
          · go_simp
            have hkn := HK3.out.build2
            obtain ⟨Y65, hY⟩ : ∃ Y, Z4.alloc (.cells #[] 50) = Y := ⟨_, rfl⟩
            rw [hY] at hkn ⊢
            have HK64 := Lib.hid hkn
            clear hY hkn
            refine hK.out _ _ (HCL.out _ HK64.out.b) (fun hHeld => ?_)
            clear hK K
            (try simp only [Act.put, List.setIfInBounds_toArray, List.set_cons_zero, List.set_cons_succ])
            refine wpAnyH_ready (rs := [6, 15]) (by kernel_rfl) (by simp) ?_
            refine AllReadyH.cons rfl (fun K hK => ?_) (AllReadyH.cons rfl (fun K hK => ?_) AllReadyH.nil)
            · (try rw [if_pos (by kernel_rfl)])
              refine El.op_apps eSc Y65 24 (.agg #[.string ⟨#[]⟩, .slice none 0 0]) 40 Try.underlying24 sc_info rfl (by decide) (.tmp 77) (.tmp 79) rfl W0.heap.size (.slice a5 n6 c7) s1 rfl (HK64.out.r1 _ _ rfl) B1 d1 W0.heap.size s2 rfl hB1 ((HB1.out.below HK64.out.b)) (by first | omega | (simp; omega)) (by first | (simp [eSc]; omega) | omega) HK64.out.b.size ?_
              intro v9 Z67 ho9 hg9
              (try rw [List.nil_append] at ho9)
              have hkn := HK64.out.app1 ho9 hg9
              obtain ⟨a68, n69, c70, rfl, _, _, _, _⟩ := ho9.formN
              have HK66 := Lib.hid hkn
              change K (Act.put _ (some 80) (.slice a68 n69 c70)) Z67
              clear ho9 hg9 hkn
              refine hK.out _ _ (HCL.out _ HK66.out.b) (fun hHeld => ?_)
              clear hK K
              (try simp only [Act.put, List.setIfInBounds_toArray, List.set_cons_zero, List.set_cons_succ])
              refine wpAnyH_ready (rs := [10, 15]) (by kernel_rfl) (by simp) ?_
              refine AllReadyH.cons rfl (fun K hK => ?_) (AllReadyH.cons rfl (fun K hK => ?_) AllReadyH.nil)
              · (try rw [if_pos (by kernel_rfl)])
                refine El.op_apps eDc Z67 25 (.agg #[.string ⟨#[]⟩, .int .i64 0, .slice none 0 0, .int .u8 0, .int .i64 0, .string ⟨#[]⟩, .slice none 0 0]) 104 Try.underlying25 dc_info rfl (by decide) (.tmp 81) (.tmp 83) rfl W0.heap.size (.slice (some ⟨Z4.heap.size, 0, none⟩) 0 0) [] rfl (HK66.out.r2 _ _ rfl) A2 c2 W0.heap.size f1 rfl hA2 ((HA2.out.below HK66.out.b)) (by first | omega | (simp; omega)) (by first | (simp [eDc]; omega) | omega) HK66.out.b.size ?_
                intro v9 Z72 ho9 hg9
                (try rw [List.nil_append] at ho9)
                have hkn := HK66.out.app2 ho9 hg9
                obtain ⟨a73, n74, c75, rfl, _, _, _, _⟩ := ho9.formN
                have HK71 := Lib.hid hkn
                change K (Act.put _ (some 84) (.slice a73 n74 c75)) Z72
                clear ho9 hg9 hkn
                refine hK.out _ _ (HCL.out _ HK71.out.b) (fun hHeld => ?_)
                clear hK K
                (try simp only [Act.put, List.setIfInBounds_toArray, List.set_cons_zero, List.set_cons_succ])
                refine wpAnyH_ready (rs := [13, 15]) (by kernel_rfl) (by simp) ?_
                refine AllReadyH.cons rfl (fun K hK => ?_) (AllReadyH.cons rfl (fun K hK => ?_) AllReadyH.nil)
                · (try rw [if_pos (by kernel_rfl)])
                  refine El.op_apps eDc Z72 25 (.agg #[.string ⟨#[]⟩, .int .i64 0, .slice none 0 0, .int .u8 0, .int .i64 0, .string ⟨#[]⟩, .slice none 0 0]) 104 Try.underlying25 dc_info rfl (by decide) (.tmp 84) (.tmp 86) rfl W0.heap.size (.slice a73 n74 c75) f1 rfl (HK71.out.r2 _ _ rfl) B2 d2 W0.heap.size f2 rfl hB2 ((HB2.out.below HK71.out.b)) (by first | omega | (simp; omega)) (by first | (simp [eDc]; omega) | omega) HK71.out.b.size ?_
                  intro v9 Z77 ho9 hg9
                  (try rw [List.nil_append] at ho9)
                  have hkn := HK71.out.app2 ho9 hg9
                  obtain ⟨a78, n79, c80, rfl, _, _, _, _⟩ := ho9.formN
                  have HK76 := Lib.hid hkn
                  change K (Act.put _ (some 87) (.slice a78 n79 c80)) Z77
                  clear ho9 hg9 hkn
                  refine hK.out _ _ (HCL.out _ HK76.out.b) (fun hHeld => ?_)
                  clear hK K
                  (try simp only [Act.put, List.setIfInBounds_toArray, List.set_cons_zero, List.set_cons_succ])
                  refine heldTake (i := 14) (d := some 88) (v := ?_) rfl rfl (by kernel_rfl) (by kernel_rfl) (by kernel_rfl) (fun _ _ _ h => h) (by kernel_rfl) ?hyq_13 (by assumption) ?restq_13
                  case hyq_13 => (intro W9 hSw; (try dsimp only at hSw); go_simp; try (with_reducible rfl))
                  (try simp only [Act.put, List.setIfInBounds_toArray, List.set_cons_zero, List.set_cons_succ])
                  refine wpAnyH_ready (rs := [15]) (by kernel_rfl) (by simp) ?_
                  refine AllReadyH.cons rfl (fun K hK => ?_) AllReadyH.nil
                  go_simp
                  have hkn := HK76.out.al
                  obtain ⟨Y82, hY⟩ : ∃ Y, Z77.alloc (.cells #[.slice none 0 0, .slice none 0 0] 27) = Y := ⟨_, rfl⟩
                  rw [hY] at hkn ⊢
                  have HK81 := Lib.hid hkn
                  clear hY hkn
                  refine hK.out _ _ (HCL.out _ HK81.out.b) (fun hHeld => ?_)
                  clear hK K
                  (try simp only [Act.put, List.setIfInBounds_toArray, List.set_cons_zero, List.set_cons_succ])
                  refine wpAnyH_ready (rs := [16]) (by kernel_rfl) (by simp) ?_
                  refine AllReadyH.cons rfl (fun K hK => ?_) AllReadyH.nil
                  have hr3 := (HK81.out.r3 _ rfl).2
                  have q0 := hr3.cell (j := 0) (by simp)
                  have qf0 := hr3.frozen 0
                  have q1 := hr3.cell (j := 1) (by simp)
                  have qf1 := hr3.frozen 1
                  simp only [List.getElem_cons_zero, List.getElem_cons_succ] at q0 q1
                  have HE83 := Lib.hid HK81.out.store
                  clear hr3
                  go_simp
                  refine hK.out _ _ (HCL.out _ HE83.out.1) (fun hHeld => ?_)
                  clear hK K
                  (try simp only [Act.put, List.setIfInBounds_toArray, List.set_cons_zero, List.set_cons_succ])
                  refine wpAnyH_done (by kernel_rfl) ?_ _
                  go_wp2_with fail
                  go_meet
                  exact ⟨_, rfl, HE83⟩
                · go_simp
                  have hkn := HK71.out.al
                  obtain ⟨Y85, hY⟩ : ∃ Y, Z72.alloc (.cells #[.slice none 0 0, .slice none 0 0] 27) = Y := ⟨_, rfl⟩
                  rw [hY] at hkn ⊢
                  have HK84 := Lib.hid hkn
                  clear hY hkn
                  refine hK.out _ _ (HCL.out _ HK84.out.b) (fun hHeld => ?_)
                  clear hK K
                  (try simp only [Act.put, List.setIfInBounds_toArray, List.set_cons_zero, List.set_cons_succ])
                  refine wpAnyH_ready (rs := [13]) (by kernel_rfl) (by simp) ?_
                  refine AllReadyH.cons rfl (fun K hK => ?_) AllReadyH.nil
                  (try rw [if_pos (by kernel_rfl)])
                  refine El.op_apps eDc Y85 25 (.agg #[.string ⟨#[]⟩, .int .i64 0, .slice none 0 0, .int .u8 0, .int .i64 0, .string ⟨#[]⟩, .slice none 0 0]) 104 Try.underlying25 dc_info rfl (by decide) (.tmp 84) (.tmp 86) rfl W0.heap.size (.slice a73 n74 c75) f1 rfl (HK84.out.r2 _ _ rfl) B2 d2 W0.heap.size f2 rfl hB2 ((HB2.out.below HK84.out.b)) (by first | omega | (simp; omega)) (by first | (simp [eDc]; omega) | omega) HK84.out.b.size ?_
                  intro v9 Z87 ho9 hg9
                  (try rw [List.nil_append] at ho9)
                  have hkn := HK84.out.app2 ho9 hg9
                  obtain ⟨a88, n89, c90, rfl, _, _, _, _⟩ := ho9.formN
                  have HK86 := Lib.hid hkn
                  change K (Act.put _ (some 87) (.slice a88 n89 c90)) Z87
                  clear ho9 hg9 hkn
                  refine hK.out _ _ (HCL.out _ HK86.out.b) (fun hHeld => ?_)
                  clear hK K
                  (try simp only [Act.put, List.setIfInBounds_toArray, List.set_cons_zero, List.set_cons_succ])
                  refine heldTake (i := 14) (d := some 88) (v := ?_) rfl rfl (by kernel_rfl) (by kernel_rfl) (by kernel_rfl) (fun _ _ _ h => h) (by kernel_rfl) ?hyq_14 (by assumption) ?restq_14
                  case hyq_14 => (intro W9 hSw; (try dsimp only at hSw); go_simp; try (with_reducible rfl))
                  (try simp only [Act.put, List.setIfInBounds_toArray, List.set_cons_zero, List.set_cons_succ])
                  refine wpAnyH_ready (rs := [16]) (by kernel_rfl) (by simp) ?_
                  refine AllReadyH.cons rfl (fun K hK => ?_) AllReadyH.nil
                  have hr3 := (HK86.out.r3 _ rfl).2
                  have q0 := hr3.cell (j := 0) (by simp)
                  have qf0 := hr3.frozen 0
                  have q1 := hr3.cell (j := 1) (by simp)
                  have qf1 := hr3.frozen 1
                  simp only [List.getElem_cons_zero, List.getElem_cons_succ] at q0 q1
                  have HE91 := Lib.hid HK86.out.store
                  clear hr3
                  go_simp
                  refine hK.out _ _ (HCL.out _ HE91.out.1) (fun hHeld => ?_)
                  clear hK K
                  (try simp only [Act.put, List.setIfInBounds_toArray, List.set_cons_zero, List.set_cons_succ])
                  refine wpAnyH_done (by kernel_rfl) ?_ _
                  go_wp2_with fail
                  go_meet
                  exact ⟨_, rfl, HE91⟩
              · go_simp
                have hkn := HK66.out.al
                obtain ⟨Y93, hY⟩ : ∃ Y, Z67.alloc (.cells #[.slice none 0 0, .slice none 0 0] 27) = Y := ⟨_, rfl⟩
                rw [hY] at hkn ⊢
                have HK92 := Lib.hid hkn
                clear hY hkn
                refine hK.out _ _ (HCL.out _ HK92.out.b) (fun hHeld => ?_)
                clear hK K
                (try simp only [Act.put, List.setIfInBounds_toArray, List.set_cons_zero, List.set_cons_succ])
                refine wpAnyH_ready (rs := [10]) (by kernel_rfl) (by simp) ?_
                refine AllReadyH.cons rfl (fun K hK => ?_) AllReadyH.nil
                (try rw [if_pos (by kernel_rfl)])
                refine El.op_apps eDc Y93 25 (.agg #[.string ⟨#[]⟩, .int .i64 0, .slice none 0 0, .int .u8 0, .int .i64 0, .string ⟨#[]⟩, .slice none 0 0]) 104 Try.underlying25 dc_info rfl (by decide) (.tmp 81) (.tmp 83) rfl W0.heap.size (.slice (some ⟨Z4.heap.size, 0, none⟩) 0 0) [] rfl (HK92.out.r2 _ _ rfl) A2 c2 W0.heap.size f1 rfl hA2 ((HA2.out.below HK92.out.b)) (by first | omega | (simp; omega)) (by first | (simp [eDc]; omega) | omega) HK92.out.b.size ?_
                intro v9 Z95 ho9 hg9
                (try rw [List.nil_append] at ho9)
                have hkn := HK92.out.app2 ho9 hg9
                obtain ⟨a96, n97, c98, rfl, _, _, _, _⟩ := ho9.formN
                have HK94 := Lib.hid hkn
                change K (Act.put _ (some 84) (.slice a96 n97 c98)) Z95
                clear ho9 hg9 hkn
                refine hK.out _ _ (HCL.out _ HK94.out.b) (fun hHeld => ?_)
                clear hK K
                (try simp only [Act.put, List.setIfInBounds_toArray, List.set_cons_zero, List.set_cons_succ])
                refine wpAnyH_ready (rs := [13]) (by kernel_rfl) (by simp) ?_
                refine AllReadyH.cons rfl (fun K hK => ?_) AllReadyH.nil
                (try rw [if_pos (by kernel_rfl)])
                refine El.op_apps eDc Z95 25 (.agg #[.string ⟨#[]⟩, .int .i64 0, .slice none 0 0, .int .u8 0, .int .i64 0, .string ⟨#[]⟩, .slice none 0 0]) 104 Try.underlying25 dc_info rfl (by decide) (.tmp 84) (.tmp 86) rfl W0.heap.size (.slice a96 n97 c98) f1 rfl (HK94.out.r2 _ _ rfl) B2 d2 W0.heap.size f2 rfl hB2 ((HB2.out.below HK94.out.b)) (by first | omega | (simp; omega)) (by first | (simp [eDc]; omega) | omega) HK94.out.b.size ?_
                intro v9 Z100 ho9 hg9
                (try rw [List.nil_append] at ho9)
                have hkn := HK94.out.app2 ho9 hg9
                obtain ⟨a101, n102, c103, rfl, _, _, _, _⟩ := ho9.formN
                have HK99 := Lib.hid hkn
                change K (Act.put _ (some 87) (.slice a101 n102 c103)) Z100
                clear ho9 hg9 hkn
                refine hK.out _ _ (HCL.out _ HK99.out.b) (fun hHeld => ?_)
                clear hK K
                (try simp only [Act.put, List.setIfInBounds_toArray, List.set_cons_zero, List.set_cons_succ])
                refine heldTake (i := 14) (d := some 88) (v := ?_) rfl rfl (by kernel_rfl) (by kernel_rfl) (by kernel_rfl) (fun _ _ _ h => h) (by kernel_rfl) ?hyq_15 (by assumption) ?restq_15
                case hyq_15 => (intro W9 hSw; (try dsimp only at hSw); go_simp; try (with_reducible rfl))
                (try simp only [Act.put, List.setIfInBounds_toArray, List.set_cons_zero, List.set_cons_succ])
                refine wpAnyH_ready (rs := [16]) (by kernel_rfl) (by simp) ?_
                refine AllReadyH.cons rfl (fun K hK => ?_) AllReadyH.nil
                have hr3 := (HK99.out.r3 _ rfl).2
                have q0 := hr3.cell (j := 0) (by simp)
                have qf0 := hr3.frozen 0
                have q1 := hr3.cell (j := 1) (by simp)
                have qf1 := hr3.frozen 1
                simp only [List.getElem_cons_zero, List.getElem_cons_succ] at q0 q1
                have HE104 := Lib.hid HK99.out.store
                clear hr3
                go_simp
                refine hK.out _ _ (HCL.out _ HE104.out.1) (fun hHeld => ?_)
                clear hK K
                (try simp only [Act.put, List.setIfInBounds_toArray, List.set_cons_zero, List.set_cons_succ])
                refine wpAnyH_done (by kernel_rfl) ?_ _
                go_wp2_with fail
                go_meet
                exact ⟨_, rfl, HE104⟩
            · go_simp
              have hkn := HK64.out.al
              obtain ⟨Y106, hY⟩ : ∃ Y, Y65.alloc (.cells #[.slice none 0 0, .slice none 0 0] 27) = Y := ⟨_, rfl⟩
              rw [hY] at hkn ⊢
              have HK105 := Lib.hid hkn
              clear hY hkn
              refine hK.out _ _ (HCL.out _ HK105.out.b) (fun hHeld => ?_)
              clear hK K
              (try simp only [Act.put, List.setIfInBounds_toArray, List.set_cons_zero, List.set_cons_succ])
              refine wpAnyH_ready (rs := [6]) (by kernel_rfl) (by simp) ?_
              refine AllReadyH.cons rfl (fun K hK => ?_) AllReadyH.nil
              (try rw [if_pos (by kernel_rfl)])
              refine El.op_apps eSc Y106 24 (.agg #[.string ⟨#[]⟩, .slice none 0 0]) 40 Try.underlying24 sc_info rfl (by decide) (.tmp 77) (.tmp 79) rfl W0.heap.size (.slice a5 n6 c7) s1 rfl (HK105.out.r1 _ _ rfl) B1 d1 W0.heap.size s2 rfl hB1 ((HB1.out.below HK105.out.b)) (by first | omega | (simp; omega)) (by first | (simp [eSc]; omega) | omega) HK105.out.b.size ?_
              intro v9 Z108 ho9 hg9
              (try rw [List.nil_append] at ho9)
              have hkn := HK105.out.app1 ho9 hg9
              obtain ⟨a109, n110, c111, rfl, _, _, _, _⟩ := ho9.formN
              have HK107 := Lib.hid hkn
              change K (Act.put _ (some 80) (.slice a109 n110 c111)) Z108
              clear ho9 hg9 hkn
              refine hK.out _ _ (HCL.out _ HK107.out.b) (fun hHeld => ?_)
              clear hK K
              (try simp only [Act.put, List.setIfInBounds_toArray, List.set_cons_zero, List.set_cons_succ])
              refine wpAnyH_ready (rs := [10]) (by kernel_rfl) (by simp) ?_
              refine AllReadyH.cons rfl (fun K hK => ?_) AllReadyH.nil
              (try rw [if_pos (by kernel_rfl)])
              refine El.op_apps eDc Z108 25 (.agg #[.string ⟨#[]⟩, .int .i64 0, .slice none 0 0, .int .u8 0, .int .i64 0, .string ⟨#[]⟩, .slice none 0 0]) 104 Try.underlying25 dc_info rfl (by decide) (.tmp 81) (.tmp 83) rfl W0.heap.size (.slice (some ⟨Z4.heap.size, 0, none⟩) 0 0) [] rfl (HK107.out.r2 _ _ rfl) A2 c2 W0.heap.size f1 rfl hA2 ((HA2.out.below HK107.out.b)) (by first | omega | (simp; omega)) (by first | (simp [eDc]; omega) | omega) HK107.out.b.size ?_
              intro v9 Z113 ho9 hg9
              (try rw [List.nil_append] at ho9)
              have hkn := HK107.out.app2 ho9 hg9
              obtain ⟨a114, n115, c116, rfl, _, _, _, _⟩ := ho9.formN
              have HK112 := Lib.hid hkn
              change K (Act.put _ (some 84) (.slice a114 n115 c116)) Z113
              clear ho9 hg9 hkn
              refine hK.out _ _ (HCL.out _ HK112.out.b) (fun hHeld => ?_)
              clear hK K
              (try simp only [Act.put, List.setIfInBounds_toArray, List.set_cons_zero, List.set_cons_succ])
              refine wpAnyH_ready (rs := [13]) (by kernel_rfl) (by simp) ?_
              refine AllReadyH.cons rfl (fun K hK => ?_) AllReadyH.nil
              (try rw [if_pos (by kernel_rfl)])
              refine El.op_apps eDc Z113 25 (.agg #[.string ⟨#[]⟩, .int .i64 0, .slice none 0 0, .int .u8 0, .int .i64 0, .string ⟨#[]⟩, .slice none 0 0]) 104 Try.underlying25 dc_info rfl (by decide) (.tmp 84) (.tmp 86) rfl W0.heap.size (.slice a114 n115 c116) f1 rfl (HK112.out.r2 _ _ rfl) B2 d2 W0.heap.size f2 rfl hB2 ((HB2.out.below HK112.out.b)) (by first | omega | (simp; omega)) (by first | (simp [eDc]; omega) | omega) HK112.out.b.size ?_
              intro v9 Z118 ho9 hg9
              (try rw [List.nil_append] at ho9)
              have hkn := HK112.out.app2 ho9 hg9
              obtain ⟨a119, n120, c121, rfl, _, _, _, _⟩ := ho9.formN
              have HK117 := Lib.hid hkn
              change K (Act.put _ (some 87) (.slice a119 n120 c121)) Z118
              clear ho9 hg9 hkn
              refine hK.out _ _ (HCL.out _ HK117.out.b) (fun hHeld => ?_)
              clear hK K
              (try simp only [Act.put, List.setIfInBounds_toArray, List.set_cons_zero, List.set_cons_succ])
              refine heldTake (i := 14) (d := some 88) (v := ?_) rfl rfl (by kernel_rfl) (by kernel_rfl) (by kernel_rfl) (fun _ _ _ h => h) (by kernel_rfl) ?hyq_16 (by assumption) ?restq_16
              case hyq_16 => (intro W9 hSw; (try dsimp only at hSw); go_simp; try (with_reducible rfl))
              (try simp only [Act.put, List.setIfInBounds_toArray, List.set_cons_zero, List.set_cons_succ])
              refine wpAnyH_ready (rs := [16]) (by kernel_rfl) (by simp) ?_
              refine AllReadyH.cons rfl (fun K hK => ?_) AllReadyH.nil
              have hr3 := (HK117.out.r3 _ rfl).2
              have q0 := hr3.cell (j := 0) (by simp)
              have qf0 := hr3.frozen 0
              have q1 := hr3.cell (j := 1) (by simp)
              have qf1 := hr3.frozen 1
              simp only [List.getElem_cons_zero, List.getElem_cons_succ] at q0 q1
              have HE122 := Lib.hid HK117.out.store
              clear hr3
              go_simp
              refine hK.out _ _ (HCL.out _ HE122.out.1) (fun hHeld => ?_)
              clear hK K
              (try simp only [Act.put, List.setIfInBounds_toArray, List.set_cons_zero, List.set_cons_succ])
              refine wpAnyH_done (by kernel_rfl) ?_ _
              go_wp2_with fail
              go_meet
              exact ⟨_, rfl, HE122⟩
          · go_simp
            have hkn := HK3.out.al
            obtain ⟨Y124, hY⟩ : ∃ Y, Z4.alloc (.cells #[.slice none 0 0, .slice none 0 0] 27) = Y := ⟨_, rfl⟩
            rw [hY] at hkn ⊢
            have HK123 := Lib.hid hkn
            clear hY hkn
            refine hK.out _ _ (HCL.out _ HK123.out.b) (fun hHeld => ?_)
            clear hK K
            (try simp only [Act.put, List.setIfInBounds_toArray, List.set_cons_zero, List.set_cons_succ])
            refine wpAnyH_ready (rs := [6, 7]) (by kernel_rfl) (by simp) ?_
            refine AllReadyH.cons rfl (fun K hK => ?_) (AllReadyH.cons rfl (fun K hK => ?_) AllReadyH.nil)
            · (try rw [if_pos (by kernel_rfl)])
              refine El.op_apps eSc Y124 24 (.agg #[.string ⟨#[]⟩, .slice none 0 0]) 40 Try.underlying24 sc_info rfl (by decide) (.tmp 77) (.tmp 79) rfl W0.heap.size (.slice a5 n6 c7) s1 rfl (HK123.out.r1 _ _ rfl) B1 d1 W0.heap.size s2 rfl hB1 ((HB1.out.below HK123.out.b)) (by first | omega | (simp; omega)) (by first | (simp [eSc]; omega) | omega) HK123.out.b.size ?_
              intro v9 Z126 ho9 hg9
              (try rw [List.nil_append] at ho9)
              have hkn := HK123.out.app1 ho9 hg9
              obtain ⟨a127, n128, c129, rfl, _, _, _, _⟩ := ho9.formN
              have HK125 := Lib.hid hkn
              change K (Act.put _ (some 80) (.slice a127 n128 c129)) Z126
              clear ho9 hg9 hkn
              refine hK.out _ _ (HCL.out _ HK125.out.b) (fun hHeld => ?_)
              clear hK K
              (try simp only [Act.put, List.setIfInBounds_toArray, List.set_cons_zero, List.set_cons_succ])
              refine wpAnyH_ready (rs := [7]) (by kernel_rfl) (by simp) ?_
              refine AllReadyH.cons rfl (fun K hK => ?_) AllReadyH.nil
              go_simp
              have hkn := HK125.out.build2
              obtain ⟨Y131, hY⟩ : ∃ Y, Z126.alloc (.cells #[] 50) = Y := ⟨_, rfl⟩
              rw [hY] at hkn ⊢
              have HK130 := Lib.hid hkn
              clear hY hkn
              refine hK.out _ _ (HCL.out _ HK130.out.b) (fun hHeld => ?_)
              clear hK K
              (try simp only [Act.put, List.setIfInBounds_toArray, List.set_cons_zero, List.set_cons_succ])
              refine wpAnyH_ready (rs := [10]) (by kernel_rfl) (by simp) ?_
              refine AllReadyH.cons rfl (fun K hK => ?_) AllReadyH.nil
              (try rw [if_pos (by kernel_rfl)])
              refine El.op_apps eDc Y131 25 (.agg #[.string ⟨#[]⟩, .int .i64 0, .slice none 0 0, .int .u8 0, .int .i64 0, .string ⟨#[]⟩, .slice none 0 0]) 104 Try.underlying25 dc_info rfl (by decide) (.tmp 81) (.tmp 83) rfl W0.heap.size (.slice (some ⟨Z126.heap.size, 0, none⟩) 0 0) [] rfl (HK130.out.r2 _ _ rfl) A2 c2 W0.heap.size f1 rfl hA2 ((HA2.out.below HK130.out.b)) (by first | omega | (simp; omega)) (by first | (simp [eDc]; omega) | omega) HK130.out.b.size ?_
              intro v9 Z133 ho9 hg9
              (try rw [List.nil_append] at ho9)
              have hkn := HK130.out.app2 ho9 hg9
              obtain ⟨a134, n135, c136, rfl, _, _, _, _⟩ := ho9.formN
              have HK132 := Lib.hid hkn
              change K (Act.put _ (some 84) (.slice a134 n135 c136)) Z133
              clear ho9 hg9 hkn
              refine hK.out _ _ (HCL.out _ HK132.out.b) (fun hHeld => ?_)
              clear hK K
              (try simp only [Act.put, List.setIfInBounds_toArray, List.set_cons_zero, List.set_cons_succ])
              refine wpAnyH_ready (rs := [13]) (by kernel_rfl) (by simp) ?_
              refine AllReadyH.cons rfl (fun K hK => ?_) AllReadyH.nil
              (try rw [if_pos (by kernel_rfl)])
              refine El.op_apps eDc Z133 25 (.agg #[.string ⟨#[]⟩, .int .i64 0, .slice none 0 0, .int .u8 0, .int .i64 0, .string ⟨#[]⟩, .slice none 0 0]) 104 Try.underlying25 dc_info rfl (by decide) (.tmp 84) (.tmp 86) rfl W0.heap.size (.slice a134 n135 c136) f1 rfl (HK132.out.r2 _ _ rfl) B2 d2 W0.heap.size f2 rfl hB2 ((HB2.out.below HK132.out.b)) (by first | omega | (simp; omega)) (by first | (simp [eDc]; omega) | omega) HK132.out.b.size ?_
              intro v9 Z138 ho9 hg9
              (try rw [List.nil_append] at ho9)
              have hkn := HK132.out.app2 ho9 hg9
              obtain ⟨a139, n140, c141, rfl, _, _, _, _⟩ := ho9.formN
              have HK137 := Lib.hid hkn
              change K (Act.put _ (some 87) (.slice a139 n140 c141)) Z138
              clear ho9 hg9 hkn
              refine hK.out _ _ (HCL.out _ HK137.out.b) (fun hHeld => ?_)
              clear hK K
              (try simp only [Act.put, List.setIfInBounds_toArray, List.set_cons_zero, List.set_cons_succ])
              refine heldTake (i := 14) (d := some 88) (v := ?_) rfl rfl (by kernel_rfl) (by kernel_rfl) (by kernel_rfl) (fun _ _ _ h => h) (by kernel_rfl) ?hyq_17 (by assumption) ?restq_17
              case hyq_17 => (intro W9 hSw; (try dsimp only at hSw); go_simp; try (with_reducible rfl))
              (try simp only [Act.put, List.setIfInBounds_toArray, List.set_cons_zero, List.set_cons_succ])
              refine wpAnyH_ready (rs := [16]) (by kernel_rfl) (by simp) ?_
              refine AllReadyH.cons rfl (fun K hK => ?_) AllReadyH.nil
              have hr3 := (HK137.out.r3 _ rfl).2
              have q0 := hr3.cell (j := 0) (by simp)
              have qf0 := hr3.frozen 0
              have q1 := hr3.cell (j := 1) (by simp)
              have qf1 := hr3.frozen 1
              simp only [List.getElem_cons_zero, List.getElem_cons_succ] at q0 q1
              have HE142 := Lib.hid HK137.out.store
              clear hr3
              go_simp
              refine hK.out _ _ (HCL.out _ HE142.out.1) (fun hHeld => ?_)
              clear hK K
              (try simp only [Act.put, List.setIfInBounds_toArray, List.set_cons_zero, List.set_cons_succ])
              refine wpAnyH_done (by kernel_rfl) ?_ _
              go_wp2_with fail
              go_meet
              exact ⟨_, rfl, HE142⟩
            · go_simp
              have hkn := HK123.out.build2
              obtain ⟨Y144, hY⟩ : ∃ Y, Y124.alloc (.cells #[] 50) = Y := ⟨_, rfl⟩
              rw [hY] at hkn ⊢
              have HK143 := Lib.hid hkn
              clear hY hkn
              refine hK.out _ _ (HCL.out _ HK143.out.b) (fun hHeld => ?_)
              clear hK K
              (try simp only [Act.put, List.setIfInBounds_toArray, List.set_cons_zero, List.set_cons_succ])
              refine wpAnyH_ready (rs := [6]) (by kernel_rfl) (by simp) ?_
              refine AllReadyH.cons rfl (fun K hK => ?_) AllReadyH.nil
              (try rw [if_pos (by kernel_rfl)])
              refine El.op_apps eSc Y144 24 (.agg #[.string ⟨#[]⟩, .slice none 0 0]) 40 Try.underlying24 sc_info rfl (by decide) (.tmp 77) (.tmp 79) rfl W0.heap.size (.slice a5 n6 c7) s1 rfl (HK143.out.r1 _ _ rfl) B1 d1 W0.heap.size s2 rfl hB1 ((HB1.out.below HK143.out.b)) (by first | omega | (simp; omega)) (by first | (simp [eSc]; omega) | omega) HK143.out.b.size ?_
              intro v9 Z146 ho9 hg9
              (try rw [List.nil_append] at ho9)
              have hkn := HK143.out.app1 ho9 hg9
              obtain ⟨a147, n148, c149, rfl, _, _, _, _⟩ := ho9.formN
              have HK145 := Lib.hid hkn
              change K (Act.put _ (some 80) (.slice a147 n148 c149)) Z146
              clear ho9 hg9 hkn
              refine hK.out _ _ (HCL.out _ HK145.out.b) (fun hHeld => ?_)
              clear hK K
              (try simp only [Act.put, List.setIfInBounds_toArray, List.set_cons_zero, List.set_cons_succ])
              refine wpAnyH_ready (rs := [10]) (by kernel_rfl) (by simp) ?_
              refine AllReadyH.cons rfl (fun K hK => ?_) AllReadyH.nil
              (try rw [if_pos (by kernel_rfl)])
              refine El.op_apps eDc Z146 25 (.agg #[.string ⟨#[]⟩, .int .i64 0, .slice none 0 0, .int .u8 0, .int .i64 0, .string ⟨#[]⟩, .slice none 0 0]) 104 Try.underlying25 dc_info rfl (by decide) (.tmp 81) (.tmp 83) rfl W0.heap.size (.slice (some ⟨Y124.heap.size, 0, none⟩) 0 0) [] rfl (HK145.out.r2 _ _ rfl) A2 c2 W0.heap.size f1 rfl hA2 ((HA2.out.below HK145.out.b)) (by first | omega | (simp; omega)) (by first | (simp [eDc]; omega) | omega) HK145.out.b.size ?_
              intro v9 Z151 ho9 hg9
              (try rw [List.nil_append] at ho9)
              have hkn := HK145.out.app2 ho9 hg9
              obtain ⟨a152, n153, c154, rfl, _, _, _, _⟩ := ho9.formN
              have HK150 := Lib.hid hkn
              change K (Act.put _ (some 84) (.slice a152 n153 c154)) Z151
              clear ho9 hg9 hkn
              refine hK.out _ _ (HCL.out _ HK150.out.b) (fun hHeld => ?_)
              clear hK K
              (try simp only [Act.put, List.setIfInBounds_toArray, List.set_cons_zero, List.set_cons_succ])
              refine wpAnyH_ready (rs := [13]) (by kernel_rfl) (by simp) ?_
              refine AllReadyH.cons rfl (fun K hK => ?_) AllReadyH.nil
              (try rw [if_pos (by kernel_rfl)])
              refine El.op_apps eDc Z151 25 (.agg #[.string ⟨#[]⟩, .int .i64 0, .slice none 0 0, .int .u8 0, .int .i64 0, .string ⟨#[]⟩, .slice none 0 0]) 104 Try.underlying25 dc_info rfl (by decide) (.tmp 84) (.tmp 86) rfl W0.heap.size (.slice a152 n153 c154) f1 rfl (HK150.out.r2 _ _ rfl) B2 d2 W0.heap.size f2 rfl hB2 ((HB2.out.below HK150.out.b)) (by first | omega | (simp; omega)) (by first | (simp [eDc]; omega) | omega) HK150.out.b.size ?_
              intro v9 Z156 ho9 hg9
              (try rw [List.nil_append] at ho9)
              have hkn := HK150.out.app2 ho9 hg9
              obtain ⟨a157, n158, c159, rfl, _, _, _, _⟩ := ho9.formN
              have HK155 := Lib.hid hkn
              change K (Act.put _ (some 87) (.slice a157 n158 c159)) Z156
              clear ho9 hg9 hkn
              refine hK.out _ _ (HCL.out _ HK155.out.b) (fun hHeld => ?_)
              clear hK K
              (try simp only [Act.put, List.setIfInBounds_toArray, List.set_cons_zero, List.set_cons_succ])
              refine heldTake (i := 14) (d := some 88) (v := ?_) rfl rfl (by kernel_rfl) (by kernel_rfl) (by kernel_rfl) (fun _ _ _ h => h) (by kernel_rfl) ?hyq_18 (by assumption) ?restq_18
              case hyq_18 => (intro W9 hSw; (try dsimp only at hSw); go_simp; try (with_reducible rfl))
              (try simp only [Act.put, List.setIfInBounds_toArray, List.set_cons_zero, List.set_cons_succ])
              refine wpAnyH_ready (rs := [16]) (by kernel_rfl) (by simp) ?_
              refine AllReadyH.cons rfl (fun K hK => ?_) AllReadyH.nil
              have hr3 := (HK155.out.r3 _ rfl).2
              have q0 := hr3.cell (j := 0) (by simp)
              have qf0 := hr3.frozen 0
              have q1 := hr3.cell (j := 1) (by simp)
              have qf1 := hr3.frozen 1
              simp only [List.getElem_cons_zero, List.getElem_cons_succ] at q0 q1
              have HE160 := Lib.hid HK155.out.store
              clear hr3
              go_simp
              refine hK.out _ _ (HCL.out _ HE160.out.1) (fun hHeld => ?_)
              clear hK K
              (try simp only [Act.put, List.setIfInBounds_toArray, List.set_cons_zero, List.set_cons_succ])
              refine wpAnyH_done (by kernel_rfl) ?_ _
              go_wp2_with fail
              go_meet
              exact ⟨_, rfl, HE160⟩
        · go_simp
          have hkn := HK1.out.build2
          obtain ⟨Y162, hY⟩ : ∃ Y, Y2.alloc (.cells #[] 50) = Y := ⟨_, rfl⟩
          rw [hY] at hkn ⊢
          have HK161 := Lib.hid hkn
          clear hY hkn
          refine hK.out _ _ (HCL.out _ HK161.out.b) (fun hHeld => ?_)
          clear hK K
          (try simp only [Act.put, List.setIfInBounds_toArray, List.set_cons_zero, List.set_cons_succ])
          refine wpAnyH_ready (rs := [3, 15]) (by kernel_rfl) (by simp) ?_
          refine AllReadyH.cons rfl (fun K hK => ?_) (AllReadyH.cons rfl (fun K hK => ?_) AllReadyH.nil)
          · (try rw [if_pos (by kernel_rfl)])
            refine El.op_apps eSc Y162 24 (.agg #[.string ⟨#[]⟩, .slice none 0 0]) 40 Try.underlying24 sc_info rfl (by decide) (.tmp 74) (.tmp 76) rfl W0.heap.size (.slice (some ⟨Wd.heap.size, 0, none⟩) 0 0) [] rfl (HK161.out.r1 _ _ rfl) A1 c1 W0.heap.size s1 rfl hA1 ((HA1.out.below HK161.out.b)) (by first | omega | (simp; omega)) (by first | (simp [eSc]; omega) | omega) HK161.out.b.size ?_
            intro v9 Z164 ho9 hg9
            (try rw [List.nil_append] at ho9)
            have hkn := HK161.out.app1 ho9 hg9
            obtain ⟨a165, n166, c167, rfl, _, _, _, _⟩ := ho9.formN
            have HK163 := Lib.hid hkn
            change K (Act.put _ (some 77) (.slice a165 n166 c167)) Z164
            clear ho9 hg9 hkn
            refine hK.out _ _ (HCL.out _ HK163.out.b) (fun hHeld => ?_)
            clear hK K
            (try simp only [Act.put, List.setIfInBounds_toArray, List.set_cons_zero, List.set_cons_succ])
            refine wpAnyH_ready (rs := [6, 15]) (by kernel_rfl) (by simp) ?_
            refine AllReadyH.cons rfl (fun K hK => ?_) (AllReadyH.cons rfl (fun K hK => ?_) AllReadyH.nil)
            · (try rw [if_pos (by kernel_rfl)])
              refine El.op_apps eSc Z164 24 (.agg #[.string ⟨#[]⟩, .slice none 0 0]) 40 Try.underlying24 sc_info rfl (by decide) (.tmp 77) (.tmp 79) rfl W0.heap.size (.slice a165 n166 c167) s1 rfl (HK163.out.r1 _ _ rfl) B1 d1 W0.heap.size s2 rfl hB1 ((HB1.out.below HK163.out.b)) (by first | omega | (simp; omega)) (by first | (simp [eSc]; omega) | omega) HK163.out.b.size ?_
              intro v9 Z169 ho9 hg9
              (try rw [List.nil_append] at ho9)
              have hkn := HK163.out.app1 ho9 hg9
              obtain ⟨a170, n171, c172, rfl, _, _, _, _⟩ := ho9.formN
              have HK168 := Lib.hid hkn
              change K (Act.put _ (some 80) (.slice a170 n171 c172)) Z169
              clear ho9 hg9 hkn
              refine hK.out _ _ (HCL.out _ HK168.out.b) (fun hHeld => ?_)
              clear hK K
              (try simp only [Act.put, List.setIfInBounds_toArray, List.set_cons_zero, List.set_cons_succ])
              refine wpAnyH_ready (rs := [10, 15]) (by kernel_rfl) (by simp) ?_
              refine AllReadyH.cons rfl (fun K hK => ?_) (AllReadyH.cons rfl (fun K hK => ?_) AllReadyH.nil)
              · (try rw [if_pos (by kernel_rfl)])
                refine El.op_apps eDc Z169 25 (.agg #[.string ⟨#[]⟩, .int .i64 0, .slice none 0 0, .int .u8 0, .int .i64 0, .string ⟨#[]⟩, .slice none 0 0]) 104 Try.underlying25 dc_info rfl (by decide) (.tmp 81) (.tmp 83) rfl W0.heap.size (.slice (some ⟨Y2.heap.size, 0, none⟩) 0 0) [] rfl (HK168.out.r2 _ _ rfl) A2 c2 W0.heap.size f1 rfl hA2 ((HA2.out.below HK168.out.b)) (by first | omega | (simp; omega)) (by first | (simp [eDc]; omega) | omega) HK168.out.b.size ?_
                intro v9 Z174 ho9 hg9
                (try rw [List.nil_append] at ho9)
                have hkn := HK168.out.app2 ho9 hg9
                obtain ⟨a175, n176, c177, rfl, _, _, _, _⟩ := ho9.formN
                have HK173 := Lib.hid hkn
                change K (Act.put _ (some 84) (.slice a175 n176 c177)) Z174
                clear ho9 hg9 hkn
                refine hK.out _ _ (HCL.out _ HK173.out.b) (fun hHeld => ?_)
                clear hK K
                (try simp only [Act.put, List.setIfInBounds_toArray, List.set_cons_zero, List.set_cons_succ])
                refine wpAnyH_ready (rs := [13, 15]) (by kernel_rfl) (by simp) ?_
                refine AllReadyH.cons rfl (fun K hK => ?_) (AllReadyH.cons rfl (fun K hK => ?_) AllReadyH.nil)
                · (try rw [if_pos (by kernel_rfl)])
                  refine El.op_apps eDc Z174 25 (.agg #[.string ⟨#[]⟩, .int .i64 0, .slice none 0 0, .int .u8 0, .int .i64 0, .string ⟨#[]⟩, .slice none 0 0]) 104 Try.underlying25 dc_info rfl (by decide) (.tmp 84) (.tmp 86) rfl W0.heap.size (.slice a175 n176 c177) f1 rfl (HK173.out.r2 _ _ rfl) B2 d2 W0.heap.size f2 rfl hB2 ((HB2.out.below HK173.out.b)) (by first | omega | (simp; omega)) (by first | (simp [eDc]; omega) | omega) HK173.out.b.size ?_
                  intro v9 Z179 ho9 hg9
                  (try rw [List.nil_append] at ho9)
                  have hkn := HK173.out.app2 ho9 hg9
                  obtain ⟨a180, n181, c182, rfl, _, _, _, _⟩ := ho9.formN
                  have HK178 := Lib.hid hkn
                  change K (Act.put _ (some 87) (.slice a180 n181 c182)) Z179
                  clear ho9 hg9 hkn
                  refine hK.out _ _ (HCL.out _ HK178.out.b) (fun hHeld => ?_)
                  clear hK K
                  (try simp only [Act.put, List.setIfInBounds_toArray, List.set_cons_zero, List.set_cons_succ])
                  refine heldTake (i := 14) (d := some 88) (v := ?_) rfl rfl (by kernel_rfl) (by kernel_rfl) (by kernel_rfl) (fun _ _ _ h => h) (by kernel_rfl) ?hyq_19 (by assumption) ?restq_19
                  case hyq_19 => (intro W9 hSw; (try dsimp only at hSw); go_simp; try (with_reducible rfl))
                  (try simp only [Act.put, List.setIfInBounds_toArray, List.set_cons_zero, List.set_cons_succ])
                  refine wpAnyH_ready (rs := [15]) (by kernel_rfl) (by simp) ?_
                  refine AllReadyH.cons rfl (fun K hK => ?_) AllReadyH.nil
                  go_simp
                  have hkn := HK178.out.al
                  obtain ⟨Y184, hY⟩ : ∃ Y, Z179.alloc (.cells #[.slice none 0 0, .slice none 0 0] 27) = Y := ⟨_, rfl⟩
                  rw [hY] at hkn ⊢
                  have HK183 := Lib.hid hkn
                  clear hY hkn
                  refine hK.out _ _ (HCL.out _ HK183.out.b) (fun hHeld => ?_)
                  clear hK K
                  (try simp only [Act.put, List.setIfInBounds_toArray, List.set_cons_zero, List.set_cons_succ])
                  refine wpAnyH_ready (rs := [16]) (by kernel_rfl) (by simp) ?_
                  refine AllReadyH.cons rfl (fun K hK => ?_) AllReadyH.nil
                  have hr3 := (HK183.out.r3 _ rfl).2
                  have q0 := hr3.cell (j := 0) (by simp)
                  have qf0 := hr3.frozen 0
                  have q1 := hr3.cell (j := 1) (by simp)
                  have qf1 := hr3.frozen 1
                  simp only [List.getElem_cons_zero, List.getElem_cons_succ] at q0 q1
                  have HE185 := Lib.hid HK183.out.store
                  clear hr3
                  go_simp
                  refine hK.out _ _ (HCL.out _ HE185.out.1) (fun hHeld => ?_)
                  clear hK K
                  (try simp only [Act.put, List.setIfInBounds_toArray, List.set_cons_zero, List.set_cons_succ])
                  refine wpAnyH_done (by kernel_rfl) ?_ _
                  go_wp2_with fail
                  go_meet
                  exact ⟨_, rfl, HE185⟩
                · go_simp
                  have hkn := HK173.out.al
                  obtain ⟨Y187, hY⟩ : ∃ Y, Z174.alloc (.cells #[.slice none 0 0, .slice none 0 0] 27) = Y := ⟨_, rfl⟩
                  rw [hY] at hkn ⊢
                  have HK186 := Lib.hid hkn
                  clear hY hkn
                  refine hK.out _ _ (HCL.out _ HK186.out.b) (fun hHeld => ?_)
                  clear hK K
                  (try simp only [Act.put, List.setIfInBounds_toArray, List.set_cons_zero, List.set_cons_succ])
                  refine wpAnyH_ready (rs := [13]) (by kernel_rfl) (by simp) ?_
                  refine AllReadyH.cons rfl (fun K hK => ?_) AllReadyH.nil
                  (try rw [if_pos (by kernel_rfl)])
                  refine El.op_apps eDc Y187 25 (.agg #[.string ⟨#[]⟩, .int .i64 0, .slice none 0 0, .int .u8 0, .int .i64 0, .string ⟨#[]⟩, .slice none 0 0]) 104 Try.underlying25 dc_info rfl (by decide) (.tmp 84) (.tmp 86) rfl W0.heap.size (.slice a175 n176 c177) f1 rfl (HK186.out.r2 _ _ rfl) B2 d2 W0.heap.size f2 rfl hB2 ((HB2.out.below HK186.out.b)) (by first | omega | (simp; omega)) (by first | (simp [eDc]; omega) | omega) HK186.out.b.size ?_
                  intro v9 Z189 ho9 hg9
                  (try rw [List.nil_append] at ho9)
                  have hkn := HK186.out.app2 ho9 hg9
                  obtain ⟨a190, n191, c192, rfl, _, _, _, _⟩ := ho9.formN
                  have HK188 := Lib.hid hkn
                  change K (Act.put _ (some 87) (.slice a190 n191 c192)) Z189
                  clear ho9 hg9 hkn
                  refine hK.out _ _ (HCL.out _ HK188.out.b) (fun hHeld => ?_)
                  clear hK K
                  (try simp only [Act.put, List.setIfInBounds_toArray, List.set_cons_zero, List.set_cons_succ])
                  refine heldTake (i := 14) (d := some 88) (v := ?_) rfl rfl (by kernel_rfl) (by kernel_rfl) (by kernel_rfl) (fun _ _ _ h => h) (by kernel_rfl) ?hyq_20 (by assumption) ?restq_20
                  case hyq_20 => (intro W9 hSw; (try dsimp only at hSw); go_simp; try (with_reducible rfl))
                  (try simp only [Act.put, List.setIfInBounds_toArray, List.set_cons_zero, List.set_cons_succ])
                  refine wpAnyH_ready (rs := [16]) (by kernel_rfl) (by simp) ?_
                  refine AllReadyH.cons rfl (fun K hK => ?_) AllReadyH.nil
                  have hr3 := (HK188.out.r3 _ rfl).2
                  have q0 := hr3.cell (j := 0) (by simp)
                  have qf0 := hr3.frozen 0
                  have q1 := hr3.cell (j := 1) (by simp)
                  have qf1 := hr3.frozen 1
                  simp only [List.getElem_cons_zero, List.getElem_cons_succ] at q0 q1
                  have HE193 := Lib.hid HK188.out.store
                  clear hr3
                  go_simp
                  refine hK.out _ _ (HCL.out _ HE193.out.1) (fun hHeld => ?_)
                  clear hK K
                  (try simp only [Act.put, List.setIfInBounds_toArray, List.set_cons_zero, List.set_cons_succ])
                  refine wpAnyH_done (by kernel_rfl) ?_ _
                  go_wp2_with fail
                  go_meet
                  exact ⟨_, rfl, HE193⟩
              · go_simp
                have hkn := HK168.out.al
                obtain ⟨Y195, hY⟩ : ∃ Y, Z169.alloc (.cells #[.slice none 0 0, .slice none 0 0] 27) = Y := ⟨_, rfl⟩
                rw [hY] at hkn ⊢
                have HK194 := Lib.hid hkn
                clear hY hkn
                refine hK.out _ _ (HCL.out _ HK194.out.b) (fun hHeld => ?_)
                clear hK K
                (try simp only [Act.put, List.setIfInBounds_toArray, List.set_cons_zero, List.set_cons_succ])
                refine wpAnyH_ready (rs := [10]) (by kernel_rfl) (by simp) ?_
                refine AllReadyH.cons rfl (fun K hK => ?_) AllReadyH.nil
                (try rw [if_pos (by kernel_rfl)])
                refine El.op_apps eDc Y195 25 (.agg #[.string ⟨#[]⟩, .int .i64 0, .slice none 0 0, .int .u8 0, .int .i64 0, .string ⟨#[]⟩, .slice none 0 0]) 104 Try.underlying25 dc_info rfl (by decide) (.tmp 81) (.tmp 83) rfl W0.heap.size (.slice (some ⟨Y2.heap.size, 0, none⟩) 0 0) [] rfl (HK194.out.r2 _ _ rfl) A2 c2 W0.heap.size f1 rfl hA2 ((HA2.out.below HK194.out.b)) (by first | omega | (simp; omega)) (by first | (simp [eDc]; omega) | omega) HK194.out.b.size ?_
                intro v9 Z197 ho9 hg9
                (try rw [List.nil_append] at ho9)
                have hkn := HK194.out.app2 ho9 hg9
                obtain ⟨a198, n199, c200, rfl, _, _, _, _⟩ := ho9.formN
                have HK196 := Lib.hid hkn
                change K (Act.put _ (some 84) (.slice a198 n199 c200)) Z197
                clear ho9 hg9 hkn
                refine hK.out _ _ (HCL.out _ HK196.out.b) (fun hHeld => ?_)
                clear hK K
                (try simp only [Act.put, List.setIfInBounds_toArray, List.set_cons_zero, List.set_cons_succ])
                refine wpAnyH_ready (rs := [13]) (by kernel_rfl) (by simp) ?_
                refine AllReadyH.cons rfl (fun K hK => ?_) AllReadyH.nil
                (try rw [if_pos (by kernel_rfl)])
                refine El.op_apps eDc Z197 25 (.agg #[.string ⟨#[]⟩, .int .i64 0, .slice none 0 0, .int .u8 0, .int .i64 0, .string ⟨#[]⟩, .slice none 0 0]) 104 Try.underlying25 dc_info rfl (by decide) (.tmp 84) (.tmp 86) rfl W0.heap.size (.slice a198 n199 c200) f1 rfl (HK196.out.r2 _ _ rfl) B2 d2 W0.heap.size f2 rfl hB2 ((HB2.out.below HK196.out.b)) (by first | omega | (simp; omega)) (by first | (simp [eDc]; omega) | omega) HK196.out.b.size ?_
                intro v9 Z202 ho9 hg9
                (try rw [List.nil_append] at ho9)
                have hkn := HK196.out.app2 ho9 hg9
                obtain ⟨a203, n204, c205, rfl, _, _, _, _⟩ := ho9.formN
                have HK201 := Lib.hid hkn
                change K (Act.put _ (some 87) (.slice a203 n204 c205)) Z202
                clear ho9 hg9 hkn
                refine hK.out _ _ (HCL.out _ HK201.out.b) (fun hHeld => ?_)
                clear hK K
                (try simp only [Act.put, List.setIfInBounds_toArray, List.set_cons_zero, List.set_cons_succ])
                refine heldTake (i := 14) (d := some 88) (v := ?_) rfl rfl (by kernel_rfl) (by kernel_rfl) (by kernel_rfl) (fun _ _ _ h => h) (by kernel_rfl) ?hyq_21 (by assumption) ?restq_21
                case hyq_21 => (intro W9 hSw; (try dsimp only at hSw); go_simp; try (with_reducible rfl))
                (try simp only [Act.put, List.setIfInBounds_toArray, List.set_cons_zero, List.set_cons_succ])
                refine wpAnyH_ready (rs := [16]) (by kernel_rfl) (by simp) ?_
                refine AllReadyH.cons rfl (fun K hK => ?_) AllReadyH.nil
                have hr3 := (HK201.out.r3 _ rfl).2
                have q0 := hr3.cell (j := 0) (by simp)
                have qf0 := hr3.frozen 0
                have q1 := hr3.cell (j := 1) (by simp)
                have qf1 := hr3.frozen 1
                simp only [List.getElem_cons_zero, List.getElem_cons_succ] at q0 q1
                have HE206 := Lib.hid HK201.out.store
                clear hr3
                go_simp
                refine hK.out _ _ (HCL.out _ HE206.out.1) (fun hHeld => ?_)
                clear hK K
                (try simp only [Act.put, List.setIfInBounds_toArray, List.set_cons_zero, List.set_cons_succ])
                refine wpAnyH_done (by kernel_rfl) ?_ _
                go_wp2_with fail
                go_meet
                exact ⟨_, rfl, HE206⟩
            · go_simp
              have hkn := HK163.out.al
              obtain ⟨Y208, hY⟩ : ∃ Y, Z164.alloc (.cells #[.slice none 0 0, .slice none 0 0] 27) = Y := ⟨_, rfl⟩
              rw [hY] at hkn ⊢
              have HK207 := Lib.hid hkn
              clear hY hkn
              refine hK.out _ _ (HCL.out _ HK207.out.b) (fun hHeld => ?_)
              clear hK K
              (try simp only [Act.put, List.setIfInBounds_toArray, List.set_cons_zero, List.set_cons_succ])
              refine wpAnyH_ready (rs := [6]) (by kernel_rfl) (by simp) ?_
              refine AllReadyH.cons rfl (fun K hK => ?_) AllReadyH.nil
              (try rw [if_pos (by kernel_rfl)])
              refine El.op_apps eSc Y208 24 (.agg #[.string ⟨#[]⟩, .slice none 0 0]) 40 Try.underlying24 sc_info rfl (by decide) (.tmp 77) (.tmp 79) rfl W0.heap.size (.slice a165 n166 c167) s1 rfl (HK207.out.r1 _ _ rfl) B1 d1 W0.heap.size s2 rfl hB1 ((HB1.out.below HK207.out.b)) (by first | omega | (simp; omega)) (by first | (simp [eSc]; omega) | omega) HK207.out.b.size ?_
              intro v9 Z210 ho9 hg9
              (try rw [List.nil_append] at ho9)
              have hkn := HK207.out.app1 ho9 hg9
              obtain ⟨a211, n212, c213, rfl, _, _, _, _⟩ := ho9.formN
              have HK209 := Lib.hid hkn
              change K (Act.put _ (some 80) (.slice a211 n212 c213)) Z210
              clear ho9 hg9 hkn
              refine hK.out _ _ (HCL.out _ HK209.out.b) (fun hHeld => ?_)
              clear hK K
              (try simp only [Act.put, List.setIfInBounds_toArray, List.set_cons_zero, List.set_cons_succ])
              refine wpAnyH_ready (rs := [10]) (by kernel_rfl) (by simp) ?_
              refine AllReadyH.cons rfl (fun K hK => ?_) AllReadyH.nil
              (try rw [if_pos (by kernel_rfl)])
              refine El.op_apps eDc Z210 25 (.agg #[.string ⟨#[]⟩, .int .i64 0, .slice none 0 0, .int .u8 0, .int .i64 0, .string ⟨#[]⟩, .slice none 0 0]) 104 Try.underlying25 dc_info rfl (by decide) (.tmp 81) (.tmp 83) rfl W0.heap.size (.slice (some ⟨Y2.heap.size, 0, none⟩) 0 0) [] rfl (HK209.out.r2 _ _ rfl) A2 c2 W0.heap.size f1 rfl hA2 ((HA2.out.below HK209.out.b)) (by first | omega | (simp; omega)) (by first | (simp [eDc]; omega) | omega) HK209.out.b.size ?_
              intro v9 Z215 ho9 hg9
              (try rw [List.nil_append] at ho9)
              have hkn := HK209.out.app2 ho9 hg9
              obtain ⟨a216, n217, c218, rfl, _, _, _, _⟩ := ho9.formN
              have HK214 := Lib.hid hkn
              change K (Act.put _ (some 84) (.slice a216 n217 c218)) Z215
              clear ho9 hg9 hkn
              refine hK.out _ _ (HCL.out _ HK214.out.b) (fun hHeld => ?_)
              clear hK K
              (try simp only [Act.put, List.setIfInBounds_toArray, List.set_cons_zero, List.set_cons_succ])
              refine wpAnyH_ready (rs := [13]) (by kernel_rfl) (by simp) ?_
              refine AllReadyH.cons rfl (fun K hK => ?_) AllReadyH.nil
              (try rw [if_pos (by kernel_rfl)])
              refine El.op_apps eDc Z215 25 (.agg #[.string ⟨#[]⟩, .int .i64 0, .slice none 0 0, .int .u8 0, .int .i64 0, .string ⟨#[]⟩, .slice none 0 0]) 104 Try.underlying25 dc_info rfl (by decide) (.tmp 84) (.tmp 86) rfl W0.heap.size (.slice a216 n217 c218) f1 rfl (HK214.out.r2 _ _ rfl) B2 d2 W0.heap.size f2 rfl hB2 ((HB2.out.below HK214.out.b)) (by first | omega | (simp; omega)) (by first | (simp [eDc]; omega) | omega) HK214.out.b.size ?_
              intro v9 Z220 ho9 hg9
              (try rw [List.nil_append] at ho9)
              have hkn := HK214.out.app2 ho9 hg9
              obtain ⟨a221, n222, c223, rfl, _, _, _, _⟩ := ho9.formN
              have HK219 := Lib.hid hkn
              change K (Act.put _ (some 87) (.slice a221 n222 c223)) Z220
              clear ho9 hg9 hkn
              refine hK.out _ _ (HCL.out _ HK219.out.b) (fun hHeld => ?_)
              clear hK K
              (try simp only [Act.put, List.setIfInBounds_toArray, List.set_cons_zero, List.set_cons_succ])
              refine heldTake (i := 14) (d := some 88) (v := ?_) rfl rfl (by kernel_rfl) (by kernel_rfl) (by kernel_rfl) (fun _ _ _ h => h) (by kernel_rfl) ?hyq_22 (by assumption) ?restq_22
              case hyq_22 => (intro W9 hSw; (try dsimp only at hSw); go_simp; try (with_reducible rfl))
              (try simp only [Act.put, List.setIfInBounds_toArray, List.set_cons_zero, List.set_cons_succ])
              refine wpAnyH_ready (rs := [16]) (by kernel_rfl) (by simp) ?_
              refine AllReadyH.cons rfl (fun K hK => ?_) AllReadyH.nil
              have hr3 := (HK219.out.r3 _ rfl).2
              have q0 := hr3.cell (j := 0) (by simp)
              have qf0 := hr3.frozen 0
              have q1 := hr3.cell (j := 1) (by simp)
              have qf1 := hr3.frozen 1
              simp only [List.getElem_cons_zero, List.getElem_cons_succ] at q0 q1
              have HE224 := Lib.hid HK219.out.store
              clear hr3
              go_simp
              refine hK.out _ _ (HCL.out _ HE224.out.1) (fun hHeld => ?_)
              clear hK K
              (try simp only [Act.put, List.setIfInBounds_toArray, List.set_cons_zero, List.set_cons_succ])
              refine wpAnyH_done (by kernel_rfl) ?_ _
              go_wp2_with fail
              go_meet
              exact ⟨_, rfl, HE224⟩
          · go_simp
            have hkn := HK161.out.al
            obtain ⟨Y226, hY⟩ : ∃ Y, Y162.alloc (.cells #[.slice none 0 0, .slice none 0 0] 27) = Y := ⟨_, rfl⟩
            rw [hY] at hkn ⊢
            have HK225 := Lib.hid hkn
            clear hY hkn
            refine hK.out _ _ (HCL.out _ HK225.out.b) (fun hHeld => ?_)
            clear hK K
            (try simp only [Act.put, List.setIfInBounds_toArray, List.set_cons_zero, List.set_cons_succ])
            refine wpAnyH_ready (rs := [3]) (by kernel_rfl) (by simp) ?_
            refine AllReadyH.cons rfl (fun K hK => ?_) AllReadyH.nil
            (try rw [if_pos (by kernel_rfl)])
            refine El.op_apps eSc Y226 24 (.agg #[.string ⟨#[]⟩, .slice none 0 0]) 40 Try.underlying24 sc_info rfl (by decide) (.tmp 74) (.tmp 76) rfl W0.heap.size (.slice (some ⟨Wd.heap.size, 0, none⟩) 0 0) [] rfl (HK225.out.r1 _ _ rfl) A1 c1 W0.heap.size s1 rfl hA1 ((HA1.out.below HK225.out.b)) (by first | omega | (simp; omega)) (by first | (simp [eSc]; omega) | omega) HK225.out.b.size ?_
            intro v9 Z228 ho9 hg9
            (try rw [List.nil_append] at ho9)
            have hkn := HK225.out.app1 ho9 hg9
            obtain ⟨a229, n230, c231, rfl, _, _, _, _⟩ := ho9.formN
            have HK227 := Lib.hid hkn
            change K (Act.put _ (some 77) (.slice a229 n230 c231)) Z228
            clear ho9 hg9 hkn
            refine hK.out _ _ (HCL.out _ HK227.out.b) (fun hHeld => ?_)
            clear hK K
            (try simp only [Act.put, List.setIfInBounds_toArray, List.set_cons_zero, List.set_cons_succ])
            refine wpAnyH_ready (rs := [6]) (by kernel_rfl) (by simp) ?_
            refine AllReadyH.cons rfl (fun K hK => ?_) AllReadyH.nil
            (try rw [if_pos (by kernel_rfl)])
            refine El.op_apps eSc Z228 24 (.agg #[.string ⟨#[]⟩, .slice none 0 0]) 40 Try.underlying24 sc_info rfl (by decide) (.tmp 77) (.tmp 79) rfl W0.heap.size (.slice a229 n230 c231) s1 rfl (HK227.out.r1 _ _ rfl) B1 d1 W0.heap.size s2 rfl hB1 ((HB1.out.below HK227.out.b)) (by first | omega | (simp; omega)) (by first | (simp [eSc]; omega) | omega) HK227.out.b.size ?_
            intro v9 Z233 ho9 hg9
            (try rw [List.nil_append] at ho9)
            have hkn := HK227.out.app1 ho9 hg9
            obtain ⟨a234, n235, c236, rfl, _, _, _, _⟩ := ho9.formN
            have HK232 := Lib.hid hkn
            change K (Act.put _ (some 80) (.slice a234 n235 c236)) Z233
            clear ho9 hg9 hkn
            refine hK.out _ _ (HCL.out _ HK232.out.b) (fun hHeld => ?_)
            clear hK K
            (try simp only [Act.put, List.setIfInBounds_toArray, List.set_cons_zero, List.set_cons_succ])
            refine wpAnyH_ready (rs := [10]) (by kernel_rfl) (by simp) ?_
            refine AllReadyH.cons rfl (fun K hK => ?_) AllReadyH.nil
            (try rw [if_pos (by kernel_rfl)])
            refine El.op_apps eDc Z233 25 (.agg #[.string ⟨#[]⟩, .int .i64 0, .slice none 0 0, .int .u8 0, .int .i64 0, .string ⟨#[]⟩, .slice none 0 0]) 104 Try.underlying25 dc_info rfl (by decide) (.tmp 81) (.tmp 83) rfl W0.heap.size (.slice (some ⟨Y2.heap.size, 0, none⟩) 0 0) [] rfl (HK232.out.r2 _ _ rfl) A2 c2 W0.heap.size f1 rfl hA2 ((HA2.out.below HK232.out.b)) (by first | omega | (simp; omega)) (by first | (simp [eDc]; omega) | omega) HK232.out.b.size ?_
            intro v9 Z238 ho9 hg9
            (try rw [List.nil_append] at ho9)
            have hkn := HK232.out.app2 ho9 hg9
            obtain ⟨a239, n240, c241, rfl, _, _, _, _⟩ := ho9.formN
            have HK237 := Lib.hid hkn
            change K (Act.put _ (some 84) (.slice a239 n240 c241)) Z238
            clear ho9 hg9 hkn
            refine hK.out _ _ (HCL.out _ HK237.out.b) (fun hHeld => ?_)
            clear hK K
            (try simp only [Act.put, List.setIfInBounds_toArray, List.set_cons_zero, List.set_cons_succ])
            refine wpAnyH_ready (rs := [13]) (by kernel_rfl) (by simp) ?_
            refine AllReadyH.cons rfl (fun K hK => ?_) AllReadyH.nil
            (try rw [if_pos (by kernel_rfl)])
            refine El.op_apps eDc Z238 25 (.agg #[.string ⟨#[]⟩, .int .i64 0, .slice none 0 0, .int .u8 0, .int .i64 0, .string ⟨#[]⟩, .slice none 0 0]) 104 Try.underlying25 dc_info rfl (by decide) (.tmp 84) (.tmp 86) rfl W0.heap.size (.slice a239 n240 c241) f1 rfl (HK237.out.r2 _ _ rfl) B2 d2 W0.heap.size f2 rfl hB2 ((HB2.out.below HK237.out.b)) (by first | omega | (simp; omega)) (by first | (simp [eDc]; omega) | omega) HK237.out.b.size ?_
            intro v9 Z243 ho9 hg9
            (try rw [List.nil_append] at ho9)
            have hkn := HK237.out.app2 ho9 hg9
            obtain ⟨a244, n245, c246, rfl, _, _, _, _⟩ := ho9.formN
            have HK242 := Lib.hid hkn
            change K (Act.put _ (some 87) (.slice a244 n245 c246)) Z243
            clear ho9 hg9 hkn
            refine hK.out _ _ (HCL.out _ HK242.out.b) (fun hHeld => ?_)
            clear hK K
            (try simp only [Act.put, List.setIfInBounds_toArray, List.set_cons_zero, List.set_cons_succ])
            refine heldTake (i := 14) (d := some 88) (v := ?_) rfl rfl (by kernel_rfl) (by kernel_rfl) (by kernel_rfl) (fun _ _ _ h => h) (by kernel_rfl) ?hyq_23 (by assumption) ?restq_23
            case hyq_23 => (intro W9 hSw; (try dsimp only at hSw); go_simp; try (with_reducible rfl))
            (try simp only [Act.put, List.setIfInBounds_toArray, List.set_cons_zero, List.set_cons_succ])
            refine wpAnyH_ready (rs := [16]) (by kernel_rfl) (by simp) ?_
            refine AllReadyH.cons rfl (fun K hK => ?_) AllReadyH.nil
            have hr3 := (HK242.out.r3 _ rfl).2
            have q0 := hr3.cell (j := 0) (by simp)
            have qf0 := hr3.frozen 0
            have q1 := hr3.cell (j := 1) (by simp)
            have qf1 := hr3.frozen 1
            simp only [List.getElem_cons_zero, List.getElem_cons_succ] at q0 q1
            have HE247 := Lib.hid HK242.out.store
            clear hr3
            go_simp
            refine hK.out _ _ (HCL.out _ HE247.out.1) (fun hHeld => ?_)
            clear hK K
            (try simp only [Act.put, List.setIfInBounds_toArray, List.set_cons_zero, List.set_cons_succ])
            refine wpAnyH_done (by kernel_rfl) ?_ _
            go_wp2_with fail
            go_meet
            exact ⟨_, rfl, HE247⟩
        · go_simp
          have hkn := HK1.out.al
          obtain ⟨Y249, hY⟩ : ∃ Y, Y2.alloc (.cells #[.slice none 0 0, .slice none 0 0] 27) = Y := ⟨_, rfl⟩
          rw [hY] at hkn ⊢
          have HK248 := Lib.hid hkn
          clear hY hkn
          refine hK.out _ _ (HCL.out _ HK248.out.b) (fun hHeld => ?_)
          clear hK K
          (try simp only [Act.put, List.setIfInBounds_toArray, List.set_cons_zero, List.set_cons_succ])
          refine wpAnyH_ready (rs := [3, 7]) (by kernel_rfl) (by simp) ?_
          refine AllReadyH.cons rfl (fun K hK => ?_) (AllReadyH.cons rfl (fun K hK => ?_) AllReadyH.nil)
          · (try rw [if_pos (by kernel_rfl)])
            refine El.op_apps eSc Y249 24 (.agg #[.string ⟨#[]⟩, .slice none 0 0]) 40 Try.underlying24 sc_info rfl (by decide) (.tmp 74) (.tmp 76) rfl W0.heap.size (.slice (some ⟨Wd.heap.size, 0, none⟩) 0 0) [] rfl (HK248.out.r1 _ _ rfl) A1 c1 W0.heap.size s1 rfl hA1 ((HA1.out.below HK248.out.b)) (by first | omega | (simp; omega)) (by first | (simp [eSc]; omega) | omega) HK248.out.b.size ?_
            intro v9 Z251 ho9 hg9
            (try rw [List.nil_append] at ho9)
            have hkn := HK248.out.app1 ho9 hg9
            obtain ⟨a252, n253, c254, rfl, _, _, _, _⟩ := ho9.formN
            have HK250 := Lib.hid hkn
            change K (Act.put _ (some 77) (.slice a252 n253 c254)) Z251
            clear ho9 hg9 hkn
            refine hK.out _ _ (HCL.out _ HK250.out.b) (fun hHeld => ?_)
            clear hK K
            (try simp only [Act.put, List.setIfInBounds_toArray, List.set_cons_zero, List.set_cons_succ])
            refine wpAnyH_ready (rs := [6, 7]) (by kernel_rfl) (by simp) ?_
            refine AllReadyH.cons rfl (fun K hK => ?_) (AllReadyH.cons rfl (fun K hK => ?_) AllReadyH.nil)
            · (try rw [if_pos (by kernel_rfl)])
              refine El.op_apps eSc Z251 24 (.agg #[.string ⟨#[]⟩, .slice none 0 0]) 40 Try.underlying24 sc_info rfl (by decide) (.tmp 77) (.tmp 79) rfl W0.heap.size (.slice a252 n253 c254) s1 rfl (HK250.out.r1 _ _ rfl) B1 d1 W0.heap.size s2 rfl hB1 ((HB1.out.below HK250.out.b)) (by first | omega | (simp; omega)) (by first | (simp [eSc]; omega) | omega) HK250.out.b.size ?_
              intro v9 Z256 ho9 hg9
              (try rw [List.nil_append] at ho9)
              have hkn := HK250.out.app1 ho9 hg9
              obtain ⟨a257, n258, c259, rfl, _, _, _, _⟩ := ho9.formN
              have HK255 := Lib.hid hkn
              change K (Act.put _ (some 80) (.slice a257 n258 c259)) Z256
              clear ho9 hg9 hkn
              refine hK.out _ _ (HCL.out _ HK255.out.b) (fun hHeld => ?_)
              clear hK K
              (try simp only [Act.put, List.setIfInBounds_toArray, List.set_cons_zero, List.set_cons_succ])
              refine wpAnyH_ready (rs := [7]) (by kernel_rfl) (by simp) ?_
              refine AllReadyH.cons rfl (fun K hK => ?_) AllReadyH.nil
              go_simp
              have hkn := HK255.out.build2
              obtain ⟨Y261, hY⟩ : ∃ Y, Z256.alloc (.cells #[] 50) = Y := ⟨_, rfl⟩
              rw [hY] at hkn ⊢
              have HK260 := Lib.hid hkn
              clear hY hkn
              refine hK.out _ _ (HCL.out _ HK260.out.b) (fun hHeld => ?_)
              clear hK K
              (try simp only [Act.put, List.setIfInBounds_toArray, List.set_cons_zero, List.set_cons_succ])
              refine wpAnyH_ready (rs := [10]) (by kernel_rfl) (by simp) ?_
              refine AllReadyH.cons rfl (fun K hK => ?_) AllReadyH.nil
              (try rw [if_pos (by kernel_rfl)])
              refine El.op_apps eDc Y261 25 (.agg #[.string ⟨#[]⟩, .int .i64 0, .slice none 0 0, .int .u8 0, .int .i64 0, .string ⟨#[]⟩, .slice none 0 0]) 104 Try.underlying25 dc_info rfl (by decide) (.tmp 81) (.tmp 83) rfl W0.heap.size (.slice (some ⟨Z256.heap.size, 0, none⟩) 0 0) [] rfl (HK260.out.r2 _ _ rfl) A2 c2 W0.heap.size f1 rfl hA2 ((HA2.out.below HK260.out.b)) (by first | omega | (simp; omega)) (by first | (simp [eDc]; omega) | omega) HK260.out.b.size ?_
              intro v9 Z263 ho9 hg9
              (try rw [List.nil_append] at ho9)
              have hkn := HK260.out.app2 ho9 hg9
              obtain ⟨a264, n265, c266, rfl, _, _, _, _⟩ := ho9.formN
              have HK262 := Lib.hid hkn
              change K (Act.put _ (some 84) (.slice a264 n265 c266)) Z263
              clear ho9 hg9 hkn
              refine hK.out _ _ (HCL.out _ HK262.out.b) (fun hHeld => ?_)
              clear hK K
              (try simp only [Act.put, List.setIfInBounds_toArray, List.set_cons_zero, List.set_cons_succ])
              refine wpAnyH_ready (rs := [13]) (by kernel_rfl) (by simp) ?_
              refine AllReadyH.cons rfl (fun K hK => ?_) AllReadyH.nil
              (try rw [if_pos (by kernel_rfl)])
              refine El.op_apps eDc Z263 25 (.agg #[.string ⟨#[]⟩, .int .i64 0, .slice none 0 0, .int .u8 0, .int .i64 0, .string ⟨#[]⟩, .slice none 0 0]) 104 Try.underlying25 dc_info rfl (by decide) (.tmp 84) (.tmp 86) rfl W0.heap.size (.slice a264 n265 c266) f1 rfl (HK262.out.r2 _ _ rfl) B2 d2 W0.heap.size f2 rfl hB2 ((HB2.out.below HK262.out.b)) (by first | omega | (simp; omega)) (by first | (simp [eDc]; omega) | omega) HK262.out.b.size ?_
              intro v9 Z268 ho9 hg9
              (try rw [List.nil_append] at ho9)
              have hkn := HK262.out.app2 ho9 hg9
              obtain ⟨a269, n270, c271, rfl, _, _, _, _⟩ := ho9.formN
              have HK267 := Lib.hid hkn
              change K (Act.put _ (some 87) (.slice a269 n270 c271)) Z268
              clear ho9 hg9 hkn
              refine hK.out _ _ (HCL.out _ HK267.out.b) (fun hHeld => ?_)
              clear hK K
              (try simp only [Act.put, List.setIfInBounds_toArray, List.set_cons_zero, List.set_cons_succ])
              refine heldTake (i := 14) (d := some 88) (v := ?_) rfl rfl (by kernel_rfl) (by kernel_rfl) (by kernel_rfl) (fun _ _ _ h => h) (by kernel_rfl) ?hyq_24 (by assumption) ?restq_24
              case hyq_24 => (intro W9 hSw; (try dsimp only at hSw); go_simp; try (with_reducible rfl))
              (try simp only [Act.put, List.setIfInBounds_toArray, List.set_cons_zero, List.set_cons_succ])
              refine wpAnyH_ready (rs := [16]) (by kernel_rfl) (by simp) ?_
              refine AllReadyH.cons rfl (fun K hK => ?_) AllReadyH.nil
              have hr3 := (HK267.out.r3 _ rfl).2
              have q0 := hr3.cell (j := 0) (by simp)
              have qf0 := hr3.frozen 0
              have q1 := hr3.cell (j := 1) (by simp)
              have qf1 := hr3.frozen 1
              simp only [List.getElem_cons_zero, List.getElem_cons_succ] at q0 q1
              have HE272 := Lib.hid HK267.out.store
              clear hr3
              go_simp
              refine hK.out _ _ (HCL.out _ HE272.out.1) (fun hHeld => ?_)
              clear hK K
              (try simp only [Act.put, List.setIfInBounds_toArray, List.set_cons_zero, List.set_cons_succ])
              refine wpAnyH_done (by kernel_rfl) ?_ _
              go_wp2_with fail
              go_meet
              exact ⟨_, rfl, HE272⟩
            · go_simp
              have hkn := HK250.out.build2
              obtain ⟨Y274, hY⟩ : ∃ Y, Z251.alloc (.cells #[] 50) = Y := ⟨_, rfl⟩
              rw [hY] at hkn ⊢
              have HK273 := Lib.hid hkn
              clear hY hkn
              refine hK.out _ _ (HCL.out _ HK273.out.b) (fun hHeld => ?_)
              clear hK K
              (try simp only [Act.put, List.setIfInBounds_toArray, List.set_cons_zero, List.set_cons_succ])
              refine wpAnyH_ready (rs := [6]) (by kernel_rfl) (by simp) ?_
              refine AllReadyH.cons rfl (fun K hK => ?_) AllReadyH.nil
              (try rw [if_pos (by kernel_rfl)])
              refine El.op_apps eSc Y274 24 (.agg #[.string ⟨#[]⟩, .slice none 0 0]) 40 Try.underlying24 sc_info rfl (by decide) (.tmp 77) (.tmp 79) rfl W0.heap.size (.slice a252 n253 c254) s1 rfl (HK273.out.r1 _ _ rfl) B1 d1 W0.heap.size s2 rfl hB1 ((HB1.out.below HK273.out.b)) (by first | omega | (simp; omega)) (by first | (simp [eSc]; omega) | omega) HK273.out.b.size ?_
              intro v9 Z276 ho9 hg9
              (try rw [List.nil_append] at ho9)
              have hkn := HK273.out.app1 ho9 hg9
              obtain ⟨a277, n278, c279, rfl, _, _, _, _⟩ := ho9.formN
              have HK275 := Lib.hid hkn
              change K (Act.put _ (some 80) (.slice a277 n278 c279)) Z276
              clear ho9 hg9 hkn
              refine hK.out _ _ (HCL.out _ HK275.out.b) (fun hHeld => ?_)
              clear hK K
              (try simp only [Act.put, List.setIfInBounds_toArray, List.set_cons_zero, List.set_cons_succ])
              refine wpAnyH_ready (rs := [10]) (by kernel_rfl) (by simp) ?_
              refine AllReadyH.cons rfl (fun K hK => ?_) AllReadyH.nil
              (try rw [if_pos (by kernel_rfl)])
              refine El.op_apps eDc Z276 25 (.agg #[.string ⟨#[]⟩, .int .i64 0, .slice none 0 0, .int .u8 0, .int .i64 0, .string ⟨#[]⟩, .slice none 0 0]) 104 Try.underlying25 dc_info rfl (by decide) (.tmp 81) (.tmp 83) rfl W0.heap.size (.slice (some ⟨Z251.heap.size, 0, none⟩) 0 0) [] rfl (HK275.out.r2 _ _ rfl) A2 c2 W0.heap.size f1 rfl hA2 ((HA2.out.below HK275.out.b)) (by first | omega | (simp; omega)) (by first | (simp [eDc]; omega) | omega) HK275.out.b.size ?_
              intro v9 Z281 ho9 hg9
              (try rw [List.nil_append] at ho9)
              have hkn := HK275.out.app2 ho9 hg9
              obtain ⟨a282, n283, c284, rfl, _, _, _, _⟩ := ho9.formN
              have HK280 := Lib.hid hkn
              change K (Act.put _ (some 84) (.slice a282 n283 c284)) Z281
              clear ho9 hg9 hkn
              refine hK.out _ _ (HCL.out _ HK280.out.b) (fun hHeld => ?_)
              clear hK K
              (try simp only [Act.put, List.setIfInBounds_toArray, List.set_cons_zero, List.set_cons_succ])
              refine wpAnyH_ready (rs := [13]) (by kernel_rfl) (by simp) ?_
              refine AllReadyH.cons rfl (fun K hK => ?_) AllReadyH.nil
              (try rw [if_pos (by kernel_rfl)])
              refine El.op_apps eDc Z281 25 (.agg #[.string ⟨#[]⟩, .int .i64 0, .slice none 0 0, .int .u8 0, .int .i64 0, .string ⟨#[]⟩, .slice none 0 0]) 104 Try.underlying25 dc_info rfl (by decide) (.tmp 84) (.tmp 86) rfl W0.heap.size (.slice a282 n283 c284) f1 rfl (HK280.out.r2 _ _ rfl) B2 d2 W0.heap.size f2 rfl hB2 ((HB2.out.below HK280.out.b)) (by first | omega | (simp; omega)) (by first | (simp [eDc]; omega) | omega) HK280.out.b.size ?_
              intro v9 Z286 ho9 hg9
              (try rw [List.nil_append] at ho9)
              have hkn := HK280.out.app2 ho9 hg9
              obtain ⟨a287, n288, c289, rfl, _, _, _, _⟩ := ho9.formN
              have HK285 := Lib.hid hkn
              change K (Act.put _ (some 87) (.slice a287 n288 c289)) Z286
              clear ho9 hg9 hkn
              refine hK.out _ _ (HCL.out _ HK285.out.b) (fun hHeld => ?_)
              clear hK K
              (try simp only [Act.put, List.setIfInBounds_toArray, List.set_cons_zero, List.set_cons_succ])
              refine heldTake (i := 14) (d := some 88) (v := ?_) rfl rfl (by kernel_rfl) (by kernel_rfl) (by kernel_rfl) (fun _ _ _ h => h) (by kernel_rfl) ?hyq_25 (by assumption) ?restq_25
              case hyq_25 => (intro W9 hSw; (try dsimp only at hSw); go_simp; try (with_reducible rfl))
              (try simp only [Act.put, List.setIfInBounds_toArray, List.set_cons_zero, List.set_cons_succ])
              refine wpAnyH_ready (rs := [16]) (by kernel_rfl) (by simp) ?_
              refine AllReadyH.cons rfl (fun K hK => ?_) AllReadyH.nil
              have hr3 := (HK285.out.r3 _ rfl).2
              have q0 := hr3.cell (j := 0) (by simp)
              have qf0 := hr3.frozen 0
              have q1 := hr3.cell (j := 1) (by simp)
              have qf1 := hr3.frozen 1
              simp only [List.getElem_cons_zero, List.getElem_cons_succ] at q0 q1
              have HE290 := Lib.hid HK285.out.store
              clear hr3
              go_simp
              refine hK.out _ _ (HCL.out _ HE290.out.1) (fun hHeld => ?_)
              clear hK K
              (try simp only [Act.put, List.setIfInBounds_toArray, List.set_cons_zero, List.set_cons_succ])
              refine wpAnyH_done (by kernel_rfl) ?_ _
              go_wp2_with fail
              go_meet
              exact ⟨_, rfl, HE290⟩
          · go_simp
            have hkn := HK248.out.build2
            obtain ⟨Y292, hY⟩ : ∃ Y, Y249.alloc (.cells #[] 50) = Y := ⟨_, rfl⟩
            rw [hY] at hkn ⊢
            have HK291 := Lib.hid hkn
            clear hY hkn
            refine hK.out _ _ (HCL.out _ HK291.out.b) (fun hHeld => ?_)
            clear hK K
            (try simp only [Act.put, List.setIfInBounds_toArray, List.set_cons_zero, List.set_cons_succ])
            refine wpAnyH_ready (rs := [3]) (by kernel_rfl) (by simp) ?_
            refine AllReadyH.cons rfl (fun K hK => ?_) AllReadyH.nil
            (try rw [if_pos (by kernel_rfl)])
            refine El.op_apps eSc Y292 24 (.agg #[.string ⟨#[]⟩, .slice none 0 0]) 40 Try.underlying24 sc_info rfl (by decide) (.tmp 74) (.tmp 76) rfl W0.heap.size (.slice (some ⟨Wd.heap.size, 0, none⟩) 0 0) [] rfl (HK291.out.r1 _ _ rfl) A1 c1 W0.heap.size s1 rfl hA1 ((HA1.out.below HK291.out.b)) (by first | omega | (simp; omega)) (by first | (simp [eSc]; omega) | omega) HK291.out.b.size ?_
            intro v9 Z294 ho9 hg9
            (try rw [List.nil_append] at ho9)
            have hkn := HK291.out.app1 ho9 hg9
            obtain ⟨a295, n296, c297, rfl, _, _, _, _⟩ := ho9.formN
            have HK293 := Lib.hid hkn
            change K (Act.put _ (some 77) (.slice a295 n296 c297)) Z294
            clear ho9 hg9 hkn
            refine hK.out _ _ (HCL.out _ HK293.out.b) (fun hHeld => ?_)
            clear hK K
            (try simp only [Act.put, List.setIfInBounds_toArray, List.set_cons_zero, List.set_cons_succ])
            refine wpAnyH_ready (rs := [6]) (by kernel_rfl) (by simp) ?_
            refine AllReadyH.cons rfl (fun K hK => ?_) AllReadyH.nil
            (try rw [if_pos (by kernel_rfl)])
            refine El.op_apps eSc Z294 24 (.agg #[.string ⟨#[]⟩, .slice none 0 0]) 40 Try.underlying24 sc_info rfl (by decide) (.tmp 77) (.tmp 79) rfl W0.heap.size (.slice a295 n296 c297) s1 rfl (HK293.out.r1 _ _ rfl) B1 d1 W0.heap.size s2 rfl hB1 ((HB1.out.below HK293.out.b)) (by first | omega | (simp; omega)) (by first | (simp [eSc]; omega) | omega) HK293.out.b.size ?_
            intro v9 Z299 ho9 hg9
            (try rw [List.nil_append] at ho9)
            have hkn := HK293.out.app1 ho9 hg9
            obtain ⟨a300, n301, c302, rfl, _, _, _, _⟩ := ho9.formN
            have HK298 := Lib.hid hkn
            change K (Act.put _ (some 80) (.slice a300 n301 c302)) Z299
            clear ho9 hg9 hkn
            refine hK.out _ _ (HCL.out _ HK298.out.b) (fun hHeld => ?_)
            clear hK K
            (try simp only [Act.put, List.setIfInBounds_toArray, List.set_cons_zero, List.set_cons_succ])
            refine wpAnyH_ready (rs := [10]) (by kernel_rfl) (by simp) ?_
            refine AllReadyH.cons rfl (fun K hK => ?_) AllReadyH.nil
            (try rw [if_pos (by kernel_rfl)])
            refine El.op_apps eDc Z299 25 (.agg #[.string ⟨#[]⟩, .int .i64 0, .slice none 0 0, .int .u8 0, .int .i64 0, .string ⟨#[]⟩, .slice none 0 0]) 104 Try.underlying25 dc_info rfl (by decide) (.tmp 81) (.tmp 83) rfl W0.heap.size (.slice (some ⟨Y249.heap.size, 0, none⟩) 0 0) [] rfl (HK298.out.r2 _ _ rfl) A2 c2 W0.heap.size f1 rfl hA2 ((HA2.out.below HK298.out.b)) (by first | omega | (simp; omega)) (by first | (simp [eDc]; omega) | omega) HK298.out.b.size ?_
            intro v9 Z304 ho9 hg9
            (try rw [List.nil_append] at ho9)
            have hkn := HK298.out.app2 ho9 hg9
            obtain ⟨a305, n306, c307, rfl, _, _, _, _⟩ := ho9.formN
            have HK303 := Lib.hid hkn
            change K (Act.put _ (some 84) (.slice a305 n306 c307)) Z304
            clear ho9 hg9 hkn
            refine hK.out _ _ (HCL.out _ HK303.out.b) (fun hHeld => ?_)
            clear hK K
            (try simp only [Act.put, List.setIfInBounds_toArray, List.set_cons_zero, List.set_cons_succ])
            refine wpAnyH_ready (rs := [13]) (by kernel_rfl) (by simp) ?_
            refine AllReadyH.cons rfl (fun K hK => ?_) AllReadyH.nil
            (try rw [if_pos (by kernel_rfl)])
            refine El.op_apps eDc Z304 25 (.agg #[.string ⟨#[]⟩, .int .i64 0, .slice none 0 0, .int .u8 0, .int .i64 0, .string ⟨#[]⟩, .slice none 0 0]) 104 Try.underlying25 dc_info rfl (by decide) (.tmp 84) (.tmp 86) rfl W0.heap.size (.slice a305 n306 c307) f1 rfl (HK303.out.r2 _ _ rfl) B2 d2 W0.heap.size f2 rfl hB2 ((HB2.out.below HK303.out.b)) (by first | omega | (simp; omega)) (by first | (simp [eDc]; omega) | omega) HK303.out.b.size ?_
            intro v9 Z309 ho9 hg9
            (try rw [List.nil_append] at ho9)
            have hkn := HK303.out.app2 ho9 hg9
            obtain ⟨a310, n311, c312, rfl, _, _, _, _⟩ := ho9.formN
            have HK308 := Lib.hid hkn
            change K (Act.put _ (some 87) (.slice a310 n311 c312)) Z309
            clear ho9 hg9 hkn
            refine hK.out _ _ (HCL.out _ HK308.out.b) (fun hHeld => ?_)
            clear hK K
            (try simp only [Act.put, List.setIfInBounds_toArray, List.set_cons_zero, List.set_cons_succ])
            refine heldTake (i := 14) (d := some 88) (v := ?_) rfl rfl (by kernel_rfl) (by kernel_rfl) (by kernel_rfl) (fun _ _ _ h => h) (by kernel_rfl) ?hyq_26 (by assumption) ?restq_26
            case hyq_26 => (intro W9 hSw; (try dsimp only at hSw); go_simp; try (with_reducible rfl))
            (try simp only [Act.put, List.setIfInBounds_toArray, List.set_cons_zero, List.set_cons_succ])
            refine wpAnyH_ready (rs := [16]) (by kernel_rfl) (by simp) ?_
            refine AllReadyH.cons rfl (fun K hK => ?_) AllReadyH.nil
            have hr3 := (HK308.out.r3 _ rfl).2
            have q0 := hr3.cell (j := 0) (by simp)
            have qf0 := hr3.frozen 0
            have q1 := hr3.cell (j := 1) (by simp)
            have qf1 := hr3.frozen 1
            simp only [List.getElem_cons_zero, List.getElem_cons_succ] at q0 q1
            have HE313 := Lib.hid HK308.out.store
            clear hr3
            go_simp
            refine hK.out _ _ (HCL.out _ HE313.out.1) (fun hHeld => ?_)
            clear hK K
            (try simp only [Act.put, List.setIfInBounds_toArray, List.set_cons_zero, List.set_cons_succ])
            refine wpAnyH_done (by kernel_rfl) ?_ _
            go_wp2_with fail
            go_meet
            exact ⟨_, rfl, HE313⟩
      · go_simp
        have hkn := HJd.out.build2
        obtain ⟨Y315, hY⟩ : ∃ Y, Wd.alloc (.cells #[] 50) = Y := ⟨_, rfl⟩
        rw [hY] at hkn ⊢
        have HK314 := Lib.hid hkn
        clear hY hkn
        refine hK.out _ _ (HCL.out _ HK314.out.b) (fun hHeld => ?_)
        clear hK K
        (try simp only [Act.put, List.setIfInBounds_toArray, List.set_cons_zero, List.set_cons_succ])
        refine wpAnyH_ready (rs := [0, 15]) (by kernel_rfl) (by simp) ?_
        refine AllReadyH.cons rfl (fun K hK => ?_) (AllReadyH.cons rfl (fun K hK => ?_) AllReadyH.nil)
        · go_simp
          have hkn := HK314.out.build1
          obtain ⟨Y317, hY⟩ : ∃ Y, Y315.alloc (.cells #[] 71) = Y := ⟨_, rfl⟩
          rw [hY] at hkn ⊢
          have HK316 := Lib.hid hkn
          clear hY hkn
          refine hK.out _ _ (HCL.out _ HK316.out.b) (fun hHeld => ?_)
          clear hK K
          (try simp only [Act.put, List.setIfInBounds_toArray, List.set_cons_zero, List.set_cons_succ])
          refine wpAnyH_ready (rs := [3, 15]) (by kernel_rfl) (by simp) ?_
          refine AllReadyH.cons rfl (fun K hK => ?_) (AllReadyH.cons rfl (fun K hK => ?_) AllReadyH.nil)
          · (try rw [if_pos (by kernel_rfl)])
            refine El.op_apps eSc Y317 24 (.agg #[.string ⟨#[]⟩, .slice none 0 0]) 40 Try.underlying24 sc_info rfl (by decide) (.tmp 74) (.tmp 76) rfl W0.heap.size (.slice (some ⟨Y315.heap.size, 0, none⟩) 0 0) [] rfl (HK316.out.r1 _ _ rfl) A1 c1 W0.heap.size s1 rfl hA1 ((HA1.out.below HK316.out.b)) (by first | omega | (simp; omega)) (by first | (simp [eSc]; omega) | omega) HK316.out.b.size ?_
            intro v9 Z319 ho9 hg9
            (try rw [List.nil_append] at ho9)
            have hkn := HK316.out.app1 ho9 hg9
            obtain ⟨a320, n321, c322, rfl, _, _, _, _⟩ := ho9.formN
            have HK318 := Lib.hid hkn
            change K (Act.put _ (some 77) (.slice a320 n321 c322)) Z319
            clear ho9 hg9 hkn
            refine hK.out _ _ (HCL.out _ HK318.out.b) (fun hHeld => ?_)
            clear hK K
            (try simp only [Act.put, List.setIfInBounds_toArray, List.set_cons_zero, List.set_cons_succ])
            refine wpAnyH_ready (rs := [6, 15]) (by kernel_rfl) (by simp) ?_
            refine AllReadyH.cons rfl (fun K hK => ?_) (AllReadyH.cons rfl (fun K hK => ?_) AllReadyH.nil)
            · (try rw [if_pos (by kernel_rfl)])
              refine El.op_apps eSc Z319 24 (.agg #[.string ⟨#[]⟩, .slice none 0 0]) 40 Try.underlying24 sc_info rfl (by decide) (.tmp 77) (.tmp 79) rfl W0.heap.size (.slice a320 n321 c322) s1 rfl (HK318.out.r1 _ _ rfl) B1 d1 W0.heap.size s2 rfl hB1 ((HB1.out.below HK318.out.b)) (by first | omega | (simp; omega)) (by first | (simp [eSc]; omega) | omega) HK318.out.b.size ?_
              intro v9 Z324 ho9 hg9
              (try rw [List.nil_append] at ho9)
              have hkn := HK318.out.app1 ho9 hg9
              obtain ⟨a325, n326, c327, rfl, _, _, _, _⟩ := ho9.formN
              have HK323 := Lib.hid hkn
              change K (Act.put _ (some 80) (.slice a325 n326 c327)) Z324
              clear ho9 hg9 hkn
              refine hK.out _ _ (HCL.out _ HK323.out.b) (fun hHeld => ?_)
              clear hK K
              (try simp only [Act.put, List.setIfInBounds_toArray, List.set_cons_zero, List.set_cons_succ])
              refine wpAnyH_ready (rs := [10, 15]) (by kernel_rfl) (by simp) ?_
              refine AllReadyH.cons rfl (fun K hK => ?_) (AllReadyH.cons rfl (fun K hK => ?_) AllReadyH.nil)
              · (try rw [if_pos (by kernel_rfl)])
                refine El.op_apps eDc Z324 25 (.agg #[.string ⟨#[]⟩, .int .i64 0, .slice none 0 0, .int .u8 0, .int .i64 0, .string ⟨#[]⟩, .slice none 0 0]) 104 Try.underlying25 dc_info rfl (by decide) (.tmp 81) (.tmp 83) rfl W0.heap.size (.slice (some ⟨Wd.heap.size, 0, none⟩) 0 0) [] rfl (HK323.out.r2 _ _ rfl) A2 c2 W0.heap.size f1 rfl hA2 ((HA2.out.below HK323.out.b)) (by first | omega | (simp; omega)) (by first | (simp [eDc]; omega) | omega) HK323.out.b.size ?_
                intro v9 Z329 ho9 hg9
                (try rw [List.nil_append] at ho9)
                have hkn := HK323.out.app2 ho9 hg9
                obtain ⟨a330, n331, c332, rfl, _, _, _, _⟩ := ho9.formN
                have HK328 := Lib.hid hkn
                change K (Act.put _ (some 84) (.slice a330 n331 c332)) Z329
                clear ho9 hg9 hkn
                refine hK.out _ _ (HCL.out _ HK328.out.b) (fun hHeld => ?_)
                clear hK K
                (try simp only [Act.put, List.setIfInBounds_toArray, List.set_cons_zero, List.set_cons_succ])
                refine wpAnyH_ready (rs := [13, 15]) (by kernel_rfl) (by simp) ?_
                refine AllReadyH.cons rfl (fun K hK => ?_) (AllReadyH.cons rfl (fun K hK => ?_) AllReadyH.nil)
                · (try rw [if_pos (by kernel_rfl)])
                  refine El.op_apps eDc Z329 25 (.agg #[.string ⟨#[]⟩, .int .i64 0, .slice none 0 0, .int .u8 0, .int .i64 0, .string ⟨#[]⟩, .slice none 0 0]) 104 Try.underlying25 dc_info rfl (by decide) (.tmp 84) (.tmp 86) rfl W0.heap.size (.slice a330 n331 c332) f1 rfl (HK328.out.r2 _ _ rfl) B2 d2 W0.heap.size f2 rfl hB2 ((HB2.out.below HK328.out.b)) (by first | omega | (simp; omega)) (by first | (simp [eDc]; omega) | omega) HK328.out.b.size ?_
                  intro v9 Z334 ho9 hg9
                  (try rw [List.nil_append] at ho9)
                  have hkn := HK328.out.app2 ho9 hg9
                  obtain ⟨a335, n336, c337, rfl, _, _, _, _⟩ := ho9.formN
                  have HK333 := Lib.hid hkn
                  change K (Act.put _ (some 87) (.slice a335 n336 c337)) Z334
                  clear ho9 hg9 hkn
                  refine hK.out _ _ (HCL.out _ HK333.out.b) (fun hHeld => ?_)
                  clear hK K
                  (try simp only [Act.put, List.setIfInBounds_toArray, List.set_cons_zero, List.set_cons_succ])
                  refine heldTake (i := 14) (d := some 88) (v := ?_) rfl rfl (by kernel_rfl) (by kernel_rfl) (by kernel_rfl) (fun _ _ _ h => h) (by kernel_rfl) ?hyq_27 (by assumption) ?restq_27
                  case hyq_27 => (intro W9 hSw; (try dsimp only at hSw); go_simp; try (with_reducible rfl))
                  (try simp only [Act.put, List.setIfInBounds_toArray, List.set_cons_zero, List.set_cons_succ])
                  refine wpAnyH_ready (rs := [15]) (by kernel_rfl) (by simp) ?_
                  refine AllReadyH.cons rfl (fun K hK => ?_) AllReadyH.nil
                  go_simp
                  have hkn := HK333.out.al
                  obtain ⟨Y339, hY⟩ : ∃ Y, Z334.alloc (.cells #[.slice none 0 0, .slice none 0 0] 27) = Y := ⟨_, rfl⟩
                  rw [hY] at hkn ⊢
                  have HK338 := Lib.hid hkn
                  clear hY hkn
                  refine hK.out _ _ (HCL.out _ HK338.out.b) (fun hHeld => ?_)
                  clear hK K
                  (try simp only [Act.put, List.setIfInBounds_toArray, List.set_cons_zero, List.set_cons_succ])
                  refine wpAnyH_ready (rs := [16]) (by kernel_rfl) (by simp) ?_
                  refine AllReadyH.cons rfl (fun K hK => ?_) AllReadyH.nil
                  have hr3 := (HK338.out.r3 _ rfl).2
                  have q0 := hr3.cell (j := 0) (by simp)
                  have qf0 := hr3.frozen 0
                  have q1 := hr3.cell (j := 1) (by simp)
                  have qf1 := hr3.frozen 1
                  simp only [List.getElem_cons_zero, List.getElem_cons_succ] at q0 q1
                  have HE340 := Lib.hid HK338.out.store
                  clear hr3
                  go_simp
                  refine hK.out _ _ (HCL.out _ HE340.out.1) (fun hHeld => ?_)
                  clear hK K
                  (try simp only [Act.put, List.setIfInBounds_toArray, List.set_cons_zero, List.set_cons_succ])
                  refine wpAnyH_done (by kernel_rfl) ?_ _
                  go_wp2_with fail
                  go_meet
                  exact ⟨_, rfl, HE340⟩
                · go_simp
                  have hkn := HK328.out.al
                  obtain ⟨Y342, hY⟩ : ∃ Y, Z329.alloc (.cells #[.slice none 0 0, .slice none 0 0] 27) = Y := ⟨_, rfl⟩
                  rw [hY] at hkn ⊢
                  have HK341 := Lib.hid hkn
                  clear hY hkn
                  refine hK.out _ _ (HCL.out _ HK341.out.b) (fun hHeld => ?_)
                  clear hK K
                  (try simp only [Act.put, List.setIfInBounds_toArray, List.set_cons_zero, List.set_cons_succ])
                  refine wpAnyH_ready (rs := [13]) (by kernel_rfl) (by simp) ?_
                  refine AllReadyH.cons rfl (fun K hK => ?_) AllReadyH.nil
                  (try rw [if_pos (by kernel_rfl)])
                  refine El.op_apps eDc Y342 25 (.agg #[.string ⟨#[]⟩, .int .i64 0, .slice none 0 0, .int .u8 0, .int .i64 0, .string ⟨#[]⟩, .slice none 0 0]) 104 Try.underlying25 dc_info rfl (by decide) (.tmp 84) (.tmp 86) rfl W0.heap.size (.slice a330 n331 c332) f1 rfl (HK341.out.r2 _ _ rfl) B2 d2 W0.heap.size f2 rfl hB2 ((HB2.out.below HK341.out.b)) (by first | omega | (simp; omega)) (by first | (simp [eDc]; omega) | omega) HK341.out.b.size ?_
                  intro v9 Z344 ho9 hg9
                  (try rw [List.nil_append] at ho9)
                  have hkn := HK341.out.app2 ho9 hg9
                  obtain ⟨a345, n346, c347, rfl, _, _, _, _⟩ := ho9.formN
                  have HK343 := Lib.hid hkn
                  change K (Act.put _ (some 87) (.slice a345 n346 c347)) Z344
                  clear ho9 hg9 hkn
                  refine hK.out _ _ (HCL.out _ HK343.out.b) (fun hHeld => ?_)
                  clear hK K
                  (try simp only [Act.put, List.setIfInBounds_toArray, List.set_cons_zero, List.set_cons_succ])
                  refine heldTake (i := 14) (d := some 88) (v := ?_) rfl rfl (by kernel_rfl) (by kernel_rfl) (by kernel_rfl) (fun _ _ _ h => h) (by kernel_rfl) ?hyq_28 (by assumption) ?restq_28
                  case hyq_28 => (intro W9 hSw; (try dsimp only at hSw); go_simp; try (with_reducible rfl))
                  (try simp only [Act.put, List.setIfInBounds_toArray, List.set_cons_zero, List.set_cons_succ])
                  refine wpAnyH_ready (rs := [16]) (by kernel_rfl) (by simp) ?_
                  refine AllReadyH.cons rfl (fun K hK => ?_) AllReadyH.nil
                  have hr3 := (HK343.out.r3 _ rfl).2
                  have q0 := hr3.cell (j := 0) (by simp)
                  have qf0 := hr3.frozen 0
                  have q1 := hr3.cell (j := 1) (by simp)
                  have qf1 := hr3.frozen 1
                  simp only [List.getElem_cons_zero, List.getElem_cons_succ] at q0 q1
                  have HE348 := Lib.hid HK343.out.store
                  clear hr3
                  go_simp
                  refine hK.out _ _ (HCL.out _ HE348.out.1) (fun hHeld => ?_)
                  clear hK K
                  (try simp only [Act.put, List.setIfInBounds_toArray, List.set_cons_zero, List.set_cons_succ])
                  refine wpAnyH_done (by kernel_rfl) ?_ _
                  go_wp2_with fail
                  go_meet
                  exact ⟨_, rfl, HE348⟩
              · go_simp
                have hkn := HK323.out.al
                obtain ⟨Y350, hY⟩ : ∃ Y, Z324.alloc (.cells #[.slice none 0 0, .slice none 0 0] 27) = Y := ⟨_, rfl⟩
                rw [hY] at hkn ⊢
                have HK349 := Lib.hid hkn
                clear hY hkn
                refine hK.out _ _ (HCL.out _ HK349.out.b) (fun hHeld => ?_)
                clear hK K
                (try simp only [Act.put, List.setIfInBounds_toArray, List.set_cons_zero, List.set_cons_succ])
                refine wpAnyH_ready (rs := [10]) (by kernel_rfl) (by simp) ?_
                refine AllReadyH.cons rfl (fun K hK => ?_) AllReadyH.nil
                (try rw [if_pos (by kernel_rfl)])
                refine El.op_apps eDc Y350 25 (.agg #[.string ⟨#[]⟩, .int .i64 0, .slice none 0 0, .int .u8 0, .int .i64 0, .string ⟨#[]⟩, .slice none 0 0]) 104 Try.underlying25 dc_info rfl (by decide) (.tmp 81) (.tmp 83) rfl W0.heap.size (.slice (some ⟨Wd.heap.size, 0, none⟩) 0 0) [] rfl (HK349.out.r2 _ _ rfl) A2 c2 W0.heap.size f1 rfl hA2 ((HA2.out.below HK349.out.b)) (by first | omega | (simp; omega)) (by first | (simp [eDc]; omega) | omega) HK349.out.b.size ?_
                intro v9 Z352 ho9 hg9
                (try rw [List.nil_append] at ho9)
                have hkn := HK349.out.app2 ho9 hg9
                obtain ⟨a353, n354, c355, rfl, _, _, _, _⟩ := ho9.formN
                have HK351 := Lib.hid hkn
                change K (Act.put _ (some 84) (.slice a353 n354 c355)) Z352
                clear ho9 hg9 hkn
                refine hK.out _ _ (HCL.out _ HK351.out.b) (fun hHeld => ?_)
                clear hK K
                (try simp only [Act.put, List.setIfInBounds_toArray, List.set_cons_zero, List.set_cons_succ])
                refine wpAnyH_ready (rs := [13]) (by kernel_rfl) (by simp) ?_
                refine AllReadyH.cons rfl (fun K hK => ?_) AllReadyH.nil
                (try rw [if_pos (by kernel_rfl)])
                refine El.op_apps eDc Z352 25 (.agg #[.string ⟨#[]⟩, .int .i64 0, .slice none 0 0, .int .u8 0, .int .i64 0, .string ⟨#[]⟩, .slice none 0 0]) 104 Try.underlying25 dc_info rfl (by decide) (.tmp 84) (.tmp 86) rfl W0.heap.size (.slice a353 n354 c355) f1 rfl (HK351.out.r2 _ _ rfl) B2 d2 W0.heap.size f2 rfl hB2 ((HB2.out.below HK351.out.b)) (by first | omega | (simp; omega)) (by first | (simp [eDc]; omega) | omega) HK351.out.b.size ?_
                intro v9 Z357 ho9 hg9
                (try rw [List.nil_append] at ho9)
                have hkn := HK351.out.app2 ho9 hg9
                obtain ⟨a358, n359, c360, rfl, _, _, _, _⟩ := ho9.formN
                have HK356 := Lib.hid hkn
                change K (Act.put _ (some 87) (.slice a358 n359 c360)) Z357
                clear ho9 hg9 hkn
                refine hK.out _ _ (HCL.out _ HK356.out.b) (fun hHeld => ?_)
                clear hK K
                (try simp only [Act.put, List.setIfInBounds_toArray, List.set_cons_zero, List.set_cons_succ])
                refine heldTake (i := 14) (d := some 88) (v := ?_) rfl rfl (by kernel_rfl) (by kernel_rfl) (by kernel_rfl) (fun _ _ _ h => h) (by kernel_rfl) ?hyq_29 (by assumption) ?restq_29
                case hyq_29 => (intro W9 hSw; (try dsimp only at hSw); go_simp; try (with_reducible rfl))
                (try simp only [Act.put, List.setIfInBounds_toArray, List.set_cons_zero, List.set_cons_succ])
                refine wpAnyH_ready (rs := [16]) (by kernel_rfl) (by simp) ?_
                refine AllReadyH.cons rfl (fun K hK => ?_) AllReadyH.nil
                have hr3 := (HK356.out.r3 _ rfl).2
                have q0 := hr3.cell (j := 0) (by simp)
                have qf0 := hr3.frozen 0
                have q1 := hr3.cell (j := 1) (by simp)
                have qf1 := hr3.frozen 1
                simp only [List.getElem_cons_zero, List.getElem_cons_succ] at q0 q1
                have HE361 := Lib.hid HK356.out.store
                clear hr3
                go_simp
                refine hK.out _ _ (HCL.out _ HE361.out.1) (fun hHeld => ?_)
                clear hK K
                (try simp only [Act.put, List.setIfInBounds_toArray, List.set_cons_zero, List.set_cons_succ])
                refine wpAnyH_done (by kernel_rfl) ?_ _
                go_wp2_with fail
                go_meet
                exact ⟨_, rfl, HE361⟩
            · go_simp
              have hkn := HK318.out.al
              obtain ⟨Y363, hY⟩ : ∃ Y, Z319.alloc (.cells #[.slice none 0 0, .slice none 0 0] 27) = Y := ⟨_, rfl⟩
              rw [hY] at hkn ⊢
              have HK362 := Lib.hid hkn
              clear hY hkn
              refine hK.out _ _ (HCL.out _ HK362.out.b) (fun hHeld => ?_)
              clear hK K
              (try simp only [Act.put, List.setIfInBounds_toArray, List.set_cons_zero, List.set_cons_succ])
              refine wpAnyH_ready (rs := [6]) (by kernel_rfl) (by simp) ?_
              refine AllReadyH.cons rfl (fun K hK => ?_) AllReadyH.nil
              (try rw [if_pos (by kernel_rfl)])
              refine El.op_apps eSc Y363 24 (.agg #[.string ⟨#[]⟩, .slice none 0 0]) 40 Try.underlying24 sc_info rfl (by decide) (.tmp 77) (.tmp 79) rfl W0.heap.size (.slice a320 n321 c322) s1 rfl (HK362.out.r1 _ _ rfl) B1 d1 W0.heap.size s2 rfl hB1 ((HB1.out.below HK362.out.b)) (by first | omega | (simp; omega)) (by first | (simp [eSc]; omega) | omega) HK362.out.b.size ?_
              intro v9 Z365 ho9 hg9
              (try rw [List.nil_append] at ho9)
              have hkn := HK362.out.app1 ho9 hg9
              obtain ⟨a366, n367, c368, rfl, _, _, _, _⟩ := ho9.formN
              have HK364 := Lib.hid hkn
              change K (Act.put _ (some 80) (.slice a366 n367 c368)) Z365
              clear ho9 hg9 hkn
              refine hK.out _ _ (HCL.out _ HK364.out.b) (fun hHeld => ?_)
              clear hK K
              (try simp only [Act.put, List.setIfInBounds_toArray, List.set_cons_zero, List.set_cons_succ])
              refine wpAnyH_ready (rs := [10]) (by kernel_rfl) (by simp) ?_
              refine AllReadyH.cons rfl (fun K hK => ?_) AllReadyH.nil
              (try rw [if_pos (by kernel_rfl)])
              refine El.op_apps eDc Z365 25 (.agg #[.string ⟨#[]⟩, .int .i64 0, .slice none 0 0, .int .u8 0, .int .i64 0, .string ⟨#[]⟩, .slice none 0 0]) 104 Try.underlying25 dc_info rfl (by decide) (.tmp 81) (.tmp 83) rfl W0.heap.size (.slice (some ⟨Wd.heap.size, 0, none⟩) 0 0) [] rfl (HK364.out.r2 _ _ rfl) A2 c2 W0.heap.size f1 rfl hA2 ((HA2.out.below HK364.out.b)) (by first | omega | (simp; omega)) (by first | (simp [eDc]; omega) | omega) HK364.out.b.size ?_
              intro v9 Z370 ho9 hg9
              (try rw [List.nil_append] at ho9)
              have hkn := HK364.out.app2 ho9 hg9
              obtain ⟨a371, n372, c373, rfl, _, _, _, _⟩ := ho9.formN
              have HK369 := Lib.hid hkn
              change K (Act.put _ (some 84) (.slice a371 n372 c373)) Z370
              clear ho9 hg9 hkn
              refine hK.out _ _ (HCL.out _ HK369.out.b) (fun hHeld => ?_)
              clear hK K
              (try simp only [Act.put, List.setIfInBounds_toArray, List.set_cons_zero, List.set_cons_succ])
              refine wpAnyH_ready (rs := [13]) (by kernel_rfl) (by simp) ?_
              refine AllReadyH.cons rfl (fun K hK => ?_) AllReadyH.nil
              (try rw [if_pos (by kernel_rfl)])
              refine El.op_apps eDc Z370 25 (.agg #[.string ⟨#[]⟩, .int .i64 0, .slice none 0 0, .int .u8 0, .int .i64 0, .string ⟨#[]⟩, .slice none 0 0]) 104 Try.underlying25 dc_info rfl (by decide) (.tmp 84) (.tmp 86) rfl W0.heap.size (.slice a371 n372 c373) f1 rfl (HK369.out.r2 _ _ rfl) B2 d2 W0.heap.size f2 rfl hB2 ((HB2.out.below HK369.out.b)) (by first | omega | (simp; omega)) (by first | (simp [eDc]; omega) | omega) HK369.out.b.size ?_
              intro v9 Z375 ho9 hg9
              (try rw [List.nil_append] at ho9)
              have hkn := HK369.out.app2 ho9 hg9
              obtain ⟨a376, n377, c378, rfl, _, _, _, _⟩ := ho9.formN
              have HK374 := Lib.hid hkn
              change K (Act.put _ (some 87) (.slice a376 n377 c378)) Z375
              clear ho9 hg9 hkn
              refine hK.out _ _ (HCL.out _ HK374.out.b) (fun hHeld => ?_)
              clear hK K
              (try simp only [Act.put, List.setIfInBounds_toArray, List.set_cons_zero, List.set_cons_succ])
              refine heldTake (i := 14) (d := some 88) (v := ?_) rfl rfl (by kernel_rfl) (by kernel_rfl) (by kernel_rfl) (fun _ _ _ h => h) (by kernel_rfl) ?hyq_30 (by assumption) ?restq_30
              case hyq_30 => (intro W9 hSw; (try dsimp only at hSw); go_simp; try (with_reducible rfl))
              (try simp only [Act.put, List.setIfInBounds_toArray, List.set_cons_zero, List.set_cons_succ])
              refine wpAnyH_ready (rs := [16]) (by kernel_rfl) (by simp) ?_
              refine AllReadyH.cons rfl (fun K hK => ?_) AllReadyH.nil
              have hr3 := (HK374.out.r3 _ rfl).2
              have q0 := hr3.cell (j := 0) (by simp)
              have qf0 := hr3.frozen 0
              have q1 := hr3.cell (j := 1) (by simp)
              have qf1 := hr3.frozen 1
              simp only [List.getElem_cons_zero, List.getElem_cons_succ] at q0 q1
              have HE379 := Lib.hid HK374.out.store
              clear hr3
              go_simp
              refine hK.out _ _ (HCL.out _ HE379.out.1) (fun hHeld => ?_)
              clear hK K
              (try simp only [Act.put, List.setIfInBounds_toArray, List.set_cons_zero, List.set_cons_succ])
              refine wpAnyH_done (by kernel_rfl) ?_ _
              go_wp2_with fail
              go_meet
              exact ⟨_, rfl, HE379⟩
          · go_simp
            have hkn := HK316.out.al
            obtain ⟨Y381, hY⟩ : ∃ Y, Y317.alloc (.cells #[.slice none 0 0, .slice none 0 0] 27) = Y := ⟨_, rfl⟩
            rw [hY] at hkn ⊢
            have HK380 := Lib.hid hkn
            clear hY hkn
            refine hK.out _ _ (HCL.out _ HK380.out.b) (fun hHeld => ?_)
            clear hK K
            (try simp only [Act.put, List.setIfInBounds_toArray, List.set_cons_zero, List.set_cons_succ])
            refine wpAnyH_ready (rs := [3]) (by kernel_rfl) (by simp) ?_
            refine AllReadyH.cons rfl (fun K hK => ?_) AllReadyH.nil
            (try rw [if_pos (by kernel_rfl)])
            refine El.op_apps eSc Y381 24 (.agg #[.string ⟨#[]⟩, .slice none 0 0]) 40 Try.underlying24 sc_info rfl (by decide) (.tmp 74) (.tmp 76) rfl W0.heap.size (.slice (some ⟨Y315.heap.size, 0, none⟩) 0 0) [] rfl (HK380.out.r1 _ _ rfl) A1 c1 W0.heap.size s1 rfl hA1 ((HA1.out.below HK380.out.b)) (by first | omega | (simp; omega)) (by first | (simp [eSc]; omega) | omega) HK380.out.b.size ?_
            intro v9 Z383 ho9 hg9
            (try rw [List.nil_append] at ho9)
            have hkn := HK380.out.app1 ho9 hg9
            obtain ⟨a384, n385, c386, rfl, _, _, _, _⟩ := ho9.formN
            have HK382 := Lib.hid hkn
            change K (Act.put _ (some 77) (.slice a384 n385 c386)) Z383
            clear ho9 hg9 hkn
            refine hK.out _ _ (HCL.out _ HK382.out.b) (fun hHeld => ?_)
            clear hK K
            (try simp only [Act.put, List.setIfInBounds_toArray, List.set_cons_zero, List.set_cons_succ])
            refine wpAnyH_ready (rs := [6]) (by kernel_rfl) (by simp) ?_
            refine AllReadyH.cons rfl (fun K hK => ?_) AllReadyH.nil
            (try rw [if_pos (by kernel_rfl)])
            refine El.op_apps eSc Z383 24 (.agg #[.string ⟨#[]⟩, .slice none 0 0]) 40 Try.underlying24 sc_info rfl (by decide) (.tmp 77) (.tmp 79) rfl W0.heap.size (.slice a384 n385 c386) s1 rfl (HK382.out.r1 _ _ rfl) B1 d1 W0.heap.size s2 rfl hB1 ((HB1.out.below HK382.out.b)) (by first | omega | (simp; omega)) (by first | (simp [eSc]; omega) | omega) HK382.out.b.size ?_
            intro v9 Z388 ho9 hg9
            (try rw [List.nil_append] at ho9)
            have hkn := HK382.out.app1 ho9 hg9
            obtain ⟨a389, n390, c391, rfl, _, _, _, _⟩ := ho9.formN
            have HK387 := Lib.hid hkn
            change K (Act.put _ (some 80) (.slice a389 n390 c391)) Z388
            clear ho9 hg9 hkn
            refine hK.out _ _ (HCL.out _ HK387.out.b) (fun hHeld => ?_)
            clear hK K
            (try simp only [Act.put, List.setIfInBounds_toArray, List.set_cons_zero, List.set_cons_succ])
            refine wpAnyH_ready (rs := [10]) (by kernel_rfl) (by simp) ?_
            refine AllReadyH.cons rfl (fun K hK => ?_) AllReadyH.nil
            (try rw [if_pos (by kernel_rfl)])
            refine El.op_apps eDc Z388 25 (.agg #[.string ⟨#[]⟩, .int .i64 0, .slice none 0 0, .int .u8 0, .int .i64 0, .string ⟨#[]⟩, .slice none 0 0]) 104 Try.underlying25 dc_info rfl (by decide) (.tmp 81) (.tmp 83) rfl W0.heap.size (.slice (some ⟨Wd.heap.size, 0, none⟩) 0 0) [] rfl (HK387.out.r2 _ _ rfl) A2 c2 W0.heap.size f1 rfl hA2 ((HA2.out.below HK387.out.b)) (by first | omega | (simp; omega)) (by first | (simp [eDc]; omega) | omega) HK387.out.b.size ?_
            intro v9 Z393 ho9 hg9
            (try rw [List.nil_append] at ho9)
            have hkn := HK387.out.app2 ho9 hg9
            obtain ⟨a394, n395, c396, rfl, _, _, _, _⟩ := ho9.formN
            have HK392 := Lib.hid hkn
            change K (Act.put _ (some 84) (.slice a394 n395 c396)) Z393
            clear ho9 hg9 hkn
            refine hK.out _ _ (HCL.out _ HK392.out.b) (fun hHeld => ?_)
            clear hK K
            (try simp only [Act.put, List.setIfInBounds_toArray, List.set_cons_zero, List.set_cons_succ])
            refine wpAnyH_ready (rs := [13]) (by kernel_rfl) (by simp) ?_
            refine AllReadyH.cons rfl (fun K hK => ?_) AllReadyH.nil
            (try rw [if_pos (by kernel_rfl)])
            refine El.op_apps eDc Z393 25 (.agg #[.string ⟨#[]⟩, .int .i64 0, .slice none 0 0, .int .u8 0, .int .i64 0, .string ⟨#[]⟩, .slice none 0 0]) 104 Try.underlying25 dc_info rfl (by decide) (.tmp 84) (.tmp 86) rfl W0.heap.size (.slice a394 n395 c396) f1 rfl (HK392.out.r2 _ _ rfl) B2 d2 W0.heap.size f2 rfl hB2 ((HB2.out.below HK392.out.b)) (by first | omega | (simp; omega)) (by first | (simp [eDc]; omega) | omega) HK392.out.b.size ?_
            intro v9 Z398 ho9 hg9
            (try rw [List.nil_append] at ho9)
            have hkn := HK392.out.app2 ho9 hg9
            obtain ⟨a399, n400, c401, rfl, _, _, _, _⟩ := ho9.formN
            have HK397 := Lib.hid hkn
            change K (Act.put _ (some 87) (.slice a399 n400 c401)) Z398
            clear ho9 hg9 hkn
            refine hK.out _ _ (HCL.out _ HK397.out.b) (fun hHeld => ?_)
            clear hK K
            (try simp only [Act.put, List.setIfInBounds_toArray, List.set_cons_zero, List.set_cons_succ])
            refine heldTake (i := 14) (d := some 88) (v := ?_) rfl rfl (by kernel_rfl) (by kernel_rfl) (by kernel_rfl) (fun _ _ _ h => h) (by kernel_rfl) ?hyq_31 (by assumption) ?restq_31
            case hyq_31 => (intro W9 hSw; (try dsimp only at hSw); go_simp; try (with_reducible rfl))
            (try simp only [Act.put, List.setIfInBounds_toArray, List.set_cons_zero, List.set_cons_succ])
            refine wpAnyH_ready (rs := [16]) (by kernel_rfl) (by simp) ?_
            refine AllReadyH.cons rfl (fun K hK => ?_) AllReadyH.nil
            have hr3 := (HK397.out.r3 _ rfl).2
            have q0 := hr3.cell (j := 0) (by simp)
            have qf0 := hr3.frozen 0
            have q1 := hr3.cell (j := 1) (by simp)
            have qf1 := hr3.frozen 1
            simp only [List.getElem_cons_zero, List.getElem_cons_succ] at q0 q1
            have HE402 := Lib.hid HK397.out.store
            clear hr3
            go_simp
            refine hK.out _ _ (HCL.out _ HE402.out.1) (fun hHeld => ?_)
            clear hK K
            (try simp only [Act.put, List.setIfInBounds_toArray, List.set_cons_zero, List.set_cons_succ])
            refine wpAnyH_done (by kernel_rfl) ?_ _
            go_wp2_with fail
            go_meet
            exact ⟨_, rfl, HE402⟩
        · go_simp
          have hkn := HK314.out.al
          obtain ⟨Y404, hY⟩ : ∃ Y, Y315.alloc (.cells #[.slice none 0 0, .slice none 0 0] 27) = Y := ⟨_, rfl⟩
          rw [hY] at hkn ⊢
          have HK403 := Lib.hid hkn
          clear hY hkn
          refine hK.out _ _ (HCL.out _ HK403.out.b) (fun hHeld => ?_)
          clear hK K
          (try simp only [Act.put, List.setIfInBounds_toArray, List.set_cons_zero, List.set_cons_succ])
          refine wpAnyH_ready (rs := [0]) (by kernel_rfl) (by simp) ?_
          refine AllReadyH.cons rfl (fun K hK => ?_) AllReadyH.nil
          go_simp
          have hkn := HK403.out.build1
          obtain ⟨Y406, hY⟩ : ∃ Y, Y404.alloc (.cells #[] 71) = Y := ⟨_, rfl⟩
          rw [hY] at hkn ⊢
          have HK405 := Lib.hid hkn
          clear hY hkn
          refine hK.out _ _ (HCL.out _ HK405.out.b) (fun hHeld => ?_)
          clear hK K
          (try simp only [Act.put, List.setIfInBounds_toArray, List.set_cons_zero, List.set_cons_succ])
          refine wpAnyH_ready (rs := [3]) (by kernel_rfl) (by simp) ?_
          refine AllReadyH.cons rfl (fun K hK => ?_) AllReadyH.nil
          (try rw [if_pos (by kernel_rfl)])
          refine El.op_apps eSc Y406 24 (.agg #[.string ⟨#[]⟩, .slice none 0 0]) 40 Try.underlying24 sc_info rfl (by decide) (.tmp 74) (.tmp 76) rfl W0.heap.size (.slice (some ⟨Y404.heap.size, 0, none⟩) 0 0) [] rfl (HK405.out.r1 _ _ rfl) A1 c1 W0.heap.size s1 rfl hA1 ((HA1.out.below HK405.out.b)) (by first | omega | (simp; omega)) (by first | (simp [eSc]; omega) | omega) HK405.out.b.size ?_
          intro v9 Z408 ho9 hg9
          (try rw [List.nil_append] at ho9)
          have hkn := HK405.out.app1 ho9 hg9
          obtain ⟨a409, n410, c411, rfl, _, _, _, _⟩ := ho9.formN
          have HK407 := Lib.hid hkn
          change K (Act.put _ (some 77) (.slice a409 n410 c411)) Z408
          clear ho9 hg9 hkn
          refine hK.out _ _ (HCL.out _ HK407.out.b) (fun hHeld => ?_)
          clear hK K
          (try simp only [Act.put, List.setIfInBounds_toArray, List.set_cons_zero, List.set_cons_succ])
          refine wpAnyH_ready (rs := [6]) (by kernel_rfl) (by simp) ?_
          refine AllReadyH.cons rfl (fun K hK => ?_) AllReadyH.nil
          (try rw [if_pos (by kernel_rfl)])
          refine El.op_apps eSc Z408 24 (.agg #[.string ⟨#[]⟩, .slice none 0 0]) 40 Try.underlying24 sc_info rfl (by decide) (.tmp 77) (.tmp 79) rfl W0.heap.size (.slice a409 n410 c411) s1 rfl (HK407.out.r1 _ _ rfl) B1 d1 W0.heap.size s2 rfl hB1 ((HB1.out.below HK407.out.b)) (by first | omega | (simp; omega)) (by first | (simp [eSc]; omega) | omega) HK407.out.b.size ?_
          intro v9 Z413 ho9 hg9
          (try rw [List.nil_append] at ho9)
          have hkn := HK407.out.app1 ho9 hg9
          obtain ⟨a414, n415, c416, rfl, _, _, _, _⟩ := ho9.formN
          have HK412 := Lib.hid hkn
          change K (Act.put _ (some 80) (.slice a414 n415 c416)) Z413
          clear ho9 hg9 hkn
          refine hK.out _ _ (HCL.out _ HK412.out.b) (fun hHeld => ?_)
          clear hK K
          (try simp only [Act.put, List.setIfInBounds_toArray, List.set_cons_zero, List.set_cons_succ])
          refine wpAnyH_ready (rs := [10]) (by kernel_rfl) (by simp) ?_
          refine AllReadyH.cons rfl (fun K hK => ?_) AllReadyH.nil
          (try rw [if_pos (by kernel_rfl)])
          refine El.op_apps eDc Z413 25 (.agg #[.string ⟨#[]⟩, .int .i64 0, .slice none 0 0, .int .u8 0, .int .i64 0, .string ⟨#[]⟩, .slice none 0 0]) 104 Try.underlying25 dc_info rfl (by decide) (.tmp 81) (.tmp 83) rfl W0.heap.size (.slice (some ⟨Wd.heap.size, 0, none⟩) 0 0) [] rfl (HK412.out.r2 _ _ rfl) A2 c2 W0.heap.size f1 rfl hA2 ((HA2.out.below HK412.out.b)) (by first | omega | (simp; omega)) (by first | (simp [eDc]; omega) | omega) HK412.out.b.size ?_
          intro v9 Z418 ho9 hg9
          (try rw [List.nil_append] at ho9)
          have hkn := HK412.out.app2 ho9 hg9
          obtain ⟨a419, n420, c421, rfl, _, _, _, _⟩ := ho9.formN
          have HK417 := Lib.hid hkn
          change K (Act.put _ (some 84) (.slice a419 n420 c421)) Z418
          clear ho9 hg9 hkn
          refine hK.out _ _ (HCL.out _ HK417.out.b) (fun hHeld => ?_)
          clear hK K
          (try simp only [Act.put, List.setIfInBounds_toArray, List.set_cons_zero, List.set_cons_succ])
          refine wpAnyH_ready (rs := [13]) (by kernel_rfl) (by simp) ?_
          refine AllReadyH.cons rfl (fun K hK => ?_) AllReadyH.nil
          (try rw [if_pos (by kernel_rfl)])
          refine El.op_apps eDc Z418 25 (.agg #[.string ⟨#[]⟩, .int .i64 0, .slice none 0 0, .int .u8 0, .int .i64 0, .string ⟨#[]⟩, .slice none 0 0]) 104 Try.underlying25 dc_info rfl (by decide) (.tmp 84) (.tmp 86) rfl W0.heap.size (.slice a419 n420 c421) f1 rfl (HK417.out.r2 _ _ rfl) B2 d2 W0.heap.size f2 rfl hB2 ((HB2.out.below HK417.out.b)) (by first | omega | (simp; omega)) (by first | (simp [eDc]; omega) | omega) HK417.out.b.size ?_
          intro v9 Z423 ho9 hg9
          (try rw [List.nil_append] at ho9)
          have hkn := HK417.out.app2 ho9 hg9
          obtain ⟨a424, n425, c426, rfl, _, _, _, _⟩ := ho9.formN
          have HK422 := Lib.hid hkn
          change K (Act.put _ (some 87) (.slice a424 n425 c426)) Z423
          clear ho9 hg9 hkn
          refine hK.out _ _ (HCL.out _ HK422.out.b) (fun hHeld => ?_)
          clear hK K
          (try simp only [Act.put, List.setIfInBounds_toArray, List.set_cons_zero, List.set_cons_succ])
          refine heldTake (i := 14) (d := some 88) (v := ?_) rfl rfl (by kernel_rfl) (by kernel_rfl) (by kernel_rfl) (fun _ _ _ h => h) (by kernel_rfl) ?hyq_32 (by assumption) ?restq_32
          case hyq_32 => (intro W9 hSw; (try dsimp only at hSw); go_simp; try (with_reducible rfl))
          (try simp only [Act.put, List.setIfInBounds_toArray, List.set_cons_zero, List.set_cons_succ])
          refine wpAnyH_ready (rs := [16]) (by kernel_rfl) (by simp) ?_
          refine AllReadyH.cons rfl (fun K hK => ?_) AllReadyH.nil
          have hr3 := (HK422.out.r3 _ rfl).2
          have q0 := hr3.cell (j := 0) (by simp)
          have qf0 := hr3.frozen 0
          have q1 := hr3.cell (j := 1) (by simp)
          have qf1 := hr3.frozen 1
          simp only [List.getElem_cons_zero, List.getElem_cons_succ] at q0 q1
          have HE427 := Lib.hid HK422.out.store
          clear hr3
          go_simp
          refine hK.out _ _ (HCL.out _ HE427.out.1) (fun hHeld => ?_)
          clear hK K
          (try simp only [Act.put, List.setIfInBounds_toArray, List.set_cons_zero, List.set_cons_succ])
          refine wpAnyH_done (by kernel_rfl) ?_ _
          go_wp2_with fail
          go_meet
          exact ⟨_, rfl, HE427⟩
      · go_simp
        have hkn := HJd.out.al
        obtain ⟨Y429, hY⟩ : ∃ Y, Wd.alloc (.cells #[.slice none 0 0, .slice none 0 0] 27) = Y := ⟨_, rfl⟩
        rw [hY] at hkn ⊢
        have HK428 := Lib.hid hkn
        clear hY hkn
        refine hK.out _ _ (HCL.out _ HK428.out.b) (fun hHeld => ?_)
        clear hK K
        (try simp only [Act.put, List.setIfInBounds_toArray, List.set_cons_zero, List.set_cons_succ])
        refine wpAnyH_ready (rs := [0, 7]) (by kernel_rfl) (by simp) ?_
        refine AllReadyH.cons rfl (fun K hK => ?_) (AllReadyH.cons rfl (fun K hK => ?_) AllReadyH.nil)
        · go_simp
          have hkn := HK428.out.build1
          obtain ⟨Y431, hY⟩ : ∃ Y, Y429.alloc (.cells #[] 71) = Y := ⟨_, rfl⟩
          rw [hY] at hkn ⊢
          have HK430 := Lib.hid hkn
          clear hY hkn
          refine hK.out _ _ (HCL.out _ HK430.out.b) (fun hHeld => ?_)
          clear hK K
          (try simp only [Act.put, List.setIfInBounds_toArray, List.set_cons_zero, List.set_cons_succ])
          refine wpAnyH_ready (rs := [3, 7]) (by kernel_rfl) (by simp) ?_
          refine AllReadyH.cons rfl (fun K hK => ?_) (AllReadyH.cons rfl (fun K hK => ?_) AllReadyH.nil)
          · (try rw [if_pos (by kernel_rfl)])
            refine El.op_apps eSc Y431 24 (.agg #[.string ⟨#[]⟩, .slice none 0 0]) 40 Try.underlying24 sc_info rfl (by decide) (.tmp 74) (.tmp 76) rfl W0.heap.size (.slice (some ⟨Y429.heap.size, 0, none⟩) 0 0) [] rfl (HK430.out.r1 _ _ rfl) A1 c1 W0.heap.size s1 rfl hA1 ((HA1.out.below HK430.out.b)) (by first | omega | (simp; omega)) (by first | (simp [eSc]; omega) | omega) HK430.out.b.size ?_
            intro v9 Z433 ho9 hg9
            (try rw [List.nil_append] at ho9)
            have hkn := HK430.out.app1 ho9 hg9
            obtain ⟨a434, n435, c436, rfl, _, _, _, _⟩ := ho9.formN
            have HK432 := Lib.hid hkn
            change K (Act.put _ (some 77) (.slice a434 n435 c436)) Z433
            clear ho9 hg9 hkn
            refine hK.out _ _ (HCL.out _ HK432.out.b) (fun hHeld => ?_)
            clear hK K
            (try simp only [Act.put, List.setIfInBounds_toArray, List.set_cons_zero, List.set_cons_succ])
            refine wpAnyH_ready (rs := [6, 7]) (by kernel_rfl) (by simp) ?_
            refine AllReadyH.cons rfl (fun K hK => ?_) (AllReadyH.cons rfl (fun K hK => ?_) AllReadyH.nil)
            · (try rw [if_pos (by kernel_rfl)])
              refine El.op_apps eSc Z433 24 (.agg #[.string ⟨#[]⟩, .slice none 0 0]) 40 Try.underlying24 sc_info rfl (by decide) (.tmp 77) (.tmp 79) rfl W0.heap.size (.slice a434 n435 c436) s1 rfl (HK432.out.r1 _ _ rfl) B1 d1 W0.heap.size s2 rfl hB1 ((HB1.out.below HK432.out.b)) (by first | omega | (simp; omega)) (by first | (simp [eSc]; omega) | omega) HK432.out.b.size ?_
              intro v9 Z438 ho9 hg9
              (try rw [List.nil_append] at ho9)
              have hkn := HK432.out.app1 ho9 hg9
              obtain ⟨a439, n440, c441, rfl, _, _, _, _⟩ := ho9.formN
              have HK437 := Lib.hid hkn
              change K (Act.put _ (some 80) (.slice a439 n440 c441)) Z438
              clear ho9 hg9 hkn
              refine hK.out _ _ (HCL.out _ HK437.out.b) (fun hHeld => ?_)
              clear hK K
              (try simp only [Act.put, List.setIfInBounds_toArray, List.set_cons_zero, List.set_cons_succ])
              refine wpAnyH_ready (rs := [7]) (by kernel_rfl) (by simp) ?_
              refine AllReadyH.cons rfl (fun K hK => ?_) AllReadyH.nil
              go_simp
              have hkn := HK437.out.build2
              obtain ⟨Y443, hY⟩ : ∃ Y, Z438.alloc (.cells #[] 50) = Y := ⟨_, rfl⟩
              rw [hY] at hkn ⊢
              have HK442 := Lib.hid hkn
              clear hY hkn
              refine hK.out _ _ (HCL.out _ HK442.out.b) (fun hHeld => ?_)
              clear hK K
              (try simp only [Act.put, List.setIfInBounds_toArray, List.set_cons_zero, List.set_cons_succ])
              refine wpAnyH_ready (rs := [10]) (by kernel_rfl) (by simp) ?_
              refine AllReadyH.cons rfl (fun K hK => ?_) AllReadyH.nil
              (try rw [if_pos (by kernel_rfl)])
              refine El.op_apps eDc Y443 25 (.agg #[.string ⟨#[]⟩, .int .i64 0, .slice none 0 0, .int .u8 0, .int .i64 0, .string ⟨#[]⟩, .slice none 0 0]) 104 Try.underlying25 dc_info rfl (by decide) (.tmp 81) (.tmp 83) rfl W0.heap.size (.slice (some ⟨Z438.heap.size, 0, none⟩) 0 0) [] rfl (HK442.out.r2 _ _ rfl) A2 c2 W0.heap.size f1 rfl hA2 ((HA2.out.below HK442.out.b)) (by first | omega | (simp; omega)) (by first | (simp [eDc]; omega) | omega) HK442.out.b.size ?_
              intro v9 Z445 ho9 hg9
              (try rw [List.nil_append] at ho9)
              have hkn := HK442.out.app2 ho9 hg9
              obtain ⟨a446, n447, c448, rfl, _, _, _, _⟩ := ho9.formN
              have HK444 := Lib.hid hkn
              change K (Act.put _ (some 84) (.slice a446 n447 c448)) Z445
              clear ho9 hg9 hkn
              refine hK.out _ _ (HCL.out _ HK444.out.b) (fun hHeld => ?_)
              clear hK K
              (try simp only [Act.put, List.setIfInBounds_toArray, List.set_cons_zero, List.set_cons_succ])
              refine wpAnyH_ready (rs := [13]) (by kernel_rfl) (by simp) ?_
              refine AllReadyH.cons rfl (fun K hK => ?_) AllReadyH.nil
              (try rw [if_pos (by kernel_rfl)])
              refine El.op_apps eDc Z445 25 (.agg #[.string ⟨#[]⟩, .int .i64 0, .slice none 0 0, .int .u8 0, .int .i64 0, .string ⟨#[]⟩, .slice none 0 0]) 104 Try.underlying25 dc_info rfl (by decide) (.tmp 84) (.tmp 86) rfl W0.heap.size (.slice a446 n447 c448) f1 rfl (HK444.out.r2 _ _ rfl) B2 d2 W0.heap.size f2 rfl hB2 ((HB2.out.below HK444.out.b)) (by first | omega | (simp; omega)) (by first | (simp [eDc]; omega) | omega) HK444.out.b.size ?_
              intro v9 Z450 ho9 hg9
              (try rw [List.nil_append] at ho9)
              have hkn := HK444.out.app2 ho9 hg9
              obtain ⟨a451, n452, c453, rfl, _, _, _, _⟩ := ho9.formN
              have HK449 := Lib.hid hkn
              change K (Act.put _ (some 87) (.slice a451 n452 c453)) Z450
              clear ho9 hg9 hkn
              refine hK.out _ _ (HCL.out _ HK449.out.b) (fun hHeld => ?_)
              clear hK K
              (try simp only [Act.put, List.setIfInBounds_toArray, List.set_cons_zero, List.set_cons_succ])
              refine heldTake (i := 14) (d := some 88) (v := ?_) rfl rfl (by kernel_rfl) (by kernel_rfl) (by kernel_rfl) (fun _ _ _ h => h) (by kernel_rfl) ?hyq_33 (by assumption) ?restq_33
              case hyq_33 => (intro W9 hSw; (try dsimp only at hSw); go_simp; try (with_reducible rfl))
              (try simp only [Act.put, List.setIfInBounds_toArray, List.set_cons_zero, List.set_cons_succ])
              refine wpAnyH_ready (rs := [16]) (by kernel_rfl) (by simp) ?_
              refine AllReadyH.cons rfl (fun K hK => ?_) AllReadyH.nil
              have hr3 := (HK449.out.r3 _ rfl).2
              have q0 := hr3.cell (j := 0) (by simp)
              have qf0 := hr3.frozen 0
              have q1 := hr3.cell (j := 1) (by simp)
              have qf1 := hr3.frozen 1
              simp only [List.getElem_cons_zero, List.getElem_cons_succ] at q0 q1
              have HE454 := Lib.hid HK449.out.store
              clear hr3
              go_simp
              refine hK.out _ _ (HCL.out _ HE454.out.1) (fun hHeld => ?_)
              clear hK K
              (try simp only [Act.put, List.setIfInBounds_toArray, List.set_cons_zero, List.set_cons_succ])
              refine wpAnyH_done (by kernel_rfl) ?_ _
              go_wp2_with fail
              go_meet
              exact ⟨_, rfl, HE454⟩
            · go_simp
              have hkn := HK432.out.build2
              obtain ⟨Y456, hY⟩ : ∃ Y, Z433.alloc (.cells #[] 50) = Y := ⟨_, rfl⟩
              rw [hY] at hkn ⊢
              have HK455 := Lib.hid hkn
              clear hY hkn
              refine hK.out _ _ (HCL.out _ HK455.out.b) (fun hHeld => ?_)
              clear hK K
              (try simp only [Act.put, List.setIfInBounds_toArray, List.set_cons_zero, List.set_cons_succ])
              refine wpAnyH_ready (rs := [6]) (by kernel_rfl) (by simp) ?_
              refine AllReadyH.cons rfl (fun K hK => ?_) AllReadyH.nil
              (try rw [if_pos (by kernel_rfl)])
              refine El.op_apps eSc Y456 24 (.agg #[.string ⟨#[]⟩, .slice none 0 0]) 40 Try.underlying24 sc_info rfl (by decide) (.tmp 77) (.tmp 79) rfl W0.heap.size (.slice a434 n435 c436) s1 rfl (HK455.out.r1 _ _ rfl) B1 d1 W0.heap.size s2 rfl hB1 ((HB1.out.below HK455.out.b)) (by first | omega | (simp; omega)) (by first | (simp [eSc]; omega) | omega) HK455.out.b.size ?_
              intro v9 Z458 ho9 hg9
              (try rw [List.nil_append] at ho9)
              have hkn := HK455.out.app1 ho9 hg9
              obtain ⟨a459, n460, c461, rfl, _, _, _, _⟩ := ho9.formN
              have HK457 := Lib.hid hkn
              change K (Act.put _ (some 80) (.slice a459 n460 c461)) Z458
              clear ho9 hg9 hkn
              refine hK.out _ _ (HCL.out _ HK457.out.b) (fun hHeld => ?_)
              clear hK K
              (try simp only [Act.put, List.setIfInBounds_toArray, List.set_cons_zero, List.set_cons_succ])
              refine wpAnyH_ready (rs := [10]) (by kernel_rfl) (by simp) ?_
              refine AllReadyH.cons rfl (fun K hK => ?_) AllReadyH.nil
              (try rw [if_pos (by kernel_rfl)])
              refine El.op_apps eDc Z458 25 (.agg #[.string ⟨#[]⟩, .int .i64 0, .slice none 0 0, .int .u8 0, .int .i64 0, .string ⟨#[]⟩, .slice none 0 0]) 104 Try.underlying25 dc_info rfl (by decide) (.tmp 81) (.tmp 83) rfl W0.heap.size (.slice (some ⟨Z433.heap.size, 0, none⟩) 0 0) [] rfl (HK457.out.r2 _ _ rfl) A2 c2 W0.heap.size f1 rfl hA2 ((HA2.out.below HK457.out.b)) (by first | omega | (simp; omega)) (by first | (simp [eDc]; omega) | omega) HK457.out.b.size ?_
              intro v9 Z463 ho9 hg9
              (try rw [List.nil_append] at ho9)
              have hkn := HK457.out.app2 ho9 hg9
              obtain ⟨a464, n465, c466, rfl, _, _, _, _⟩ := ho9.formN
              have HK462 := Lib.hid hkn
              change K (Act.put _ (some 84) (.slice a464 n465 c466)) Z463
              clear ho9 hg9 hkn
              refine hK.out _ _ (HCL.out _ HK462.out.b) (fun hHeld => ?_)
              clear hK K
              (try simp only [Act.put, List.setIfInBounds_toArray, List.set_cons_zero, List.set_cons_succ])
              refine wpAnyH_ready (rs := [13]) (by kernel_rfl) (by simp) ?_
              refine AllReadyH.cons rfl (fun K hK => ?_) AllReadyH.nil
              (try rw [if_pos (by kernel_rfl)])
              refine El.op_apps eDc Z463 25 (.agg #[.string ⟨#[]⟩, .int .i64 0, .slice none 0 0, .int .u8 0, .int .i64 0, .string ⟨#[]⟩, .slice none 0 0]) 104 Try.underlying25 dc_info rfl (by decide) (.tmp 84) (.tmp 86) rfl W0.heap.size (.slice a464 n465 c466) f1 rfl (HK462.out.r2 _ _ rfl) B2 d2 W0.heap.size f2 rfl hB2 ((HB2.out.below HK462.out.b)) (by first | omega | (simp; omega)) (by first | (simp [eDc]; omega) | omega) HK462.out.b.size ?_
              intro v9 Z468 ho9 hg9
              (try rw [List.nil_append] at ho9)
              have hkn := HK462.out.app2 ho9 hg9
              obtain ⟨a469, n470, c471, rfl, _, _, _, _⟩ := ho9.formN
              have HK467 := Lib.hid hkn
              change K (Act.put _ (some 87) (.slice a469 n470 c471)) Z468
              clear ho9 hg9 hkn
              refine hK.out _ _ (HCL.out _ HK467.out.b) (fun hHeld => ?_)
              clear hK K
              (try simp only [Act.put, List.setIfInBounds_toArray, List.set_cons_zero, List.set_cons_succ])
              refine heldTake (i := 14) (d := some 88) (v := ?_) rfl rfl (by kernel_rfl) (by kernel_rfl) (by kernel_rfl) (fun _ _ _ h => h) (by kernel_rfl) ?hyq_34 (by assumption) ?restq_34
              case hyq_34 => (intro W9 hSw; (try dsimp only at hSw); go_simp; try (with_reducible rfl))
              (try simp only [Act.put, List.setIfInBounds_toArray, List.set_cons_zero, List.set_cons_succ])
              refine wpAnyH_ready (rs := [16]) (by kernel_rfl) (by simp) ?_
              refine AllReadyH.cons rfl (fun K hK => ?_) AllReadyH.nil
              have hr3 := (HK467.out.r3 _ rfl).2
              have q0 := hr3.cell (j := 0) (by simp)
              have qf0 := hr3.frozen 0
              have q1 := hr3.cell (j := 1) (by simp)
              have qf1 := hr3.frozen 1
              simp only [List.getElem_cons_zero, List.getElem_cons_succ] at q0 q1
              have HE472 := Lib.hid HK467.out.store
              clear hr3
              go_simp
              refine hK.out _ _ (HCL.out _ HE472.out.1) (fun hHeld => ?_)
              clear hK K
              (try simp only [Act.put, List.setIfInBounds_toArray, List.set_cons_zero, List.set_cons_succ])
              refine wpAnyH_done (by kernel_rfl) ?_ _
              go_wp2_with fail
              go_meet
              exact ⟨_, rfl, HE472⟩
          · go_simp
            have hkn := HK430.out.build2
            obtain ⟨Y474, hY⟩ : ∃ Y, Y431.alloc (.cells #[] 50) = Y := ⟨_, rfl⟩
            rw [hY] at hkn ⊢
            have HK473 := Lib.hid hkn
            clear hY hkn
            refine hK.out _ _ (HCL.out _ HK473.out.b) (fun hHeld => ?_)
            clear hK K
            (try simp only [Act.put, List.setIfInBounds_toArray, List.set_cons_zero, List.set_cons_succ])
            refine wpAnyH_ready (rs := [3]) (by kernel_rfl) (by simp) ?_
            refine AllReadyH.cons rfl (fun K hK => ?_) AllReadyH.nil
            (try rw [if_pos (by kernel_rfl)])
            refine El.op_apps eSc Y474 24 (.agg #[.string ⟨#[]⟩, .slice none 0 0]) 40 Try.underlying24 sc_info rfl (by decide) (.tmp 74) (.tmp 76) rfl W0.heap.size (.slice (some ⟨Y429.heap.size, 0, none⟩) 0 0) [] rfl (HK473.out.r1 _ _ rfl) A1 c1 W0.heap.size s1 rfl hA1 ((HA1.out.below HK473.out.b)) (by first | omega | (simp; omega)) (by first | (simp [eSc]; omega) | omega) HK473.out.b.size ?_
            intro v9 Z476 ho9 hg9
            (try rw [List.nil_append] at ho9)
            have hkn := HK473.out.app1 ho9 hg9
            obtain ⟨a477, n478, c479, rfl, _, _, _, _⟩ := ho9.formN
            have HK475 := Lib.hid hkn
            change K (Act.put _ (some 77) (.slice a477 n478 c479)) Z476
            clear ho9 hg9 hkn
            refine hK.out _ _ (HCL.out _ HK475.out.b) (fun hHeld => ?_)
            clear hK K
            (try simp only [Act.put, List.setIfInBounds_toArray, List.set_cons_zero, List.set_cons_succ])
            refine wpAnyH_ready (rs := [6]) (by kernel_rfl) (by simp) ?_
            refine AllReadyH.cons rfl (fun K hK => ?_) AllReadyH.nil
            (try rw [if_pos (by kernel_rfl)])
            refine El.op_apps eSc Z476 24 (.agg #[.string ⟨#[]⟩, .slice none 0 0]) 40 Try.underlying24 sc_info rfl (by decide) (.tmp 77) (.tmp 79) rfl W0.heap.size (.slice a477 n478 c479) s1 rfl (HK475.out.r1 _ _ rfl) B1 d1 W0.heap.size s2 rfl hB1 ((HB1.out.below HK475.out.b)) (by first | omega | (simp; omega)) (by first | (simp [eSc]; omega) | omega) HK475.out.b.size ?_
            intro v9 Z481 ho9 hg9
            (try rw [List.nil_append] at ho9)
            have hkn := HK475.out.app1 ho9 hg9
            obtain ⟨a482, n483, c484, rfl, _, _, _, _⟩ := ho9.formN
            have HK480 := Lib.hid hkn
            change K (Act.put _ (some 80) (.slice a482 n483 c484)) Z481
            clear ho9 hg9 hkn
            refine hK.out _ _ (HCL.out _ HK480.out.b) (fun hHeld => ?_)
            clear hK K
            (try simp only [Act.put, List.setIfInBounds_toArray, List.set_cons_zero, List.set_cons_succ])
            refine wpAnyH_ready (rs := [10]) (by kernel_rfl) (by simp) ?_
            refine AllReadyH.cons rfl (fun K hK => ?_) AllReadyH.nil
            (try rw [if_pos (by kernel_rfl)])
            refine El.op_apps eDc Z481 25 (.agg #[.string ⟨#[]⟩, .int .i64 0, .slice none 0 0, .int .u8 0, .int .i64 0, .string ⟨#[]⟩, .slice none 0 0]) 104 Try.underlying25 dc_info rfl (by decide) (.tmp 81) (.tmp 83) rfl W0.heap.size (.slice (some ⟨Y431.heap.size, 0, none⟩) 0 0) [] rfl (HK480.out.r2 _ _ rfl) A2 c2 W0.heap.size f1 rfl hA2 ((HA2.out.below HK480.out.b)) (by first | omega | (simp; omega)) (by first | (simp [eDc]; omega) | omega) HK480.out.b.size ?_
            intro v9 Z486 ho9 hg9
            (try rw [List.nil_append] at ho9)
            have hkn := HK480.out.app2 ho9 hg9
            obtain ⟨a487, n488, c489, rfl, _, _, _, _⟩ := ho9.formN
            have HK485 := Lib.hid hkn
            change K (Act.put _ (some 84) (.slice a487 n488 c489)) Z486
            clear ho9 hg9 hkn
            refine hK.out _ _ (HCL.out _ HK485.out.b) (fun hHeld => ?_)
            clear hK K
            (try simp only [Act.put, List.setIfInBounds_toArray, List.set_cons_zero, List.set_cons_succ])
            refine wpAnyH_ready (rs := [13]) (by kernel_rfl) (by simp) ?_
            refine AllReadyH.cons rfl (fun K hK => ?_) AllReadyH.nil
            (try rw [if_pos (by kernel_rfl)])
            refine El.op_apps eDc Z486 25 (.agg #[.string ⟨#[]⟩, .int .i64 0, .slice none 0 0, .int .u8 0, .int .i64 0, .string ⟨#[]⟩, .slice none 0 0]) 104 Try.underlying25 dc_info rfl (by decide) (.tmp 84) (.tmp 86) rfl W0.heap.size (.slice a487 n488 c489) f1 rfl (HK485.out.r2 _ _ rfl) B2 d2 W0.heap.size f2 rfl hB2 ((HB2.out.below HK485.out.b)) (by first | omega | (simp; omega)) (by first | (simp [eDc]; omega) | omega) HK485.out.b.size ?_
            intro v9 Z491 ho9 hg9
            (try rw [List.nil_append] at ho9)
            have hkn := HK485.out.app2 ho9 hg9
            obtain ⟨a492, n493, c494, rfl, _, _, _, _⟩ := ho9.formN
            have HK490 := Lib.hid hkn
            change K (Act.put _ (some 87) (.slice a492 n493 c494)) Z491
            clear ho9 hg9 hkn
            refine hK.out _ _ (HCL.out _ HK490.out.b) (fun hHeld => ?_)
            clear hK K
            (try simp only [Act.put, List.setIfInBounds_toArray, List.set_cons_zero, List.set_cons_succ])
            refine heldTake (i := 14) (d := some 88) (v := ?_) rfl rfl (by kernel_rfl) (by kernel_rfl) (by kernel_rfl) (fun _ _ _ h => h) (by kernel_rfl) ?hyq_35 (by assumption) ?restq_35
            case hyq_35 => (intro W9 hSw; (try dsimp only at hSw); go_simp; try (with_reducible rfl))
            (try simp only [Act.put, List.setIfInBounds_toArray, List.set_cons_zero, List.set_cons_succ])
            refine wpAnyH_ready (rs := [16]) (by kernel_rfl) (by simp) ?_
            refine AllReadyH.cons rfl (fun K hK => ?_) AllReadyH.nil
            have hr3 := (HK490.out.r3 _ rfl).2
            have q0 := hr3.cell (j := 0) (by simp)
            have qf0 := hr3.frozen 0
            have q1 := hr3.cell (j := 1) (by simp)
            have qf1 := hr3.frozen 1
            simp only [List.getElem_cons_zero, List.getElem_cons_succ] at q0 q1
            have HE495 := Lib.hid HK490.out.store
            clear hr3
            go_simp
            refine hK.out _ _ (HCL.out _ HE495.out.1) (fun hHeld => ?_)
            clear hK K
            (try simp only [Act.put, List.setIfInBounds_toArray, List.set_cons_zero, List.set_cons_succ])
            refine wpAnyH_done (by kernel_rfl) ?_ _
            go_wp2_with fail
            go_meet
            exact ⟨_, rfl, HE495⟩
        · go_simp
          have hkn := HK428.out.build2
          obtain ⟨Y497, hY⟩ : ∃ Y, Y429.alloc (.cells #[] 50) = Y := ⟨_, rfl⟩
          rw [hY] at hkn ⊢
          have HK496 := Lib.hid hkn
          clear hY hkn
          refine hK.out _ _ (HCL.out _ HK496.out.b) (fun hHeld => ?_)
          clear hK K
          (try simp only [Act.put, List.setIfInBounds_toArray, List.set_cons_zero, List.set_cons_succ])
          refine wpAnyH_ready (rs := [0]) (by kernel_rfl) (by simp) ?_
          refine AllReadyH.cons rfl (fun K hK => ?_) AllReadyH.nil
          go_simp
          have hkn := HK496.out.build1
          obtain ⟨Y499, hY⟩ : ∃ Y, Y497.alloc (.cells #[] 71) = Y := ⟨_, rfl⟩
          rw [hY] at hkn ⊢
          have HK498 := Lib.hid hkn
          clear hY hkn
          refine hK.out _ _ (HCL.out _ HK498.out.b) (fun hHeld => ?_)
          clear hK K
          (try simp only [Act.put, List.setIfInBounds_toArray, List.set_cons_zero, List.set_cons_succ])
          refine wpAnyH_ready (rs := [3]) (by kernel_rfl) (by simp) ?_
          refine AllReadyH.cons rfl (fun K hK => ?_) AllReadyH.nil
          (try rw [if_pos (by kernel_rfl)])
          refine El.op_apps eSc Y499 24 (.agg #[.string ⟨#[]⟩, .slice none 0 0]) 40 Try.underlying24 sc_info rfl (by decide) (.tmp 74) (.tmp 76) rfl W0.heap.size (.slice (some ⟨Y497.heap.size, 0, none⟩) 0 0) [] rfl (HK498.out.r1 _ _ rfl) A1 c1 W0.heap.size s1 rfl hA1 ((HA1.out.below HK498.out.b)) (by first | omega | (simp; omega)) (by first | (simp [eSc]; omega) | omega) HK498.out.b.size ?_
          intro v9 Z501 ho9 hg9
          (try rw [List.nil_append] at ho9)
          have hkn := HK498.out.app1 ho9 hg9
          obtain ⟨a502, n503, c504, rfl, _, _, _, _⟩ := ho9.formN
          have HK500 := Lib.hid hkn
          change K (Act.put _ (some 77) (.slice a502 n503 c504)) Z501
          clear ho9 hg9 hkn
          refine hK.out _ _ (HCL.out _ HK500.out.b) (fun hHeld => ?_)
          clear hK K
          (try simp only [Act.put, List.setIfInBounds_toArray, List.set_cons_zero, List.set_cons_succ])
          refine wpAnyH_ready (rs := [6]) (by kernel_rfl) (by simp) ?_
          refine AllReadyH.cons rfl (fun K hK => ?_) AllReadyH.nil
          (try rw [if_pos (by kernel_rfl)])
          refine El.op_apps eSc Z501 24 (.agg #[.string ⟨#[]⟩, .slice none 0 0]) 40 Try.underlying24 sc_info rfl (by decide) (.tmp 77) (.tmp 79) rfl W0.heap.size (.slice a502 n503 c504) s1 rfl (HK500.out.r1 _ _ rfl) B1 d1 W0.heap.size s2 rfl hB1 ((HB1.out.below HK500.out.b)) (by first | omega | (simp; omega)) (by first | (simp [eSc]; omega) | omega) HK500.out.b.size ?_
          intro v9 Z506 ho9 hg9
          (try rw [List.nil_append] at ho9)
          have hkn := HK500.out.app1 ho9 hg9
          obtain ⟨a507, n508, c509, rfl, _, _, _, _⟩ := ho9.formN
          have HK505 := Lib.hid hkn
          change K (Act.put _ (some 80) (.slice a507 n508 c509)) Z506
          clear ho9 hg9 hkn
          refine hK.out _ _ (HCL.out _ HK505.out.b) (fun hHeld => ?_)
          clear hK K
          (try simp only [Act.put, List.setIfInBounds_toArray, List.set_cons_zero, List.set_cons_succ])
          refine wpAnyH_ready (rs := [10]) (by kernel_rfl) (by simp) ?_
          refine AllReadyH.cons rfl (fun K hK => ?_) AllReadyH.nil
          (try rw [if_pos (by kernel_rfl)])
          refine El.op_apps eDc Z506 25 (.agg #[.string ⟨#[]⟩, .int .i64 0, .slice none 0 0, .int .u8 0, .int .i64 0, .string ⟨#[]⟩, .slice none 0 0]) 104 Try.underlying25 dc_info rfl (by decide) (.tmp 81) (.tmp 83) rfl W0.heap.size (.slice (some ⟨Y429.heap.size, 0, none⟩) 0 0) [] rfl (HK505.out.r2 _ _ rfl) A2 c2 W0.heap.size f1 rfl hA2 ((HA2.out.below HK505.out.b)) (by first | omega | (simp; omega)) (by first | (simp [eDc]; omega) | omega) HK505.out.b.size ?_
          intro v9 Z511 ho9 hg9
          (try rw [List.nil_append] at ho9)
          have hkn := HK505.out.app2 ho9 hg9
          obtain ⟨a512, n513, c514, rfl, _, _, _, _⟩ := ho9.formN
          have HK510 := Lib.hid hkn
          change K (Act.put _ (some 84) (.slice a512 n513 c514)) Z511
          clear ho9 hg9 hkn
          refine hK.out _ _ (HCL.out _ HK510.out.b) (fun hHeld => ?_)
          clear hK K
          (try simp only [Act.put, List.setIfInBounds_toArray, List.set_cons_zero, List.set_cons_succ])
          refine wpAnyH_ready (rs := [13]) (by kernel_rfl) (by simp) ?_
          refine AllReadyH.cons rfl (fun K hK => ?_) AllReadyH.nil
          (try rw [if_pos (by kernel_rfl)])
          refine El.op_apps eDc Z511 25 (.agg #[.string ⟨#[]⟩, .int .i64 0, .slice none 0 0, .int .u8 0, .int .i64 0, .string ⟨#[]⟩, .slice none 0 0]) 104 Try.underlying25 dc_info rfl (by decide) (.tmp 84) (.tmp 86) rfl W0.heap.size (.slice a512 n513 c514) f1 rfl (HK510.out.r2 _ _ rfl) B2 d2 W0.heap.size f2 rfl hB2 ((HB2.out.below HK510.out.b)) (by first | omega | (simp; omega)) (by first | (simp [eDc]; omega) | omega) HK510.out.b.size ?_
          intro v9 Z516 ho9 hg9
          (try rw [List.nil_append] at ho9)
          have hkn := HK510.out.app2 ho9 hg9
          obtain ⟨a517, n518, c519, rfl, _, _, _, _⟩ := ho9.formN
          have HK515 := Lib.hid hkn
          change K (Act.put _ (some 87) (.slice a517 n518 c519)) Z516
          clear ho9 hg9 hkn
          refine hK.out _ _ (HCL.out _ HK515.out.b) (fun hHeld => ?_)
          clear hK K
          (try simp only [Act.put, List.setIfInBounds_toArray, List.set_cons_zero, List.set_cons_succ])
          refine heldTake (i := 14) (d := some 88) (v := ?_) rfl rfl (by kernel_rfl) (by kernel_rfl) (by kernel_rfl) (fun _ _ _ h => h) (by kernel_rfl) ?hyq_36 (by assumption) ?restq_36
          case hyq_36 => (intro W9 hSw; (try dsimp only at hSw); go_simp; try (with_reducible rfl))
          (try simp only [Act.put, List.setIfInBounds_toArray, List.set_cons_zero, List.set_cons_succ])
          refine wpAnyH_ready (rs := [16]) (by kernel_rfl) (by simp) ?_
          refine AllReadyH.cons rfl (fun K hK => ?_) AllReadyH.nil
          have hr3 := (HK515.out.r3 _ rfl).2
          have q0 := hr3.cell (j := 0) (by simp)
          have qf0 := hr3.frozen 0
          have q1 := hr3.cell (j := 1) (by simp)
          have qf1 := hr3.frozen 1
          simp only [List.getElem_cons_zero, List.getElem_cons_succ] at q0 q1
          have HE520 := Lib.hid HK515.out.store
          clear hr3
          go_simp
          refine hK.out _ _ (HCL.out _ HE520.out.1) (fun hHeld => ?_)
          clear hK K
          (try simp only [Act.put, List.setIfInBounds_toArray, List.set_cons_zero, List.set_cons_succ])
          refine wpAnyH_done (by kernel_rfl) ?_ _
          go_wp2_with fail
          go_meet
          exact ⟨_, rfl, HE520⟩
    case rest =>
      obtain ⟨g14, rfl, HE⟩ := hcut
      obtain ⟨W1, rfl⟩ : ∃ q, q = wc := ⟨_, rfl⟩
      clear HCL HJ HA1 HA2 HB1 HB2 hA1 hA2 hB1 hB2
      obtain ⟨hbw, A, c, B, d, hc, hr1, hr2, k1, k2, k3, k4, hg⟩ := HE.out
      have x1 := (HQ3.out.below hbw HQ3.out.lt).cell (j := 0) (by simp)
      have x2 := (HQ3.out.below hbw HQ3.out.lt).cell (j := 1) (by simp)
      have y1 := hc.cell (j := 0) (by simp)
      have y2 := hc.cell (j := 1) (by simp)
      simp only [List.getElem_cons_zero, List.getElem_cons_succ] at x1 x2 y1 y2
      have HBE2 := Lib.hid (HBE.out.trans (hbw.mono HBE.out.size))
      have HSM := Lib.hid (same12_any (fun _ => True) (fun _ => True) ⟨E1, e1, s3, E2, e2, f3⟩ ⟨A, c, s1 ++ s2, B, d, f1 ++ f2⟩ W1 (HX3.out.keep (fun g _ _ ht _ => hbw.block g ht.lt) (fun _ _ => trivial))
        ⟨⟨hr1, k1, k2, fun _ _ _ => trivial⟩, ⟨hr2, k3, k4, fun _ _ _ => trivial⟩, fun s q => (List.mem_append.1 q).elim (fun q => (HX1.out.2.2.1 s q).keep (fun g _ ht => hbw.block g ht.lt) (fun _ _ => trivial)) (fun q => (HX2.out.2.2.1 s q).keep (fun g _ ht => hbw.block g ht.lt) (fun _ _ => trivial)),
          fun s q => (List.mem_append.1 q).elim (fun q => (HX1.out.2.2.2 s q).keep (fun g _ ht => hbw.block g ht.lt) (fun g _ ht => hbw.block g ht.lt) (fun g _ ht => hbw.block g ht.lt) (fun _ _ => trivial)) (fun q => (HX2.out.2.2.2 s q).keep (fun g _ ht => hbw.block g ht.lt) (fun g _ ht => hbw.block g ht.lt) (fun g _ ht => hbw.block g ht.lt) (fun _ _ => trivial))⟩
        (by rw [HW.out.1, ← HD1.out, ← HD2.out]; simp [PgM.d, Pg.and]) (by rw [HW.out.1]; exact HW.out.2))
      unfold PgM.cs at HSM
      dsimp only at HSM
      obtain ⟨ns, hns⟩ : ∃ n, (s1 ++ s2).length = n := ⟨_, rfl⟩
      obtain ⟨nf, hnf⟩ : ∃ n, (f1 ++ f2).length = n := ⟨_, rfl⟩
      rw [hns] at y1 HSM
      rw [hnf] at y2 HSM
      clear hns hnf
      clear hc hr1 hr2 k1 k2 k3 k4 hg HX1 HX2 HX3 HQ1 HQ2 HQ3 HW HD1 HD2 HD3 HE hbw
      go_wp2_with fail
      refine HSM.out.mono ?_
      rintro e w8 ⟨rfl, hb8⟩
      have HB8 := Lib.hid (HBE2.out.trans (hb8.mono HBE2.out.size))
      clear hb8 HSM
      go_wp2_with fail
      refine (works_any _).mono ?_
      rintro e w9 ⟨rfl, hb9⟩
      have HB9 := Lib.hid (HB8.out.trans (hb9.mono HB8.out.size))
      clear hb9
      go_wp2_with fail
      go_ret
      exact ⟨rfl, HB9.out⟩
end Go.Proofs.Ytcgohlooelojfaa
