/-
  TokenCuts where the first source has tokens and the second one none.
-/
import Derived.Test.YtmajhmionghccaaDoorTKT
namespace Go.Proofs.YtmajhmionghccaaDoor
open Go Go.RowKit

theorem nl_take {a : List UInt8} {j : Nat} (h : j < a.length) : nl (a.take (j + 1)) = nl (a.take j) + if a[j] = 10 then 1 else 0 := by
  rw [List.take_add_one, List.getElem?_eq_getElem h, nl_append]
  simp only [Option.toList]
  rw [nl_cons, nl_nil, Nat.zero_add]
theorem nl_take_le (a : List UInt8) (j : Nat) : nl (a.take j) ≤ a.length := Nat.le_trans (nl_le _) (by rw [List.length_take]; omega)
theorem scanS_err_le (N : Nat) : ∀ (n : Nat) (l : List UInt8) (k : Nat), l.length ≤ n → scanS N l = .error k → k ≤ N
  | n, [], k, _, h => by rw [scanS_nil] at h; cases h
  | 0, c :: r, _, h, _ => by simp at h
  | n + 1, c :: r, k, h, hs => by
    rcases ht : tok1 (c :: r) with _ | ⟨kd, s, nu⟩
    · rw [scanS_none _ (by simp) ht] at hs
      injection hs with hs
      omega
    · obtain ⟨h1, h2⟩ := tok1_ok ht
      have h3 := scan_rest h1.ne h2
      rw [scanS_some _ ht] at hs
      rcases hq : scanS N (sk false ((c :: r).drop s.length)) with e | us
      · rw [hq] at hs
        injection hs with hs
        subst hs
        exact scanS_err_le N n _ e (by omega) hq
      · rw [hq] at hs
        cases hs
theorem scan_err_le {l : List UInt8} {k : Nat} (h : scanP l = .error k) : k ≤ 1 + nl l := scanS_err_le _ _ _ k (Nat.le_refl _) h
set_option maxRecDepth 100000 in
set_option maxHeartbeats 8000000 in
theorem cuts_ok_err (A B : Option Addr) (c d : Nat) (a b : List UInt8) (w : World) (hA : Lies w w.heap.size A a) (hB : Lies w w.heap.size B b) (hAc : A = none → c = 0) (hBc : B = none → d = 0) (hL : Laid w) (hn : a.length + b.length ≤ 16383) (ts : List Tk) (hs : scanP a = .ok ts) (k : Nat) (hs2 : scanP b = .error k) :
    Calls Tryd.prog 6 #[.slice A a.length c, .slice B b.length d] w (TrueR11 w) := by
  have hni : (a.length : Int) + (b.length : Int) ≤ 16383 := by omega
  have hj : scanP ((a ++ [10]) ++ b) = .error (1 + nl a + k) := by
    rw [List.append_assoc]
    show scanP (a ++ 10 :: b) = _
    rw [scanP_join, hs, hs2]
    rfl
  have H1 := Lib.hid (scan_ok (c := c) hA hL (by omega) hs)
  have HL := Lib.hid hL
  have HA := Lib.hid hA
  have HB := Lib.hid hB
  have HJ := Lib.hid hj
  have HKB : Hid (k ≤ 20000) := by have := scan_err_le hs2; have := nl_le b; exact (by omega : k ≤ 20000)
  have HS2 := Lib.hid hs2
  clear hj hs hs2 hL hA hB
  go_enter Tryd.func6, Tryd.ntmps6
  go_wp2_with fail
  refine H1.out.mono ?_
  rintro e w1 ⟨hb1, A1, c1, rfl, hc1, hc1n, hT1⟩
  have HB1 := Lib.hid hb1
  have H2 := Lib.hid (scan_err (c := d) ((HB.out.below hb1).more hb1.size) (HL.out.below hb1) (by omega) HS2.out)
  clear H1 hb1
  go_wp2_with fail
  refine H2.out.mono ?_
  rintro e w2 ⟨rfl, hb2⟩
  have hB2 := HB1.out.trans (hb2.mono HB1.out.size)
  have HB2 := Lib.hid hB2
  have H3 := Lib.hid (copyBytes_any A c a w2 (by omega) ((HA.out.below hB2).more hB2.size))
  clear H2 hb2 hB2 HB1
  go_wp2_with fail
  refine H3.out.mono ?_
  rintro e w3 ⟨v3, rfl, ho3, hb3⟩
  have hb4 : Below w3.heap.size w3 (w3.alloc (.cells #[.int .u8 10] 5)) := (Below.refl _ _).alloc (Nat.le_refl _) _
  have HO3 := Lib.hid (ho3.below hb4)
  have hB3 := HB2.out.trans (hb3.mono HB2.out.size)
  have HB3 := Lib.hid (hB3.trans (hb4.mono hB3.size))
  have hz3 := hb3.size
  have HL10 := Lib.hid (lies_lit w3 5 [10] #[.int .u8 10] rfl)
  obtain ⟨A3, n3, c3, rfl, hn3, hc3, _, _⟩ := ho3.formN
  clear H3 ho3 hb3 hb4 hB3
  have hz2 := HB2.out.size
  go_wp2_with (first
    | (at_builtin
       refine app_slice _ rfl (.tmp 38) (.tmp 39) rfl w2.heap.size _ a rfl HO3.out (some ⟨w3.heap.size, 0, none⟩) 1 _ [10] rfl (fun e => by cases e) HL10.out (by simp; omega) (by simp; omega) ?_
       intro v4 w4 ho4 hg4
       have HO4 := Lib.hid ho4
       have HB4 := Lib.hid (below_grown (v := .slice A3 n3 c3) HB3.out hg4 (HO3.out.base (by omega)) HB3.out.size)
       have hz4 : w2.heap.size ≤ w4.heap.size := Nat.le_trans (by simp; omega) hg4.size
       clear ho4 hg4)
    | (at_builtin
       refine app_slice _ rfl (.tmp 40) (.tmp 41) rfl w2.heap.size _ (a ++ [10]) rfl HO4.out B d _ b rfl hBc (HB.out.below HB4.out) (by simp; omega) hz4 ?_
       intro v5 w5 ho5 hg5
       have HO5 := Lib.hid ho5
       have HB5 := Lib.hid (below_grown HB4.out hg5 (HO4.out.base (by omega)) HB4.out.size)
       obtain ⟨A5, n5, c5, rfl, hn5, hc5, hc5n, hl5⟩ := ho5.formN
       have HL5 := Lib.hid hl5
       clear ho5 hg5 hl5))
  have H6 := Lib.hid (scan_err (c := c5) HL5.out (HL.out.below HB5.out) (by simp; omega) HJ.out)
  rw [hn5.out] at H6
  refine H6.out.mono ?_
  rintro e w6 ⟨rfl, hb6⟩
  have HB6 := Lib.hid (HB5.out.trans (hb6.mono HB5.out.size))
  clear H6 hb6 HL5 HO5 HJ
  go_wp2_with fail
  have hA6 := HA.out.below HB6.out
  have hal : a.length ≤ 16384 := by omega
  go_loop [14, 15] (fun ln i => ∃ j : Nat, j ≤ a.length ∧ i = .int .i64 j ∧ ln = .int .i64 ((1 + nl (a.take j) : Nat) : Int)) (fun _ i => a.length - (intOf i).toNat)
  case atStart => exact ⟨0, by omega, rfl, rfl⟩
  case round =>
    obtain ⟨j, hj, rfl, rfl⟩ := hrel
    have hq := nl_take_le a j
    by_cases hlt : j < a.length
    · obtain ⟨g, o, rfl, hg, hcell⟩ := hA6.at_ hlt
      have hst := Lib.hid (nl_take hlt)
      generalize nl (a.take j) = q at *
      by_cases hx : a[j] = 10
      · have hs1 := Lib.hid (show nl (a.take (j + 1)) = q + 1 by rw [hst.out, if_pos hx])
        rw [hx] at hcell
        replace hcell : w6.cell? ⟨g, o + j, none⟩ = some (.int .u8 10) := hcell
        clear hx hst
        go_wp2_with fail
        go_round
        case rel => exact ⟨j + 1, by omega, by go_num, by rw [hs1.out]; go_num⟩
        case measure => simp [intOf]; omega
      · have hs1 := Lib.hid (show nl (a.take (j + 1)) = q by rw [hst.out, if_neg hx]; rfl)
        have hx2 : ¬ ((a[j]).toNat : Int) = 10 := fun e => hx (UInt8.toNat_inj.1 (show (a[j]).toNat = 10 by omega))
        clear hx hst
        generalize ((a[j]).toNat : Int) = X at *
        go_wp2_with fail
        go_round
        case rel => exact ⟨j + 1, by omega, by go_num, by rw [hs1.out]⟩
        case measure => simp [intOf]; omega
    · obtain rfl : j = a.length := by omega
      rw [List.take_length]
      rw [List.take_length] at hq
      clear hlt
      have HW := Lib.hid (works_any w6 (HL.out.below HB6.out))
      have hkk := HKB.out
      generalize nl a = q at *
      go_wp2_with fail
      refine HW.out.mono ?_
      rintro e w7 ⟨rfl, hb7⟩
      have HB7 := Lib.hid (HB6.out.trans (hb7.mono HB6.out.size))
      clear HW hb7
      go_wp2_with fail
      go_ret
      exact ⟨rfl, HB7.out⟩
end Go.Proofs.YtmajhmionghccaaDoor
