/-
  TokenCuts where both sources have tokens.
-/
import Derived.Test.YtmajhmionghccaaDoorTKU
namespace Go.Proofs.YtmajhmionghccaaDoor
open Go Go.RowKit

theorem scanS_ln (N : Nat) : ∀ (n : Nat) (l : List UInt8) (ts : List Tk), l.length ≤ n → scanS N l = .ok ts → ∀ t ∈ ts, t.ln ≤ N
  | n, [], ts, _, h => by
    rw [scanS_nil] at h
    injection h with h
    subst h
    simp
  | 0, c :: r, _, h, _ => by simp at h
  | n + 1, c :: r, ts, h, hs => by
    rcases ht : tok1 (c :: r) with _ | ⟨kd, s, nu⟩
    · rw [scanS_none _ (by simp) ht] at hs
      cases hs
    · obtain ⟨h1, h2⟩ := tok1_ok ht
      have h3 := scan_rest h1.ne h2
      rw [scanS_some _ ht] at hs
      rcases hq : scanS N (sk false ((c :: r).drop s.length)) with e | us
      · rw [hq] at hs
        cases hs
      · rw [hq] at hs
        injection hs with hs
        subst hs
        intro t hm
        rcases List.mem_cons.1 hm with rfl | hm
        · exact Nat.sub_le _ _
        · exact scanS_ln N n _ us (by omega) hq t hm
theorem scan_ln {l : List UInt8} {ts : List Tk} (h : scanP l = .ok ts) : ∀ t ∈ ts, t.ln ≤ 1 + nl l := scanS_ln _ _ _ ts (Nat.le_refl _) h
theorem tok_lo {w : World} {A : Option Addr} {c : Nat} {xs ys : List Tk} (h : eT.LiesT w A (xs ++ ys)) (hc : (xs ++ ys).length ≤ c) :
    ∃ A', (∀ w', (Instr.slice 25 (.slice A (xs.length + ys.length) c) none (some (.int .i64 xs.length)) none).run Tryd.prog w' = .ok (.slice A' xs.length c) w') ∧ eT.LiesT w A' xs := by
  have hs : (Tryd.prog.info? 35).map (·.size) = some 4 := by kernel_rfl
  rw [List.length_append] at hc
  refine ⟨if c = 0 then A else A.map (·.add 0), fun w' => ?_, ?_⟩
  · have := run_slice_h (P := Tryd.prog) w' 25 A (xs.length + ys.length) c Tryd.underlying25 .i64 (xs.length : Int) (by omega) (by omega)
    rw [this]
    cases hq : Tryd.prog.info? 35 with
    | none => simp [hq] at hs
    | some i0 =>
      simp [sizeOf, typeInfo, Program.elem, Tryd.underlying25, hq, sliced, Result.andThen, go_sem]
  · intro hl
    obtain ⟨g, o, rfl, hg, hcell⟩ := h (by rw [List.length_append]; omega)
    refine ⟨g, o, ?_, hg, fun j hj f u hu => hcell j (by rw [List.length_append]; omega) f u (by rw [List.getElem_append_left hj]; exact hu)⟩
    rw [if_neg (by omega)]
    rfl
theorem tok_hi {w : World} {A : Option Addr} {c : Nat} {xs ys : List Tk} (h : eT.LiesT w A (xs ++ ys)) (hc : (xs ++ ys).length ≤ c) :
    ∃ A' c', (∀ w', (Instr.slice 25 (.slice A (xs.length + ys.length) c) (some (.int .i64 xs.length)) none none).run Tryd.prog w' = .ok (.slice A' ys.length c') w') ∧ eT.LiesT w A' ys := by
  have hs : (Tryd.prog.info? 35).map (·.size) = some 4 := by kernel_rfl
  rw [List.length_append] at hc
  refine ⟨if c = xs.length then A else A.map (·.add (xs.length * 4)), c - xs.length, fun w' => ?_, ?_⟩
  · have := run_slice_l (P := Tryd.prog) w' 25 A (xs.length + ys.length) c Tryd.underlying25 .i64 (xs.length : Int) (by omega) (by omega)
    rw [this]
    cases hq : Tryd.prog.info? 35 with
    | none => simp [hq] at hs
    | some i0 =>
      have h4 : i0.size = 4 := by simpa [hq] using hs
      simp [sizeOf, typeInfo, Program.elem, Tryd.underlying25, hq, h4, sliced, Result.andThen, go_sem]
  · intro hl
    obtain ⟨g, o, rfl, hg, hcell⟩ := h (by rw [List.length_append]; omega)
    refine ⟨g, o + xs.length * 4, ?_, hg, fun j hj f u hu => ?_⟩
    · rw [if_neg (by omega)]
      show some ((⟨g, o, none⟩ : Addr).add (xs.length * 4)) = _
      rw [add_zero_off]
    · have := hcell (xs.length + j) (by rw [List.length_append]; omega) f u (by rw [List.getElem_append_right (by omega)]; simpa using hu)
      rw [show o + xs.length * 4 + (j * eT.sz + f) = o + ((xs.length + j) * eT.sz + f) by show _ = o + ((xs.length + j) * 4 + f); show o + xs.length * 4 + (j * 4 + f) = _; omega]
      exact this
theorem tok_two {w : World} {A A2 : Option Addr} {ts ms : List Tk} {q : Nat} (h : eT.Lies w w.heap.size A (ts ++ ms.map fun t => ({ t with ln := q + t.ln } : Tk))) (h2 : eT.Lies w w.heap.size A2 ms) {k : Nat} (hk : k < ms.length) :
    ∃ g o g' o', A = some ⟨g, o, none⟩ ∧ A2 = some ⟨g', o', none⟩ ∧ (∀ wr, Below w.heap.size w wr → wr.cell? ⟨g, o + (ts.length + k) * 4 + 3, none⟩ = some (.int .i64 ((q + (ms[k]).ln : Nat) : Int))) ∧ (∀ wr, Below w.heap.size w wr → wr.cell? ⟨g', o' + k * 4 + 3, none⟩ = some (.int .i64 ((ms[k]).ln : Int))) := by
  have hk1 : ts.length + k < (ts ++ ms.map fun t => ({ t with ln := q + t.ln } : Tk)).length := by simp; omega
  obtain ⟨g, o, rfl, hg, hc⟩ := h.at_ hk1
  obtain ⟨g', o', rfl, hg', hc'⟩ := h2.at_ hk
  refine ⟨g, o, g', o', rfl, rfl, fun wr hb => ?_, fun wr hb => ?_⟩
  · exact (hb.cell hg).trans (hc 3 _ (by rw [List.getElem_append_right (by omega)]; simp [eT]))
  · exact (hb.cell hg').trans (hc' 3 _ rfl)
set_option maxRecDepth 100000 in
set_option maxHeartbeats 8000000 in
theorem cuts_ok_ok (A B : Option Addr) (c d : Nat) (a b : List UInt8) (w : World) (hA : Lies w w.heap.size A a) (hB : Lies w w.heap.size B b) (hAc : A = none → c = 0) (hBc : B = none → d = 0) (hL : Laid w) (hn : a.length + b.length ≤ 16383) (ts ms : List Tk) (hs : scanP a = .ok ts) (hs2 : scanP b = .ok ms) :
    Calls Tryd.prog 6 #[.slice A a.length c, .slice B b.length d] w (TrueR11 w) := by
  have hni : (a.length : Int) + (b.length : Int) ≤ 16383 := by omega
  have hj : scanP ((a ++ [10]) ++ b) = .ok (ts ++ ms.map fun t => { t with ln := 1 + nl a + t.ln }) := by
    rw [List.append_assoc]
    show scanP (a ++ 10 :: b) = _
    rw [scanP_join, hs, hs2]
    rfl
  have H1 := Lib.hid (scan_ok (c := c) hA hL (by omega) hs)
  have HL := Lib.hid hL
  have HA := Lib.hid hA
  have HB := Lib.hid hB
  have HJ := Lib.hid hj
  have htl : ts.length ≤ 16384 := by have := (scan_all _ _ _ _ (Nat.le_refl _) hs).2.2; have := sk_len false a; omega
  have hml : ms.length ≤ 16384 := by have := (scan_all _ _ _ _ (Nat.le_refl _) hs2).2.2; have := sk_len false b; omega
  have HLN := Lib.hid (fun t (ht : t ∈ ms) => scan_ln hs2 t ht)
  have HS2 := Lib.hid hs2
  clear hj hs hs2 hL hA hB
  go_enter Tryd.func6, Tryd.ntmps6
  go_wp2_with fail
  refine H1.out.mono ?_
  rintro e w1 ⟨hb1, A1, c1, rfl, hc1, hc1n, hT1⟩
  have HB1 := Lib.hid hb1
  have H2 := Lib.hid (scan_ok (c := d) ((HB.out.below hb1).more hb1.size) (HL.out.below hb1) (by omega) HS2.out)
  clear H1 hb1
  go_wp2_with fail
  refine H2.out.mono ?_
  rintro e w2 ⟨hb2, A2, c2, rfl, hc2, hc2n, hT2⟩
  have HT1 := Lib.hid (hT1.below hb2)
  have HT2 := Lib.hid hT2
  have hB2 := HB1.out.trans (hb2.mono HB1.out.size)
  have HB2 := Lib.hid hB2
  have H3 := Lib.hid (copyBytes_any A c a w2 (by omega) ((HA.out.below hB2).more hB2.size))
  clear H2 hb2 hB2 HB1 hT1 hT2
  go_wp2_with fail
  refine H3.out.mono ?_
  rintro e w3 ⟨v3, rfl, ho3, hb3⟩
  have hb4 : Below w3.heap.size w3 (w3.alloc (.cells #[.int .u8 10] 5)) := (Below.refl _ _).alloc (Nat.le_refl _) _
  have HO3 := Lib.hid (ho3.below hb4)
  have hB3 := HB2.out.trans (hb3.mono HB2.out.size)
  have HB3 := Lib.hid (hB3.trans (hb4.mono hB3.size))
  have hz3 := hb3.size
  have HB23 := Lib.hid (hb3.trans (hb4.mono hb3.size))
  have HL10 := Lib.hid (lies_lit w3 5 [10] #[.int .u8 10] rfl)
  obtain ⟨A3, n3, c3, rfl, hn3, hc3, _, _⟩ := ho3.formN
  clear H3 ho3 hb3 hb4 hB3
  have hz2 := HB2.out.size
  go_wp2_with (first
    | (at_builtin
       refine app_slice _ rfl (.tmp 38) (.tmp 39) rfl w2.heap.size _ a rfl HO3.out (some ⟨w3.heap.size, 0, none⟩) 1 _ [10] rfl (fun e => by cases e) HL10.out (by simp; omega) (by simp; omega) ?_
       intro v4 w4 ho4 hg4
       have HO4 := Lib.hid ho4
       have HB24 := Lib.hid (below_grown (v := .slice A3 n3 c3) HB23.out hg4 HO3.out (by simp; omega))
       have HB4 := Lib.hid (below_grown (v := .slice A3 n3 c3) HB3.out hg4 (HO3.out.base (by omega)) HB3.out.size)
       have hz4 : w2.heap.size ≤ w4.heap.size := Nat.le_trans (by simp; omega) hg4.size
       clear ho4 hg4)
    | (at_builtin
       refine app_slice _ rfl (.tmp 40) (.tmp 41) rfl w2.heap.size _ (a ++ [10]) rfl HO4.out B d _ b rfl hBc (HB.out.below HB4.out) (by simp; omega) hz4 ?_
       intro v5 w5 ho5 hg5
       have HO5 := Lib.hid ho5
       have HB25 := Lib.hid (below_grown HB24.out hg5 HO4.out hz4)
       have HB5 := Lib.hid (below_grown HB4.out hg5 (HO4.out.base (by omega)) HB4.out.size)
       obtain ⟨A5, n5, c5, rfl, hn5, hc5, hc5n, hl5⟩ := ho5.formN
       have HL5 := Lib.hid hl5
       clear ho5 hg5 hl5))
  have H6 := Lib.hid (scan_ok (c := c5) HL5.out (HL.out.below HB5.out) (by simp; omega) HJ.out)
  rw [hn5.out] at H6
  have hlen : (ts ++ ms.map fun t => ({ t with ln := 1 + nl a + t.ln } : Tk)).length = ts.length + ms.length := by simp
  refine H6.out.mono ?_
  rintro e w6 ⟨hb6, A6, c6, rfl, hc6, hc6n, hT6⟩
  rw [hlen] at hc6 ⊢
  have hB25 := HB25.out
  have HT16 := Lib.hid ((HT1.out.below hB25).below (hb6.mono (Nat.le_refl _)))
  have HT26 := Lib.hid ((HT2.out.below hB25).below (hb6.mono (Nat.le_refl _)))
  have HT6 := Lib.hid hT6
  have HB6 := Lib.hid (HB5.out.trans (hb6.mono HB5.out.size))
  clear H6 hb6 hT6 hB25 HL5 HO5 HJ HT1 HT2 hlen
  go_wp2_with fail
  have hA6 := HA.out.below HB6.out
  have hal : a.length ≤ 16384 := by omega
  go_loop [14, 15] (fun ln i => ∃ j : Nat, j ≤ a.length ∧ i = .int .i64 j ∧ ln = .int .i64 ((1 + nl (a.take j) : Nat) : Int)) (fun _ i => a.length - (intOf i).toNat)
  case atStart => exact ⟨0, by omega, rfl, rfl⟩
  case round =>
    obtain ⟨j, hj, rfl, rfl⟩ := hrel
    have hq := nl_take_le a j
    by_cases hlt : j < a.length
    · obtain ⟨g, o, rfl, hg, hcell⟩ := hA6.at_ hlt
      have hst := Lib.hid (nl_take hlt)
      generalize nl (a.take j) = q at *
      by_cases hx : a[j] = 10
      · have hs1 := Lib.hid (show nl (a.take (j + 1)) = q + 1 by rw [hst.out, if_pos hx])
        rw [hx] at hcell
        replace hcell : w6.cell? ⟨g, o + j, none⟩ = some (.int .u8 10) := hcell
        clear hx hst
        go_wp2_with fail
        go_round
        case rel => exact ⟨j + 1, by omega, by go_num, by rw [hs1.out]; go_num⟩
        case measure => simp [intOf]; omega
      · have hs1 := Lib.hid (show nl (a.take (j + 1)) = q by rw [hst.out, if_neg hx]; rfl)
        have hx2 : ¬ ((a[j]).toNat : Int) = 10 := fun e => hx (UInt8.toNat_inj.1 (show (a[j]).toNat = 10 by omega))
        clear hx hst
        generalize ((a[j]).toNat : Int) = X at *
        go_wp2_with fail
        go_round
        case rel => exact ⟨j + 1, by omega, by go_num, by rw [hs1.out]⟩
        case measure => simp [intOf]; omega
    · obtain rfl : j = a.length := by omega
      rw [List.take_length]
      rw [List.take_length] at hq
      clear hlt
      obtain ⟨A7, hlo, hT7⟩ := tok_lo HT6.out (by rw [List.length_append, List.length_map]; exact hc6)
      obtain ⟨A8, c8, hhi, hT8⟩ := tok_hi HT6.out (by rw [List.length_append, List.length_map]; exact hc6)
      rw [List.length_map] at hlo hhi
      have HS := Lib.hid (same11_any A7 A1 c6 c1 ts w6 (by omega) hT7.lies HT16.out.lies)
      have HKN := Lib.hid (fun w7 (hb : Below w6.heap.size w6 w7) => kinds11_any A8 A2 c8 c2 (ms.map fun t => ({ t with ln := 1 + nl a + t.ln } : Tk)) ms w7 (by rw [List.length_map]; omega) (by rw [List.map_map]; rfl) (hT8.below hb).lies (HT26.out.below hb).lies)
      have HL6 := Lib.hid (fun k (hk : k < ms.length) => tok_two HT6.out.lies HT26.out.lies hk)
      rw [List.length_map] at HKN
      clear hT7 hT8 HT6 HT16 HT26
      have hq2 := nl_le a
      generalize nl a = q at *
      go_wp2_with fail
      refine HS.out.mono ?_
      rintro e w7 ⟨rfl, hb7⟩
      have HB7 := Lib.hid hb7
      have HK := Lib.hid (HKN.out w7 hb7)
      clear HS HKN hb7
      go_wp2_with fail
      refine HK.out.mono ?_
      rintro e w8 ⟨rfl, hb8⟩
      have HB8 := Lib.hid (HB7.out.trans (hb8.mono HB7.out.size))
      clear HK HB7 hb8
      go_wp2_with fail
      go_loopw [16] (fun i wr => ∃ k : Nat, k ≤ ms.length ∧ i = .int .i64 k ∧ Hid (Below w6.heap.size w6 wr)) (fun i _ => ms.length - (intOf i).toNat)
      case atStart => exact ⟨0, by omega, rfl, HB8.out⟩
      case round =>
        obtain ⟨k, hk, rfl, hBr⟩ := hrel
        by_cases hlt : k < ms.length
        · obtain ⟨g, o, g', o', rfl, rfl, hc, hc'⟩ := HL6.out k hlt
          have hcr := hc wr hBr.out
          have hcr' := hc' wr hBr.out
          have hlk := HLN.out _ (List.getElem_mem hlt)
          have hlb := nl_le b
          have hlk2 : (ms[k]).ln ≤ 20000 := by omega
          clear hlk hlb
          have hqi : (q : Int) ≤ 20000 := by omega
          clear hc hc'
          generalize (ms[k]).ln = L at *
          have hLi : (L : Int) ≤ 20000 := by omega
          clear HL6 HLN
          go_wp2
          go_region
          go_wp2
          go_roundw
          case rel => exact ⟨k + 1, by omega, by go_num, hBr.out.drew⟩
          case measure => simp [intOf]; omega
        · obtain rfl : k = ms.length := by omega
          have HW := Lib.hid (works_any wr (HL.out.below (HB6.out.trans (hBr.out.mono HB6.out.size))))
          have HBR := Lib.hid (HB6.out.trans (hBr.out.mono HB6.out.size))
          go_wp2_with fail
          refine HW.out.mono ?_
          rintro e w9 ⟨rfl, hb9⟩
          have HB9 := Lib.hid (HBR.out.trans (hb9.mono HBR.out.size))
          clear HW hb9
          go_wp2_with fail
          go_ret
          exact ⟨rfl, HB9.out⟩
end Go.Proofs.YtmajhmionghccaaDoor
