/-
  Merged for a claim: I3K, S6I, KS.
-/
import Derived.Test.YtbkfkdiadeaooaaGreatHJ0
import Derived.LoopN
import Derived.Test.YtbkfkdiadeaooaaGreatHS6H
import Derived.Test.YtbkfkdiadeaooaaGreatHJ5
namespace Go.Proofs.YtbkfkdiadeaooaaGreat
open Go.RowKit

set_option maxRecDepth 10000 in
theorem run_app_zeros (w : World) (n : Nat) (h0 : 0 < n) (hn : n ≤ 70368744177664) (ty : TypeId) :
    ∃ c w', n ≤ c ∧ c ≤ maxLen ∧ Blk w' w.heap.size (List.replicate c 0) ∧ Below w.heap.size w w' ∧
      (Builtin.append_ #[22, 3] ty #[.slice none 0 0, .int .i64 n]).run Tryz.prog w = .ok (.slice (some ⟨w.heap.size, 0, none⟩) n c) w' := by
  obtain ⟨i0, hi0, hz0, hz1, hz2⟩ := info_parts u8_info
  have hge := grownCap_ge w n 0 5
  have hcm : grownCap w n 0 5 ≤ maxLen := grownCap_le_maxLen w n 0 5 (by simp only [maxLen]; omega)
  refine ⟨grownCap w n 0 5, w.drew.alloc (.cells (Builtin.zeroCells (Value.int .u8 0).cells n ++ Builtin.zeroCells (Value.int .u8 0).cells (grownCap w n 0 5 - n)) 5), hge, hcm, ?_, ?_, ?_⟩
  · refine blk_lit w.drew (List.replicate (grownCap w n 0 5) 0) _ ?_
    have hc : (Value.int .u8 0).cells = #[(Value.int .u8 0)] := rfl
    rw [hc, Array.toList_append, zero_b8, zero_b8, ← List.map_append, List.replicate_append_replicate]
    congr 2
    omega
  · exact (below_draws 1).alloc (Nat.le_refl _) _
  · have hw : IntKind.i64.wrap (n : Int) = n := by rw [IntKind.wrap_i64]; omega
    have h1 : ¬ ((n : Int) < 0) := by omega
    have h2 : ¬ (281474976710656 < (n : Int) * i0.bytes) := by rw [hz2]; omega
    have h3 : ¬ (n = 0) := by omega
    have h4 : ¬ (9223372036854775807 < (n : Int)) := by omega
    have h5 : ¬ (281474976710656 < Builtin.nextslicecap n 0 * i0.bytes) := by rw [nextslicecap_zero h0, hz2]; omega
    have h6 : n ≠ 0 := h3
    have ha : ∀ w : World, (asIntOf (.int .i64 (n : Int))).run Tryz.prog w = .ok (IntKind.i64, (n : Int)) w := fun _ => rfl
    simp [Builtin.append_, run_underlying Tryz.underlying22, run_underlying Tryz.underlying3, sizeOf, typeInfo, zeroValue, hi0, hz0, hz1, Builtin.lenOf, Builtin.firstCells, hw, h1, h2, h3, h4, h5, asInt, ha, Question.forced, newRow, grownCap]

section
variable {ops : Array Oper} {rest : List Oper} {o : Oper} {a : Act} {Q : Exit → Act → World → Prop}
/-- append of noughts onto nothing -/
theorem app_zeros (w : World) (hgd : o.guard = none) (s x : Operand) (ho : o.op = .call { callee := .builtin .append, args := #[s, x], argTypes := #[22, 3] })
    (hs : a.eval s = .slice none 0 0) (n : Nat) (hx : a.eval x = .int .i64 n) (h0 : 0 < n) (hn : n ≤ 70368744177664)
    (h : ∀ c w', n ≤ c → c ≤ maxLen → Blk w' w.heap.size (List.replicate c 0) → Below w.heap.size w w' → wpList Tryz.prog ops Q rest (a.put o.dst (.slice (some ⟨w.heap.size, 0, none⟩) n c)) w') : wpList Tryz.prog ops Q (o :: rest) a w := by
  refine wpList_plain hgd fun K hK' => ?_
  obtain ⟨c, w', h1, h2, h3, h4, hr⟩ := run_app_zeros w n h0 hn o.type
  unfold Oper.wp execOp
  simp only [ho, resolve, invoke, builtin, Sem.run_bind, Sem.run_pure, Result.andThen_ok, List.map_toArray, List.map_cons, List.map_nil, hs, hx, hr]
  exact hK' _ _ (h c w' h1 h2 h3 h4)
end

set_option maxRecDepth 100000 in
set_option maxHeartbeats 400000 in
theorem grow_any (n : Nat) (w : World) (hn : n ≤ 70368744177664) : Calls Tryz.prog 54 #[.slice none 0 0, .int .i64 n] w (Made w []) := by
  by_cases h0 : 0 < n
  · go_enter Tryz.func54, Tryz.ntmps54
    go_wp2_with (at_builtin; refine app_zeros _ rfl (.tmp 20) (.tmp 21) rfl rfl n rfl h0 hn ?_; intro c w1 h1 h2 h3 h4)
    go_ret
    have ho := Own.of h3 (Nat.le_refl _) 0 (Nat.zero_le _) (by simpa using h2)
    exact ⟨_, rfl, by simpa using ho, h4⟩
  · obtain rfl : n = 0 := by omega
    go_enter Tryz.func54, Tryz.ntmps54
    go_wp2
    go_ret
    exact ⟨_, rfl, Own.nil _ _, Below.refl _ _⟩

set_option maxRecDepth 100000 in
set_option maxHeartbeats 400000 in
theorem concat_any (g : Nat) (A A2 : Option Addr) (c c2 : Nat) (l l2 : List UInt8) (w : World) (hg : w.heap[g]? = some (.cells #[.slice A l.length c, .slice A2 l2.length c2] 22 (0, 0)))
    (hc : A = none → c = 0) (hc2 : A2 = none → c2 = 0) (h : Lies w w.heap.size A l) (h2 : Lies w w.heap.size A2 l2) (hn : l.length ≤ 1099511627776) (hn2 : l2.length ≤ 1099511627776) :
    Calls Tryz.prog 31 #[.slice (some ⟨g, 0, none⟩) 2 2] w (Made w (l ++ l2)) := by
  have hlt : g < w.heap.size := by
    rcases Nat.lt_or_ge g w.heap.size with h' | h'
    · exact h'
    · rw [Array.getElem?_eq_none h'] at hg; cases hg
  have c0 : w.cell? ⟨g, 0, none⟩ = some (.slice A l.length c) := by simp [World.cell?, hg]
  have c1 : w.cell? ⟨g, 1, none⟩ = some (.slice A2 l2.length c2) := by simp [World.cell?, hg]
  have HG := Lib.hid (fun w => show Calls Tryz.prog 54 #[.slice none 0 0, .int .i64 ((l.length : Int) + (l2.length : Int))] w (Made w []) by
    have := grow_any (l.length + l2.length) w (by omega)
    rwa [Int.natCast_add] at this)
  have HC := Lib.hid (And.intro hc hc2)
  have H1 := Lib.hid h
  have H2 := Lib.hid h2
  have HH := Lib.hid hg
  clear h h2 hc hc2 hg
  go_enter Tryz.func31, Tryz.ntmps31
  go_wp2_with fail
  refine wp_loop_rounds 3 ?_
  rw [rounds_succ]
  go_wp2_with fail
  rw [rounds_succ]
  go_wp2_with fail
  rw [rounds_succ]
  go_wp2_with fail
  refine (HG.out _).mono ?_
  rintro e w1 ⟨v, rfl, ho, hb⟩
  have h1 := (hb.block g hlt).trans HH.out
  have d0 : w1.cell? ⟨g, 0, none⟩ = some (.slice A l.length c) := by simp [World.cell?, h1]
  have HB1 := Lib.hid hb
  have HH1 := Lib.hid h1
  have hz1 := hb.size
  clear c0 c1 HH HG h1 hb
  go_wp2_with fail
  refine wp_loop_rounds 3 ?_
  rw [rounds_succ]
  go_wp2_with (at_builtin; refine app_slice _ rfl (.tmp 31) (.tmp 32) rfl w.heap.size v [] rfl ho A c w.heap.size l rfl HC.out.1 (H1.out.below HB1.out) (by simp; omega) (by omega) ?_; intro v2 w2 ho2 hg2)
  have hb2 := below_grown HB1.out hg2 ho hz1
  have h2 := (hg2.block g (by omega) (fun e => by have := (ho.lt g e.symm).1; omega)).trans HH1.out
  have d1 : w2.cell? ⟨g, 1, none⟩ = some (.slice A2 l2.length c2) := by simp [World.cell?, h2]
  have hz2 := hb2.size
  have HB2 := Lib.hid hb2
  clear hg2 ho d0 h2 hb2 HB1 HH1
  rw [rounds_succ]
  go_wp2_with (at_builtin; refine app_slice _ rfl (.tmp 31) (.tmp 32) rfl w.heap.size v2 ([] ++ l) rfl ho2 A2 c2 w.heap.size l2 rfl HC.out.2 (H2.out.below HB2.out) (by simp; omega) (by omega) ?_; intro v3 w3 ho3 hg3)
  have HB3 := Lib.hid (below_grown HB2.out hg3 ho2 hz2)
  clear hg3 ho2 d1 HB2
  rw [rounds_succ]
  go_wp2_with fail
  go_ret
  exact ⟨v3, rfl, by simpa using ho3, HB3.out⟩

end Go.Proofs.YtbkfkdiadeaooaaGreat

namespace Go.Proofs.YtbkfkdiadeaooaaGreat
open Go Go.RowKit

def ptE (l : List Lc) : Int := if rightC l = true then 0 else 1
def ptB (b : List UInt8) (l : List Lc) : List UInt8 := if rightC l = true then b ++ ownC l else []
theorem pt_yes {b : List UInt8} {l : List Lc} (h : rightC l = true) : ptE l = 0 ∧ ptB b l = b ++ ownC l := ⟨if_pos h, if_pos h⟩
theorem pt_no {b : List UInt8} {l : List Lc} (h : rightC l = false) : ptE l = 1 ∧ ptB b l = [] := ⟨if_neg (by rw [h]; decide), if_neg (by rw [h]; decide)⟩
def PutR6 (b : List UInt8) (l : List Lc) (w : World) (e : Ending) (w' : World) : Prop :=
  ∃ v, e = .returned (.tuple #[v, .int .i64 (ptE l)]) ∧ Own w' w.heap.size v (ptB b l) ∧ Below w.heap.size w w'
/-- the bytes of the first steps -/
def ownT (l : List Lc) (j : Nat) : List UInt8 := nB false l.length ++ (l.take j).flatMap encL
theorem ownT_zero (l : List Lc) : ownT l 0 = nB false l.length := by simp [ownT]
theorem ownT_all (l : List Lc) : ownT l l.length = ownC l := by simp [ownT, ownC]
theorem ownT_succ {l : List Lc} {j : Nat} (h : j < l.length) : ownT l (j + 1) = ownT l j ++ encL l[j] := by
  unfold ownT
  rw [List.append_assoc, ← List.take_append_getElem h, List.flatMap_append]
  simp
theorem ownT_len (l : List Lc) (j : Nat) : (ownT l j).length ≤ 10 + 11 * l.length := by
  have h2 := size_le false l.length
  have h3 := flat_len (l.take j)
  have h4 : (l.take j).length ≤ l.length := by simp; omega
  unfold ownT
  rw [List.length_append, nB_len]
  omega
theorem encL_yes {x : Lc} (h : nmb x.k = true) : encL x = [UInt8.ofNat x.k.toNat] ++ nB true x.n := by unfold encL; rw [if_pos h]; rfl
theorem encL_no {x : Lc} (h : nmb x.k = false) : encL x = [UInt8.ofNat x.k.toNat] := by unfold encL; rw [if_neg (by rw [h]; decide)]
theorem putS_n (A : Option Addr) (n c : Nat) (l : List UInt8) (x : Int) (w : World) (hl : l.length = n) (hc : A = none → c = 0) (h : Lies w w.heap.size A l) (hn : l.length ≤ 1099511627776) (h0 : -9223372036854775808 ≤ x) (h1 : x < 9223372036854775808) :
    Calls Tryz.prog 101 #[.slice A n c, .int .i64 x] w (Made w (l ++ nB true x)) := by subst hl; exact (putS_any A c l x w hc h hn h0 h1).mono fun _ _ => MadeC.made
theorem putU_0 (x : Int) (w : World) (h0 : 0 ≤ x) (h1 : x < 18446744073709551616) :
    Calls Tryz.prog 50 #[.slice none 0 0, .int .u64 x] w (Made w (nB false x)) := (putU_any none 0 [] x w (fun _ => rfl) (Lies.empty _ _ _) (by simp) h0 h1).mono fun _ _ => MadeC.made

theorem concat_n (g : Nat) (A A2 : Option Addr) (c c2 n2 : Nat) (l l2 : List UInt8) (w : World) (hl : l2.length = n2) (hg : w.heap[g]? = some (.cells #[.slice A l.length c, .slice A2 n2 c2] 22 (0, 0)))
    (hc : A = none → c = 0) (hc2 : A2 = none → c2 = 0) (h : Lies w w.heap.size A l) (h2 : Lies w w.heap.size A2 l2) (hn : l.length ≤ 1099511627776) (hn2 : l2.length ≤ 1099511627776) :
    Calls Tryz.prog 31 #[.slice (some ⟨g, 0, none⟩) 2 2] w (Made w (l ++ l2)) := by subst hl; exact concat_any g A A2 c c2 l l2 w hg hc hc2 h h2 hn hn2

set_option maxRecDepth 100000 in
set_option maxHeartbeats 4000000 in
theorem put6_any (A B : Option Addr) (c d : Nat) (b : List UInt8) (l : List Lc) (w : World) (hc : B = none → d = 0) (hn : l.length ≤ 1099511627776) (hbn : b.length ≤ 1099511627776) (hr : ∀ x ∈ l, x.Rng) (hb : Lies w w.heap.size B b) (h : LLies w w.heap.size A l) :
    Calls Tryz.prog 84 #[.slice B b.length d, .slice A l.length c] w (PutR6 b l w) := by
  have HS := Lib.hid (steps_any A c l w hn h)
  unfold StepsR at HS
  by_cases hrt : rightC l = true
  · rw [hrt] at HS
    obtain ⟨e1, e2⟩ := pt_yes (b := b) hrt
    have HE := Lib.hid (And.intro e1 e2)
    have hlen := right_len hrt
    have HM := Lib.hid (right_mem hrt)
    have HR := Lib.hid hr
    have HC := Lib.hid hc
    have HBL := Lib.hid hb
    clear hrt e1 e2 hr hc hb
    go_enter Tryz.func84, Tryz.ntmps84
    go_wp2_with fail
    refine HS.out.mono ?_
    rintro e w1 ⟨v, rfl, hb1, hv⟩
    have HB1 := Lib.hid hb1
    have hv1 := hv (by first | rfl | trivial)
    obtain ⟨A2, c2, rfl, hc2, hL2⟩ := hv1.form
    have HL2 := Lib.hid hL2
    have HS2 := Lib.hid (h.next hb1)
    clear hb1 hv hv1 hL2 HS h
    go_wp2_with fail
    refine (putU_0 l.length w1 (by omega) (by omega)).mono ?_
    rintro e w2 ⟨v2, rfl, ho2, hb2⟩
    rw [← ownT_zero l] at ho2
    have HO2 := Lib.hid ho2
    have HB2 := Lib.hid hb2
    clear ho2 hb2
    go_wp2_with fail
    go_loopw [8, 24] (fun v i wr => ∃ (j : Nat), j ≤ l.length ∧ i = .int .i64 j ∧ Hid (Own wr w1.heap.size v (ownT l j)) ∧ Hid (Below w1.heap.size w1 wr)) (fun _ i _ => l.length - (intOf i).toNat)
    case atStart => exact ⟨0, by omega, rfl, HO2, HB2⟩
    case round =>
      obtain ⟨j, hj, rfl, hO, hB⟩ := hrel
      by_cases hlt : j < l.length
      · obtain ⟨g, o, rfl, hg, c1, c2⟩ := (HS2.out.below hB.out).at_ hlt
        obtain ⟨g', o', rfl, hg', c3⟩ := (HL2.out.below hB.out).at_ (j := j) (by simpa using hlt)
        rw [List.getElem_map] at c3
        have hmem := List.getElem_mem hlt
        have hrx := HR.out _ hmem
        obtain ⟨hi, _⟩ := HM.out _ hmem
        have HT := Lib.hid (ownT_succ hlt)
        have htl := ownT_len l j
        have HD := Lib.hid (fun w' (hb : Below w1.heap.size w1 w') => (HS2.out.below hb).at_ hlt)
        clear hmem
        generalize l[j] = x at *
        obtain ⟨fF, fN, fT, hsv, hst⟩ := stp_of x hi
        obtain ⟨mF, mL, mN, mT, nA, eF, eL, eN, eT, cF, cN, cT⟩ := hst
        have CN := Lib.hid cN
        rw [hsv] at c3
        obtain ⟨⟨k0, k1⟩, n0, n1⟩ := hrx
        have HBy := Lib.hid (byte_u8 wr x.k k0 k1)
        have hb3 := below_lnew wr (.cells #[.int .u8 x.k] 5)
        have HB3 := Lib.hid (hB.out.trans (hb3.mono hB.out.size))
        have HO3 := Lib.hid (hO.out.below hb3)
        have hz3 := HB3.out.size
        have hzw := hB.out.size
        clear mF mL mT nA eF eL eT cF cN cT hsv hi hb3 hO hB
        generalize tyL x.k = T at *
        by_cases hnm : nmb x.k = true
        · rw [hnm] at CN
          rw [encL_yes hnm, ← List.append_assoc] at HT
          clear hnm
          go_wp2_with (at_builtin
                       refine app_slice _ rfl (.tmp 29) (.tmp 35) rfl w1.heap.size _ (ownT l j) rfl HO3.out _ 1 _ [UInt8.ofNat x.k.toNat] rfl (fun e => by cases e) HBy.out (by simp; omega) hz3 ?_
                       intro v5 w5 ho5 hg5
                       have HB5 := Lib.hid (below_grown HB3.out hg5 HO3.out hz3)
                       have d2 : w5.cell? ⟨g, o + j * 2 + 1, none⟩ = some (.int .i64 x.n) := by
                         obtain ⟨g2, o2, e2, _, _, q2⟩ := HD.out _ HB5.out
                         cases e2
                         exact q2
                       have HO5 := Lib.hid ho5
                       clear hg5 ho5 c1 c2 c3)
          refine (CN.out _).mono ?_
          rintro e w6 ⟨rfl, rfl⟩
          obtain ⟨A6, n6, c6, rfl, hn6, _, ha6, hl6⟩ := HO5.out.formN
          have HP6 := Lib.hid (putS_n A6 n6 c6 _ x.n w5 hn6.out ha6 hl6 (by simp; omega) n0 n1)
          have hz5 := HB5.out.size
          clear ha6 hl6
          go_wp2_with fail
          refine HP6.out.mono ?_
          rintro e w7 ⟨v7, rfl, ho7, hb7⟩
          have HO7 := Lib.hid (ho7.base hz5)
          have HB7 := Lib.hid (HB5.out.trans (hb7.mono hz5))
          rw [← HT.out] at HO7
          clear ho7 hb7
          go_wp2_with fail
          go_roundw
          case rel => exact ⟨j + 1, by omega, by go_num, HO7, HB7⟩
          case measure => simp [intOf]; omega
        · have hnm' : nmb x.k = false := by simpa using hnm
          rw [hnm'] at CN
          rw [encL_no hnm'] at HT
          clear hnm hnm'
          go_wp2_with (at_builtin
                       refine app_slice _ rfl (.tmp 29) (.tmp 35) rfl w1.heap.size _ (ownT l j) rfl HO3.out _ 1 _ [UInt8.ofNat x.k.toNat] rfl (fun e => by cases e) HBy.out (by simp; omega) hz3 ?_
                       intro v5 w5 ho5 hg5
                       have HB5 := Lib.hid (below_grown HB3.out hg5 HO3.out hz3)
                       have HO5 := Lib.hid ho5
                       clear hg5 ho5 c1 c2 c3)
          refine (CN.out _).mono ?_
          rintro e w6 ⟨rfl, rfl⟩
          rw [← HT.out] at HO5
          go_wp2_with fail
          go_roundw
          case rel => exact ⟨j + 1, by omega, by go_num, HO5, HB5⟩
          case measure => simp [intOf]; omega
      · obtain rfl : j = l.length := by omega
        have HO3 := Lib.hid hO.out
        rw [ownT_all] at HO3
        have hl3 := (ownC_len l).2
        obtain ⟨A3, n3, c3, rfl, hn3, _, ha3, hl3'⟩ := HO3.out.formN
        have hb1 := HB1.out.trans (hB.out.mono HB1.out.size)
        have hz := hb1.size
        have hb2 := hb1.alloc hz (.cells #[.slice B b.length d, .slice A3 n3 c3] 22)
        have HK := Lib.hid (concat_n wr.heap.size B A3 d c3 n3 b (ownC l) (wr.alloc (.cells #[.slice B b.length d, .slice A3 n3 c3] 22)) hn3.out (heap_alloc_new _ _) HC.out ha3 ((HBL.out.below hb2).more hb2.size) ((hl3'.alloc (Nat.le_refl _) _).more (by simp)) hbn (by omega))
        have HBB := Lib.hid hb2
        have hz2 := hb2.size
        clear ha3 hl3' hb1 hb2 hO hB HO3
        go_wp2_with fail
        refine HK.out.mono ?_
        rintro e w5 ⟨v5, rfl, ho5, hb5⟩
        have HO5 := Lib.hid ho5
        have HB5 := Lib.hid hb5
        clear ho5 hb5
        go_wp2_with fail
        go_ret2
        exact ⟨v5, by rw [HE.out.1]; rfl, by rw [HE.out.2]; exact HO5.out.base hz2, HBB.out.trans (HB5.out.mono hz2)⟩
  · have hrt' : rightC l = false := by simpa using hrt
    rw [hrt'] at HS
    obtain ⟨e1, e2⟩ := pt_no (b := b) hrt'
    have HE := Lib.hid (And.intro e1 e2)
    clear hrt hrt' e1 e2 hr hc hb h
    go_enter Tryz.func84, Tryz.ntmps84
    go_wp2_with fail
    refine HS.out.mono ?_
    rintro e w1 ⟨v, rfl, hb1, _⟩
    have HB1 := Lib.hid hb1
    clear hb1 HS
    go_wp2_with fail
    go_ret2
    exact ⟨_, by rw [HE.out.1]; rfl, by rw [HE.out.2]; exact Own.nil _ _, HB1.out⟩
end Go.Proofs.YtbkfkdiadeaooaaGreat

namespace Go.Proofs.YtbkfkdiadeaooaaGreat
open Go

section
variable {P : Program} {fn : Func} {p u v : Tmp} {ty : TypeId}
theorem run_loadVar_int {k : IntKind} {t : TypeId} (hu : P.underlying t = some (.int k)) {w : World} {a : Addr} {x : Value} (hc : w.cell? a = some x) : (loadVar t a).run P w = .ok x w := by
  have hagg : (isAgg t).run P w = .ok false w := by
    unfold isAgg
    rw [Sem.run_bind, run_underlying hu w]
    rfl
  simp [loadVar, Sem.run_bind, hagg, run_load, hc]
end

end Go.Proofs.YtbkfkdiadeaooaaGreat
