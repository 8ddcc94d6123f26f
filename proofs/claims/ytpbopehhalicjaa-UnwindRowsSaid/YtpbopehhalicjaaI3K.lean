/-
  Contracts of slices.Grow on nothing and slices.Concat of two.
-/
import Derived.Test.YtpbopehhalicjaaKO
import Derived.LoopN
namespace Go.Proofs.Ytpbopehhalicjaa
open Go.RowKit

set_option maxRecDepth 10000 in
theorem run_app_zeros (w : World) (n : Nat) (h0 : 0 < n) (hn : n ≤ 70368744177664) (ty : TypeId) :
    ∃ c w', n ≤ c ∧ c ≤ maxLen ∧ Blk w' w.heap.size (List.replicate c 0) ∧ Below w.heap.size w w' ∧
      (Builtin.append_ #[22, 3] ty #[.slice none 0 0, .int .i64 n]).run Try.prog w = .ok (.slice (some ⟨w.heap.size, 0, none⟩) n c) w' := by
  obtain ⟨i0, hi0, hz0, hz1, hz2⟩ := info_parts u8_info
  have hge := grownCap_ge w n 0 5
  have hcm : grownCap w n 0 5 ≤ maxLen := grownCap_le_maxLen w n 0 5 (by simp only [maxLen]; omega)
  refine ⟨grownCap w n 0 5, w.drew.alloc (.cells (Builtin.zeroCells (Value.int .u8 0).cells n ++ Builtin.zeroCells (Value.int .u8 0).cells (grownCap w n 0 5 - n)) 5), hge, hcm, ?_, ?_, ?_⟩
  · refine blk_lit w.drew (List.replicate (grownCap w n 0 5) 0) _ ?_
    have hc : (Value.int .u8 0).cells = #[(Value.int .u8 0)] := rfl
    rw [hc, Array.toList_append, zero_b8, zero_b8, ← List.map_append, List.replicate_append_replicate]
    congr 2
    omega
  · exact (below_draws 1).alloc (Nat.le_refl _) _
  · have hw : IntKind.i64.wrap (n : Int) = n := by rw [IntKind.wrap_i64]; omega
    have h1 : ¬ ((n : Int) < 0) := by omega
    have h2 : ¬ (281474976710656 < (n : Int) * i0.bytes) := by rw [hz2]; omega
    have h3 : ¬ (n = 0) := by omega
    have h4 : ¬ (9223372036854775807 < (n : Int)) := by omega
    have h5 : ¬ (281474976710656 < Builtin.nextslicecap n 0 * i0.bytes) := by rw [nextslicecap_zero h0, hz2]; omega
    have h6 : n ≠ 0 := h3
    have ha : ∀ w : World, (asIntOf (.int .i64 (n : Int))).run Try.prog w = .ok (IntKind.i64, (n : Int)) w := fun _ => rfl
    simp [Builtin.append_, run_underlying Try.underlying22, run_underlying Try.underlying3, sizeOf, typeInfo, zeroValue, hi0, hz0, hz1, Builtin.lenOf, Builtin.firstCells, hw, h1, h2, h3, h4, h5, asInt, ha, Question.forced, newRow, grownCap]

section
variable {ops : Array Oper} {rest : List Oper} {o : Oper} {a : Act} {Q : Exit → Act → World → Prop}
/-- append of noughts onto nothing -/
theorem app_zeros (w : World) (hgd : o.guard = none) (s x : Operand) (ho : o.op = .call { callee := .builtin .append, args := #[s, x], argTypes := #[22, 3] })
    (hs : a.eval s = .slice none 0 0) (n : Nat) (hx : a.eval x = .int .i64 n) (h0 : 0 < n) (hn : n ≤ 70368744177664)
    (h : ∀ c w', n ≤ c → c ≤ maxLen → Blk w' w.heap.size (List.replicate c 0) → Below w.heap.size w w' → wpList Try.prog ops Q rest (a.put o.dst (.slice (some ⟨w.heap.size, 0, none⟩) n c)) w') : wpList Try.prog ops Q (o :: rest) a w := by
  refine wpList_plain hgd fun K hK' => ?_
  obtain ⟨c, w', h1, h2, h3, h4, hr⟩ := run_app_zeros w n h0 hn o.type
  unfold Oper.wp execOp
  simp only [ho, resolve, invoke, builtin, Sem.run_bind, Sem.run_pure, Result.andThen_ok, List.map_toArray, List.map_cons, List.map_nil, hs, hx, hr]
  exact hK' _ _ (h c w' h1 h2 h3 h4)
end

set_option maxRecDepth 100000 in
set_option maxHeartbeats 400000 in
theorem grow_any (n : Nat) (w : World) (hn : n ≤ 70368744177664) : Calls Try.prog 27 #[.slice none 0 0, .int .i64 n] w (Made w []) := by
  by_cases h0 : 0 < n
  · go_enter Try.func27, Try.ntmps27
    go_wp2_with (at_builtin; refine app_zeros _ rfl (.tmp 20) (.tmp 21) rfl rfl n rfl h0 hn ?_; intro c w1 h1 h2 h3 h4)
    go_ret
    have ho := Own.of h3 (Nat.le_refl _) 0 (Nat.zero_le _) (by simpa using h2)
    exact ⟨_, rfl, by simpa using ho, h4⟩
  · obtain rfl : n = 0 := by omega
    go_enter Try.func27, Try.ntmps27
    go_wp2
    go_ret
    exact ⟨_, rfl, Own.nil _ _, Below.refl _ _⟩

set_option maxRecDepth 100000 in
set_option maxHeartbeats 400000 in
theorem concat_any (g : Nat) (A A2 : Option Addr) (c c2 : Nat) (l l2 : List UInt8) (w : World) (hg : w.heap[g]? = some (.cells #[.slice A l.length c, .slice A2 l2.length c2] 22 (0, 0)))
    (hc : A = none → c = 0) (hc2 : A2 = none → c2 = 0) (h : Lies w w.heap.size A l) (h2 : Lies w w.heap.size A2 l2) (hn : l.length ≤ 1099511627776) (hn2 : l2.length ≤ 1099511627776) :
    Calls Try.prog 18 #[.slice (some ⟨g, 0, none⟩) 2 2] w (Made w (l ++ l2)) := by
  have hlt : g < w.heap.size := by
    rcases Nat.lt_or_ge g w.heap.size with h' | h'
    · exact h'
    · rw [Array.getElem?_eq_none h'] at hg; cases hg
  have c0 : w.cell? ⟨g, 0, none⟩ = some (.slice A l.length c) := by simp [World.cell?, hg]
  have c1 : w.cell? ⟨g, 1, none⟩ = some (.slice A2 l2.length c2) := by simp [World.cell?, hg]
  have HG := Lib.hid (fun w => show Calls Try.prog 27 #[.slice none 0 0, .int .i64 ((l.length : Int) + (l2.length : Int))] w (Made w []) by
    have := grow_any (l.length + l2.length) w (by omega)
    rwa [Int.natCast_add] at this)
  have HC := Lib.hid (And.intro hc hc2)
  have H1 := Lib.hid h
  have H2 := Lib.hid h2
  have HH := Lib.hid hg
  clear h h2 hc hc2 hg
  go_enter Try.func18, Try.ntmps18
  go_wp2_with fail
  refine wp_loop_rounds 3 ?_
  rw [rounds_succ]
  go_wp2_with fail
  rw [rounds_succ]
  go_wp2_with fail
  rw [rounds_succ]
  go_wp2_with fail
  refine (HG.out _).mono ?_
  rintro e w1 ⟨v, rfl, ho, hb⟩
  have h1 := (hb.block g hlt).trans HH.out
  have d0 : w1.cell? ⟨g, 0, none⟩ = some (.slice A l.length c) := by simp [World.cell?, h1]
  have HB1 := Lib.hid hb
  have HH1 := Lib.hid h1
  have hz1 := hb.size
  clear c0 c1 HH HG h1 hb
  go_wp2_with fail
  refine wp_loop_rounds 3 ?_
  rw [rounds_succ]
  go_wp2_with (at_builtin; refine app_slice _ rfl (.tmp 31) (.tmp 32) rfl w.heap.size v [] rfl ho A c w.heap.size l rfl HC.out.1 (H1.out.below HB1.out) (by simp; omega) (by omega) ?_; intro v2 w2 ho2 hg2)
  have hb2 := below_grown HB1.out hg2 ho hz1
  have h2 := (hg2.block g (by omega) (fun e => by have := (ho.lt g e.symm).1; omega)).trans HH1.out
  have d1 : w2.cell? ⟨g, 1, none⟩ = some (.slice A2 l2.length c2) := by simp [World.cell?, h2]
  have hz2 := hb2.size
  have HB2 := Lib.hid hb2
  clear hg2 ho d0 h2 hb2 HB1 HH1
  rw [rounds_succ]
  go_wp2_with (at_builtin; refine app_slice _ rfl (.tmp 31) (.tmp 32) rfl w.heap.size v2 ([] ++ l) rfl ho2 A2 c2 w.heap.size l2 rfl HC.out.2 (H2.out.below HB2.out) (by simp; omega) (by omega) ?_; intro v3 w3 ho3 hg3)
  have HB3 := Lib.hid (below_grown HB2.out hg3 ho2 hz2)
  clear hg3 ho2 d1 HB2
  rw [rounds_succ]
  go_wp2_with fail
  go_ret
  exact ⟨v3, rfl, by simpa using ho3, HB3.out⟩

end Go.Proofs.Ytpbopehhalicjaa
