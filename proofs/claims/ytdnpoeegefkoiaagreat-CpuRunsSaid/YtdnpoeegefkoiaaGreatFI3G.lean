/-
  Merged for a claim: I3G.
-/
import Derived.Test.YtdnpoeegefkoiaaGreatFI3E0
import Derived.Deep.WholeRow
namespace Go.Proofs.YtdnpoeegefkoiaaGreat
open Go.RowKit

theorem ptsOf_len (k : Int) : (ptsOf k).length ≤ 4 := by
  unfold ptsOf
  repeat' split
  all_goals simp
theorem index_part (w : World) (L : List Pt) (j : Nat) (hj : j < 4) : (Instr.index 109 (.agg (arr L)) (.int .i64 j)).run Tryz.prog w = .ok (.agg (slotC L[j]?).toArray) w := by
  have h : ∀ o : Option Pt, ∃ a b c d, slotC o = [a, b, c, d] := fun o => by cases o <;> exact ⟨_, _, _, _, rfl⟩
  obtain ⟨a0, a1, a2, a3, h0⟩ := h L[0]?
  obtain ⟨b0, b1, b2, b3, h1⟩ := h L[1]?
  obtain ⟨c0, c1, c2, c3, h2⟩ := h L[2]?
  obtain ⟨d0, d1, d2, d3, h3⟩ := h L[3]?
  have hs := part_size
  unfold arr
  rw [h0, h1, h2, h3]
  have hj' : j = 0 ∨ j = 1 ∨ j = 2 ∨ j = 3 := by omega
  cases hq : Tryz.prog.info? 96 with
  | none => simp [hq] at hs
  | some i0 =>
    have hi : i0.size = 4 := by simpa [hq] using hs
    rcases hj' with rfl | rfl | rfl | rfl
    · rw [h0]; simp [Instr.index, run_underlying Tryz.underlying109, sizeOf, typeInfo, hq, hi, asIntOf, part, go_sem]
    · rw [h1]; simp [Instr.index, run_underlying Tryz.underlying109, sizeOf, typeInfo, hq, hi, asIntOf, part, go_sem]
    · rw [h2]; simp [Instr.index, run_underlying Tryz.underlying109, sizeOf, typeInfo, hq, hi, asIntOf, part, go_sem]
    · rw [h3]; simp [Instr.index, run_underlying Tryz.underlying109, sizeOf, typeInfo, hq, hi, asIntOf, part, go_sem]

theorem arr_one (L : List Pt) : (arr L).all (·.oneCell') = true := by
  have h : ∀ o : Option Pt, ∀ v ∈ slotC o, v.oneCell' = true := fun o => by
    cases o <;> simp [slotC, pc, Value.oneCell']
  rw [Array.all_eq_true_iff_forall_mem]
  intro v hv
  simp only [arr, List.mem_toArray, List.mem_append] at hv
  rcases hv with ((hv | hv) | hv) | hv <;> exact h _ _ hv

theorem eq_nil (w : World) : (Op.equal 64 .nilFunc .nilFunc).run Tryz.prog w = .ok true w := by
  show (Op.equalIn (9999 + 1) 64 .nilFunc .nilFunc).run Tryz.prog w = _
  rw [Op.equalIn]
  simp [run_underlying Tryz.underlying64]
theorem eq_func (f : Nat) (w : World) : (Op.equal 64 (.func (.func f) #[] #[]) .nilFunc).run Tryz.prog w = .ok false w := by
  show (Op.equalIn (9999 + 1) 64 (.func (.func f) #[] #[]) .nilFunc).run Tryz.prog w = _
  rw [Op.equalIn]
  simp [run_underlying Tryz.underlying64]
theorem nil_eq (w : World) : (binOp .eql 64 .nilFunc .nilFunc).run Tryz.prog w = .ok (.bool true) w := by
  simp [binOp, go_sem, eq_nil]
theorem func_ne (f : Nat) (w : World) : (binOp .eql 64 (.func (.func f) #[] #[]) .nilFunc).run Tryz.prog w = .ok (.bool false) w := by
  simp [binOp, go_sem, eq_func]
theorem run_enter {f : FuncId} {fn : Func} (hf : Tryz.prog.funcs[f]? = some fn) (hn : (fn.name == "runtime.NumGoroutine") = false) (hb : fn.body.isNone = false) (args : Array Value) (w : World) : (callFunc f args).run Tryz.prog w = .ok (.enter f args) w := by
  have hn' : ¬ fn.name = "runtime.NumGoroutine" := by simpa using hn
  have hb' : ¬ fn.body = none := fun h => by rw [h] at hb; cases hb
  simp [callFunc, hf, hn', hb', go_sem]
theorem enter_f (p : Pt) (args : Array Value) (w : World) : (callFunc (fF p) args).run Tryz.prog w = .ok (.enter (fF p) args) w := by
  cases p
  · exact run_enter Tryz.func96 (by kernel_rfl) (by kernel_rfl) args w
  · exact run_enter Tryz.func79 (by kernel_rfl) (by kernel_rfl) args w
  · exact run_enter Tryz.func90 (by kernel_rfl) (by kernel_rfl) args w
  · exact run_enter Tryz.func100 (by kernel_rfl) (by kernel_rfl) args w
  · exact run_enter Tryz.func84 (by kernel_rfl) (by kernel_rfl) args w
  · exact run_enter Tryz.func104 (by kernel_rfl) (by kernel_rfl) args w
  · exact run_enter Tryz.func110 (by kernel_rfl) (by kernel_rfl) args w
  · exact run_enter Tryz.func115 (by kernel_rfl) (by kernel_rfl) args w
theorem enter_d (p : Pt) (args : Array Value) (w : World) : (callFunc (dF p) args).run Tryz.prog w = .ok (.enter (dF p) args) w := by
  cases p
  · exact run_enter Tryz.func97 (by kernel_rfl) (by kernel_rfl) args w
  · exact run_enter Tryz.func81 (by kernel_rfl) (by kernel_rfl) args w
  · exact run_enter Tryz.func91 (by kernel_rfl) (by kernel_rfl) args w
  · exact run_enter Tryz.func101 (by kernel_rfl) (by kernel_rfl) args w
  · exact run_enter Tryz.func85 (by kernel_rfl) (by kernel_rfl) args w
  · exact run_enter Tryz.func105 (by kernel_rfl) (by kernel_rfl) args w
  · exact run_enter Tryz.func85 (by kernel_rfl) (by kernel_rfl) args w
  · exact run_enter Tryz.func85 (by kernel_rfl) (by kernel_rfl) args w
theorem enter_p (p : Pt) (args : Array Value) (w : World) : (callFunc (pF p) args).run Tryz.prog w = .ok (.enter (pF p) args) w := by
  cases p
  · exact run_enter Tryz.func98 (by kernel_rfl) (by kernel_rfl) args w
  · exact run_enter Tryz.func82 (by kernel_rfl) (by kernel_rfl) args w
  · exact run_enter Tryz.func92 (by kernel_rfl) (by kernel_rfl) args w
  · exact run_enter Tryz.func102 (by kernel_rfl) (by kernel_rfl) args w
  · exact run_enter Tryz.func86 (by kernel_rfl) (by kernel_rfl) args w
  · exact run_enter Tryz.func106 (by kernel_rfl) (by kernel_rfl) args w
  · exact run_enter Tryz.func111 (by kernel_rfl) (by kernel_rfl) args w
  · exact run_enter Tryz.func116 (by kernel_rfl) (by kernel_rfl) args w
theorem enter_g (p : Pt) (args : Array Value) (w : World) : (callFunc (gF p) args).run Tryz.prog w = .ok (.enter (gF p) args) w := by
  cases p
  · exact run_enter Tryz.func99 (by kernel_rfl) (by kernel_rfl) args w
  · exact run_enter Tryz.func83 (by kernel_rfl) (by kernel_rfl) args w
  · exact run_enter Tryz.func94 (by kernel_rfl) (by kernel_rfl) args w
  · exact run_enter Tryz.func103 (by kernel_rfl) (by kernel_rfl) args w
  · exact run_enter Tryz.func88 (by kernel_rfl) (by kernel_rfl) args w
  · exact run_enter Tryz.func108 (by kernel_rfl) (by kernel_rfl) args w
  · exact run_enter Tryz.func113 (by kernel_rfl) (by kernel_rfl) args w
  · exact run_enter Tryz.func117 (by kernel_rfl) (by kernel_rfl) args w

theorem arr_eta (cs : Array Value) (h : cs.size = 16) : #[cs[0], cs[1], cs[2], cs[3], cs[4], cs[5], cs[6], cs[7], cs[8], cs[9], cs[10], cs[11], cs[12], cs[13], cs[14], cs[15]] = cs := by
  apply Array.ext
  · simp [h]
  · intro i h1 h2
    have : i < 16 := by omega
    rcases (show i = 0 ∨ i = 1 ∨ i = 2 ∨ i = 3 ∨ i = 4 ∨ i = 5 ∨ i = 6 ∨ i = 7 ∨ i = 8 ∨ i = 9 ∨ i = 10 ∨ i = 11 ∨ i = 12 ∨ i = 13 ∨ i = 14 ∨ i = 15 by omega) with rfl | rfl | rfl | rfl | rfl | rfl | rfl | rfl | rfl | rfl | rfl | rfl | rfl | rfl | rfl | rfl <;> rfl

set_option maxRecDepth 100000 in
set_option maxHeartbeats 400000 in
theorem each_any (k : Int) (F : Nat) (caps : Array Value) (w : World) (I : Nat → World → Prop) (R : World → Prop)
    (hE : ∀ args w, (callFunc F args).run Tryz.prog w = .ok (.enter F args) w)
    (hI : ∀ j w1 w2, I j w1 → Below w1.heap.size w1 w2 → I j w2) (hI0 : I 0 w)
    (hstep : ∀ j p, (ptsOf k)[j]? = some p → ∀ w1, I j w1 → Calls Tryz.prog F (#[pv p] ++ caps) w1 fun e w2 => (e = .returned (.bool true) ∧ I (j + 1) w2) ∨ (e = .returned (.bool false) ∧ R w2)) :
    Calls Tryz.prog 53 #[.int .u8 k, .func (.func F) #[] caps] w fun e w' => (e = .returned (.bool (isK k)) ∧ I (ptsOf k).length w') ∨ (e = .returned (.bool false) ∧ R w') := by
  have HP := Lib.hid (parts_any k)
  have hlen := ptsOf_len k
  unfold PartsR at HP
  generalize ptsOf k = L at *
  generalize isK k = is at *
  have HI := Lib.hid hI
  have HS := Lib.hid hstep
  clear hI hstep
  have hsz := Lib.hid (show (Tryz.prog.info? 109).map (·.size) = some (arr L).size by rw [arr_size]; exact arr_size')
  have hold := Lib.hid (show 16 = (arr L).size by rw [arr_size])
  have hs16 := arr_size L
  have hst := fun (w : World) => run_storeCells_new (P := Tryz.prog) w 109 #[.nilFunc, .nilFunc, .nilFunc, .nilFunc, .nilFunc, .nilFunc, .nilFunc, .nilFunc, .nilFunc, .nilFunc, .nilFunc, .nilFunc, .nilFunc, .nilFunc, .nilFunc, .nilFunc] (arr L) hsz.out hold.out (arr_one L)
  have hld := fun (w : World) => run_loadCellsFrom_new (P := Tryz.prog) w 109 (arr L) 16 hs16
  go_enter Tryz.func53, Tryz.ntmps53
  go_wp2_with fail
  refine (HP.out _).mono ?_
  rintro e w1 ⟨rfl, hb1⟩
  have hi1 := HI.out 0 w w1 hI0 hb1
  go_wp2_with fail
  rw [arr_eta (arr L) hs16]
  have hb2 : Below w1.heap.size w1 (w1.alloc (.cells (arr L) 109)) := below_box _ _
  have hi2 := HI.out 0 _ _ hi1 hb2
  clear hst hld hs16 hsz hold hi1 hb1 hb2 HP
  generalize w1.alloc (.cells (arr L) 109) = w2 at *
  go_loopw [15] (fun i wr => ∃ j : Nat, j ≤ L.length ∧ i = .int .i64 j ∧ Hid (I j wr)) (fun i _ => 4 - (intOf i).toNat)
  case atStart => exact ⟨0, by omega, rfl, hi2⟩
  case round =>
    obtain ⟨j, hj, rfl, hi⟩ := hrel
    by_cases h4 : j < 4
    · have hix := fun w => index_part w L j h4
      cases hq : L[j]? with
      | none =>
        rw [hq] at hix
        obtain rfl : j = L.length := by
          have := List.getElem?_eq_none_iff.1 hq
          omega
        have HX := Lib.hid (HI.out L.length wr _ hi.out (below_box wr (.cells #[.nilFunc, .nilFunc, .nilFunc, .nilFunc] 96)))
        have hnq := fun w => nil_eq w
        clear hq
        unfold slotC at hix
        go_wp2_with fail
        go_ret
        exact .inl ⟨rfl, HX.out⟩
      | some p =>
        rw [hq] at hix
        have HS' := Lib.hid (HS.out j p hq _ (HI.out j wr _ hi.out (below_box wr (.cells (pc p) 96))))
        have hne := fun w => func_ne (fF p) w
        unfold slotC pc at hix
        go_wp2_with fail
        refine HS'.out.mono ?_
        rintro e w3 (⟨rfl, hi3⟩ | ⟨rfl, hr3⟩)
        · go_wp2_with fail
          go_roundw
          case rel => exact ⟨j + 1, by have := (List.getElem?_eq_some_iff.1 hq).1; omega, by go_num, hi3⟩
          case measure => simp [intOf]; omega
        · go_wp2_with fail
          go_ret
          exact .inr ⟨rfl, hr3⟩
    · obtain rfl : j = 4 := by omega
      obtain h5 : L.length = 4 := by omega
      go_wp2_with fail
      go_ret
      exact .inl ⟨rfl, by rw [h5]; exact hi.out⟩
end Go.Proofs.YtdnpoeegefkoiaaGreat
