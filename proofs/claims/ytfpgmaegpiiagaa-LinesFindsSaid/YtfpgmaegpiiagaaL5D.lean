/-
  Contracts of the law's twin and SameRows (of the same rows), and of the document's Right.
-/
import Derived.Test.YtfpgmaegpiiagaaL5C
import Derived.Laws.StructEq
namespace Go.Proofs.Ytfpgmaegpiiagaa
open Go.RowKit

theorem row_equal (a b : Rw) (w : World) : (Op.equal 42 (.agg (rK a)) (.agg (rK b))).run Try.prog w = .ok (decide (a = b)) w := by
  show (Op.equalIn (9998 + 1 + 1) 42 (.agg (rK a)) (.agg (rK b))).run Try.prog w = _
  rw [run_equalIn_struct _ _ _ _ _ (by simp [Program.fieldsOf, Try.underlying42]) (by kernel_rfl)]
  simp [Program.fieldsOf, Try.underlying42, Op.eqFields, part, rK, go_sem]
  obtain ⟨k, o⟩ := a
  obtain ⟨k', o'⟩ := b
  simp only [Rw.mk.injEq]
  repeat' split
  all_goals simp [*]
theorem row_eql (a b : Rw) (w : World) : (binOp .eql 42 (.agg (rK a)) (.agg (rK b))).run Try.prog w = .ok (.bool (decide (a = b))) w := by
  simp [binOp, go_sem, row_equal]
theorem row_neq (a b : Rw) (w : World) : (binOp .neq 42 (.agg (rK a)) (.agg (rK b))).run Try.prog w = .ok (.bool (!decide (a = b))) w := by
  simp [binOp, go_sem, row_equal]

def MadeRows (w : World) (l : List Rw) (e : Ending) (w' : World) : Prop := ∃ v, e = .returned v ∧ ROwn w' w.heap.size v l ∧ Below w.heap.size w w'

set_option maxRecDepth 100000 in
set_option maxHeartbeats 400000 in
theorem twin_any (A : Option Addr) (c : Nat) (l : List Rw) (w : World) (hc : A = none → c = 0) (hn : l.length ≤ 1099511627776) (h : RLies w w.heap.size A l) :
    Calls Try.prog 8 #[.slice A l.length c] w (MadeRows w l) := by
  have hb0 := below_new w (.cells #[] 42)
  have h1 := Lib.hid (h.next hb0)
  have h2 := Lib.hid (rown_empty w)
  have HC := Lib.hid hc
  have HB0 := Lib.hid hb0
  clear h hc hb0
  go_enter Try.func8, Try.ntmps8
  go_wp2_with (at_builtin; refine app_rows _ rfl (.tmp 3) (.tmp 4) rfl w.heap.size _ [] rfl h2.out A c _ l rfl HC.out h1.out (by simp; omega) (by simp) ?_; intro v1 w1 h3 h4)
  go_ret
  exact ⟨v1, rfl, by simpa using h3, below_rgrown HB0.out h4 h2.out (by simp)⟩

def TrueR (w : World) (e : Ending) (w' : World) : Prop := e = .returned (.bool true) ∧ Below w.heap.size w w'

set_option maxRecDepth 100000 in
set_option maxHeartbeats 400000 in
theorem same_any (A A2 : Option Addr) (c c2 : Nat) (l : List Rw) (w : World) (hn : l.length ≤ 1099511627776) (h : RLies w w.heap.size A l) (h2 : RLies w w.heap.size A2 l) :
    Calls Try.prog 14 #[.slice A l.length c, .slice A2 l.length c2] w (TrueR w) := by
  go_enter Try.func14, Try.ntmps14
  go_wp2
  go_loopw [5] (fun i wr => ∃ k : Nat, k ≤ l.length ∧ i = .int .i64 k ∧ Hid (Below w.heap.size w wr)) (fun i _ => l.length - (intOf i).toNat)
  case atStart => exact ⟨0, by omega, rfl, Below.refl _ _⟩
  case round =>
    obtain ⟨k, hk, rfl, hB⟩ := hrel
    by_cases hlt : k < l.length
    · obtain ⟨g, o, rfl, hg, c1, c2⟩ := (h.below hB.out).at_ hlt
      obtain ⟨g', o', rfl, hg', c3, c4⟩ := (h2.below hB.out).at_ hlt
      generalize l[k] = r at *
      have hneq := fun w => row_neq r r w
      rw [decide_eq_true rfl] at hneq
      unfold rK at hneq
      go_wp2
      go_region
      go_wp2
      go_roundw
      case rel => exact ⟨k + 1, by omega, by go_num, hB.out.drew⟩
      case measure => simp [intOf]; omega
    · obtain rfl : k = l.length := by omega
      go_wp2
      go_ret
      exact ⟨rfl, hB.out⟩

theorem okR_no {a : Int} {r : Rw} (h : r.pc ≤ a ∨ 16777216 ≤ r.pc ∨ r.pt < 0 ∨ 1000 ≤ r.pt) : ¬ okR a r := by unfold okR; omega
theorem rright_stop {l : List Rw} {a : Int} {k : Nat} (hk : k < l.length) (hr : okL (-1) l = okL a (l.drop k)) (ho : ¬ okR a l[k]) : rightB l = false := by
  unfold rightB; rw [hr, okL_at hk, decide_eq_false ho, Bool.false_and, Bool.and_false]
theorem rright_step {l : List Rw} {a : Int} {k : Nat} (hk : k < l.length) (hr : okL (-1) l = okL a (l.drop k)) (ho : okR a l[k]) : okL (-1) l = okL l[k].pc (l.drop (k + 1)) := by
  rw [hr, okL_at hk, decide_eq_true ho, Bool.true_and]
theorem rright_end {l : List Rw} {a : Int} (hr : okL (-1) l = okL a (l.drop l.length)) : rightB l = decide ((l.length : Int) ≤ 20000) := by
  unfold rightB; rw [hr, List.drop_length]
  have : (l.length ≤ 20000) ↔ ((l.length : Int) ≤ 20000) := by omega
  simp [okL, this]

set_option maxRecDepth 100000 in
set_option maxHeartbeats 400000 in
theorem refRight_any (A : Option Addr) (c : Nat) (l : List Rw) (w : World) (hn : l.length ≤ 1099511627776) (h : RLies w w.heap.size A l) :
    Calls Try.prog 13 #[.slice A l.length c] w (RightR l w) := by
  go_enter Try.func13, Try.ntmps13
  go_wp2
  go_loop [3, 4] (fun a i => ∃ (k : Nat) (x : Int), k ≤ l.length ∧ i = .int .i64 k ∧ a = .int .i64 x ∧ Hid (okL (-1) l = okL x (l.drop k))) (fun _ i => l.length - (intOf i).toNat)
  case atStart => exact ⟨0, -1, by omega, rfl, rfl, rfl⟩
  case round =>
    obtain ⟨k, x, hk, rfl, rfl, hr⟩ := hrel
    by_cases hlt : k < l.length
    · obtain ⟨g, o, rfl, hg, c1, c2⟩ := h.at_ hlt
      have HN := Lib.hid (fun ho => rright_step hlt hr.out ho)
      have HF := Lib.hid (fun ho => rright_stop hlt hr.out ho)
      clear hr
      generalize l[k] = r at *
      by_cases h1 : r.pc ≤ x
      · have HR := Lib.hid (HF.out (okR_no (.inl h1)))
        clear HN HF
        go_wp2
        go_ret
        exact ⟨by rw [HR.out]; rfl, Below.refl _ _⟩
      · by_cases h2 : 16777216 ≤ r.pc
        · have HR := Lib.hid (HF.out (okR_no (.inr (.inl h2))))
          clear HN HF
          go_wp2
          go_ret
          exact ⟨by rw [HR.out]; rfl, Below.refl _ _⟩
        · by_cases h3 : r.pt < 0
          · have HR := Lib.hid (HF.out (okR_no (.inr (.inr (.inl h3)))))
            clear HN HF
            go_wp2
            go_ret
            exact ⟨by rw [HR.out]; rfl, Below.refl _ _⟩
          · by_cases h4 : 1000 ≤ r.pt
            · have HR := Lib.hid (HF.out (okR_no (.inr (.inr (.inr h4)))))
              clear HN HF
              go_wp2
              go_ret
              exact ⟨by rw [HR.out]; rfl, Below.refl _ _⟩
            · have HN2 := Lib.hid (HN.out ⟨by omega, by omega, by omega, by omega⟩)
              clear HN HF
              go_wp2
              go_round
              case rel => exact ⟨k + 1, r.pc, by omega, by go_num, rfl, HN2⟩
              case measure => simp [intOf]; omega
    · obtain rfl : k = l.length := by omega
      have HR := Lib.hid (rright_end hr.out)
      clear hr
      go_wp2
      go_ret
      exact ⟨by rw [HR.out]; rfl, Below.refl _ _⟩
end Go.Proofs.Ytfpgmaegpiiagaa
