/-
  The contract of expr.Right; of the document's Right, Same, Twin.
-/
import Derived.Test.YtggofdahnbchjaaS6D
import Derived.Deep.QuietTactic
import Derived.BigQuiet
import Derived.Laws.StructEq
namespace Go.Proofs.Ytggofdahnbchjaa
open Go Go.RowKit

def RightR6 (l : List Lc) (w : World) (e : Ending) (w' : World) : Prop := e = .returned (.bool (rightC l)) ∧ Below w.heap.size w w'
set_option maxRecDepth 100000 in
theorem right6_any (A : Option Addr) (c : Nat) (l : List Lc) (w : World) (hn : l.length ≤ 1099511627776) (h : LLies w w.heap.size A l) :
    Calls Try.prog 37 #[.slice A l.length c] w (RightR6 l w) := by
  have HS := Lib.hid (steps_any A c l w hn h)
  clear h
  unfold RightR6
  unfold StepsR at HS
  generalize rightC l = t at *
  go_enter Try.func37, Try.ntmps37
  go_wp2_with fail
  refine HS.out.mono ?_
  rintro e w1 ⟨v, rfl, hb, _⟩
  have HB := Lib.hid hb
  clear hb HS
  go_wp2_with fail
  go_ret
  exact ⟨rfl, HB.out⟩

/-- equal steps -/
theorem loc_equal (a b : Lc) (w : World) : (Op.equal 44 (.agg (cK a)) (.agg (cK b))).run Try.prog w = .ok (decide (a = b)) w := by
  show (Op.equalIn (9998 + 1 + 1) 44 (.agg (cK a)) (.agg (cK b))).run Try.prog w = _
  rw [run_equalIn_struct _ _ _ _ _ (by simp [Program.fieldsOf, Try.underlying44]) (by kernel_rfl)]
  simp [Program.fieldsOf, Try.underlying44, Op.eqFields, part, cK, go_sem]
  obtain ⟨k, o⟩ := a
  obtain ⟨k', o'⟩ := b
  simp only [Lc.mk.injEq]
  repeat' split
  all_goals simp [*]
theorem loc_neq (a b : Lc) (w : World) : (binOp .neq 44 (.agg (cK a)) (.agg (cK b))).run Try.prog w = .ok (.bool (!decide (a = b))) w := by
  simp [binOp, go_sem, loc_equal]

def MadeLocs (w : World) (l : List Lc) (e : Ending) (w' : World) : Prop := ∃ v, e = .returned v ∧ LOwn w' w.heap.size v l ∧ Below w.heap.size w w'
set_option maxRecDepth 100000 in
set_option maxHeartbeats 400000 in
theorem twin6_any (A : Option Addr) (c : Nat) (l : List Lc) (w : World) (hc : A = none → c = 0) (hn : l.length ≤ 1099511627776) (h : LLies w w.heap.size A l) :
    Calls Try.prog 30 #[.slice A l.length c] w (MadeLocs w l) := by
  have hb0 := below_lnew w (.cells #[] 44)
  have h1 := Lib.hid (h.next hb0)
  have h2 := Lib.hid (lown_empty w)
  have HC := Lib.hid hc
  have HB0 := Lib.hid hb0
  clear h hc hb0
  go_enter Try.func30, Try.ntmps30
  go_wp2_with (at_builtin; refine app_locs _ rfl (.tmp 3) (.tmp 4) rfl w.heap.size _ [] rfl h2.out A c _ l rfl HC.out h1.out (by simp; omega) (by simp) ?_; intro v1 w1 h3 h4)
  go_ret
  exact ⟨v1, rfl, by simpa using h3, below_lgrown HB0.out h4 h2.out (by simp)⟩

def TrueR6 (w : World) (e : Ending) (w' : World) : Prop := e = .returned (.bool true) ∧ Below w.heap.size w w'
set_option maxRecDepth 100000 in
set_option maxHeartbeats 400000 in
theorem same6_any (A A2 : Option Addr) (c c2 : Nat) (l : List Lc) (w : World) (hn : l.length ≤ 1099511627776) (h : LLies w w.heap.size A l) (h2 : LLies w w.heap.size A2 l) :
    Calls Try.prog 25 #[.slice A l.length c, .slice A2 l.length c2] w (TrueR6 w) := by
  go_enter Try.func25, Try.ntmps25
  go_wp2
  go_loopw [5] (fun i wr => ∃ k : Nat, k ≤ l.length ∧ i = .int .i64 k ∧ Hid (Below w.heap.size w wr)) (fun i _ => l.length - (intOf i).toNat)
  case atStart => exact ⟨0, by omega, rfl, Below.refl _ _⟩
  case round =>
    obtain ⟨k, hk, rfl, hB⟩ := hrel
    by_cases hlt : k < l.length
    · obtain ⟨g, o, rfl, hg, c1, c2⟩ := (h.below hB.out).at_ hlt
      obtain ⟨g', o', rfl, hg', c3, c4⟩ := (h2.below hB.out).at_ hlt
      generalize l[k] = r at *
      have hneq := fun w => loc_neq r r w
      rw [decide_eq_true rfl] at hneq
      unfold cK at hneq
      go_wp2
      go_region
      go_wp2
      go_roundw
      case rel => exact ⟨k + 1, by omega, by go_num, hB.out.drew⟩
      case measure => simp [intOf]; omega
    · obtain rfl : k = l.length := by omega
      go_wp2
      go_ret
      exact ⟨rfl, hB.out⟩

theorem may_1 {d : Nat} {n : Int} : mayL d ⟨1, n⟩ ↔ d ≤ 7 := by simp [mayL, isL, fitL, tk]
theorem may_2 {d : Nat} {n : Int} : mayL d ⟨2, n⟩ ↔ (0 ≤ n ∧ n < 16) ∧ d ≤ 7 := by simp [mayL, isL, fitL, tk]
theorem may_3 {d : Nat} {n : Int} : mayL d ⟨3, n⟩ ↔ d ≤ 7 := by simp [mayL, isL, fitL, tk]
theorem may_4 {d : Nat} {n : Int} : mayL d ⟨4, n⟩ ↔ n = 0 ∧ 1 ≤ d ∧ d ≤ 8 := by simp [mayL, isL, fitL, tk]
theorem may_5 {d : Nat} {n : Int} : mayL d ⟨5, n⟩ ↔ n = 0 ∧ 2 ≤ d ∧ d ≤ 9 := by simp [mayL, isL, fitL, tk]
theorem may_6 {d : Nat} {n : Int} : mayL d ⟨6, n⟩ ↔ n = 0 ∧ 1 ≤ d ∧ d ≤ 8 := by simp [mayL, isL, fitL, tk]
theorem may_x {d : Nat} {x : Lc} (h : ¬ (1 ≤ x.k ∧ x.k ≤ 6)) : ¬ mayL d x := fun q => by have := q.1; simp only [isL, decide_eq_true_eq] at this; exact h this

set_option maxRecDepth 100000 in
set_option maxHeartbeats 4000000 in
theorem refRight6_any (A : Option Addr) (c : Nat) (l : List Lc) (w : World) (hn : l.length ≤ 1099511627776) (h : LLies w w.heap.size A l) :
    Calls Try.prog 38 #[.slice A l.length c] w (RightR6 l w) := by
  go_enter Try.func38, Try.ntmps38
  go_wp2
  go_loopw [3, 4] (fun t i wr => ∃ (k d : Nat), k ≤ l.length ∧ d ≤ 8 ∧ i = .int .i64 k ∧ t = .int .i64 d ∧ Hid (deep 0 l = deep d (l.drop k)) ∧ Hid (Below w.heap.size w wr)) (fun _ i _ => l.length - (intOf i).toNat)
  case atStart => exact ⟨0, 0, by omega, by omega, rfl, rfl, rfl, Below.refl _ _⟩
  case round =>
    obtain ⟨k, d, hk, hd, rfl, rfl, hD, hB⟩ := hrel
    by_cases hlt : k < l.length
    · obtain ⟨g, o, rfl, hg, c1, c2⟩ := (h.below hB.out).at_ hlt
      have HN := Lib.hid (fun hm => hD.out.trans (deep_at (d := d) hlt hm))
      have HF := Lib.hid (fun hm => right_none (hD.out.trans (deep_out (d := d) hlt hm)))
      clear hD
      generalize l[k] = x at *
      obtain ⟨xk, n⟩ := x
      simp only at c1 c2
      by_cases k1 : xk = 1
      · subst k1
        by_cases h8 : d ≤ 7
        · have HE := Lib.hid (show deep 0 l = deep (d + 1) (l.drop (k + 1)) from HN.out (may_1.2 h8))
          clear HN HF
          go_wp2
          go_roundw
          case rel => exact ⟨k + 1, d + 1, by omega, by omega, by go_num, by go_num, HE, hB⟩
          case measure => simp [intOf]; omega
        · have HE := Lib.hid (HF.out (fun q => by exact h8 (may_1.1 q)))
          clear HN HF
          go_wp2
          go_ret
          exact ⟨by rw [HE.out]; rfl, hB.out⟩
      by_cases k2 : xk = 2
      · subst k2
        by_cases h0 : n < 0
        · have HE := Lib.hid (HF.out (fun q => by have := may_2.1 q; omega))
          clear HN HF
          go_wp2
          go_ret
          exact ⟨by rw [HE.out]; rfl, hB.out⟩
        · by_cases h1 : 15 < n
          · have HE := Lib.hid (HF.out (fun q => by have := may_2.1 q; omega))
            clear HN HF
            go_wp2
            go_ret
            exact ⟨by rw [HE.out]; rfl, hB.out⟩
          · by_cases h8 : d ≤ 7
            · have HE := Lib.hid (show deep 0 l = deep (d + 1) (l.drop (k + 1)) from HN.out (may_2.2 ⟨⟨by omega, by omega⟩, h8⟩))
              clear HN HF
              go_wp2
              go_roundw
              case rel => exact ⟨k + 1, d + 1, by omega, by omega, by go_num, by go_num, HE, hB⟩
              case measure => simp [intOf]; omega
            · have HE := Lib.hid (HF.out (fun q => by have := may_2.1 q; omega))
              clear HN HF
              go_wp2
              go_ret
              exact ⟨by rw [HE.out]; rfl, hB.out⟩
      by_cases k3 : xk = 3
      · subst k3
        by_cases h8 : d ≤ 7
        · have HE := Lib.hid (show deep 0 l = deep (d + 1) (l.drop (k + 1)) from HN.out (may_3.2 h8))
          clear HN HF
          go_wp2
          go_roundw
          case rel => exact ⟨k + 1, d + 1, by omega, by omega, by go_num, by go_num, HE, hB⟩
          case measure => simp [intOf]; omega
        · have HE := Lib.hid (HF.out (fun q => by exact h8 (may_3.1 q)))
          clear HN HF
          go_wp2
          go_ret
          exact ⟨by rw [HE.out]; rfl, hB.out⟩
      by_cases k4 : xk = 4
      · subst k4
        by_cases h0 : n = 0
        · subst h0
          by_cases h1 : d < 1
          · have HE := Lib.hid (HF.out (fun q => by have := may_4.1 q; omega))
            clear HN HF
            go_wp2
            go_ret
            exact ⟨by rw [HE.out]; rfl, hB.out⟩
          · have HE := Lib.hid (show deep 0 l = deep (d) (l.drop (k + 1)) from HN.out (may_4.2 ⟨rfl, by omega, by omega⟩))
            clear HN HF
            go_wp2
            go_roundw
            case rel => exact ⟨k + 1, d, by omega, by omega, by go_num, by go_num, HE, hB⟩
            case measure => simp [intOf]; omega
        · have HE := Lib.hid (HF.out (fun q => by exact h0 (may_4.1 q).1))
          clear HN HF
          go_wp2
          go_ret
          exact ⟨by rw [HE.out]; rfl, hB.out⟩
      by_cases k5 : xk = 5
      · subst k5
        by_cases h0 : n = 0
        · subst h0
          by_cases h1 : d < 2
          · have HE := Lib.hid (HF.out (fun q => by have := may_5.1 q; omega))
            clear HN HF
            go_wp2
            go_ret
            exact ⟨by rw [HE.out]; rfl, hB.out⟩
          · have HE := Lib.hid (show deep 0 l = deep (d - 1) (l.drop (k + 1)) from HN.out (may_5.2 ⟨rfl, by omega, by omega⟩))
            clear HN HF
            go_wp2
            go_roundw
            case rel => exact ⟨k + 1, d - 1, by omega, by omega, by go_num, by go_num, HE, hB⟩
            case measure => simp [intOf]; omega
        · have HE := Lib.hid (HF.out (fun q => by exact h0 (may_5.1 q).1))
          clear HN HF
          go_wp2
          go_ret
          exact ⟨by rw [HE.out]; rfl, hB.out⟩
      by_cases k6 : xk = 6
      · subst k6
        by_cases h0 : n = 0
        · subst h0
          by_cases h1 : d < 1
          · have HE := Lib.hid (HF.out (fun q => by have := may_6.1 q; omega))
            clear HN HF
            go_wp2
            go_ret
            exact ⟨by rw [HE.out]; rfl, hB.out⟩
          · have HE := Lib.hid (show deep 0 l = deep (d) (l.drop (k + 1)) from HN.out (may_6.2 ⟨rfl, by omega, by omega⟩))
            clear HN HF
            go_wp2
            go_roundw
            case rel => exact ⟨k + 1, d, by omega, by omega, by go_num, by go_num, HE, hB⟩
            case measure => simp [intOf]; omega
        · have HE := Lib.hid (HF.out (fun q => by exact h0 (may_6.1 q).1))
          clear HN HF
          go_wp2
          go_ret
          exact ⟨by rw [HE.out]; rfl, hB.out⟩
      have HE := Lib.hid (HF.out (may_x (x := ⟨xk, n⟩) (show ¬ (1 ≤ xk ∧ xk ≤ 6) from fun q => by omega)))
      clear HN HF
      go_wp2
      go_ret
      exact ⟨by rw [HE.out]; rfl, hB.out⟩
    · obtain rfl : k = l.length := by omega
      have HZ := Lib.hid (show deep 0 l = some d from hD.out.trans (by rw [List.drop_length]; exact deep_nil d))
      clear hD
      by_cases hb : 16 < l.length
      · have HR := Lib.hid (right_big hb)
        have hb2 : ¬ (l.length : Int) ≤ 16 := by omega
        clear HZ
        go_wp2
        all_goals go_ret
        all_goals exact ⟨by rw [HR.out]; rfl, hB.out⟩
      · have hb2 : (l.length : Int) ≤ 16 := by omega
        have HE := Lib.hid (right_end (by omega) HZ.out)
        clear HZ
        by_cases h0 : l.length = 0
        · have HR := Lib.hid (HE.out.trans (decide_eq_true (.inl h0)))
          have h0i : (l.length : Int) = 0 := by omega
          clear HE
          go_wp2
          all_goals go_ret
          all_goals exact ⟨by rw [HR.out]; rfl, hB.out⟩
        · have h0i : ¬ (l.length : Int) = 0 := by omega
          by_cases h1 : d = 1
          · subst h1
            have HR := Lib.hid (HE.out.trans (decide_eq_true (.inr rfl)))
            clear HE
            go_wp2
            all_goals go_ret
            all_goals exact ⟨by rw [HR.out]; rfl, hB.out⟩
          · have HR := Lib.hid (HE.out.trans (decide_eq_false (by omega)))
            have h1i : ¬ (d : Int) = 1 := by omega
            clear HE
            go_wp2
            all_goals go_ret
            all_goals exact ⟨by rw [HR.out]; exact congrArg (fun b => Ending.returned (.bool b)) (show ((l.length : Int) == 0 || (d : Int) == 1) = false by rw [Bool.or_eq_false_iff]; exact ⟨by simpa using h0i, by simpa using h1i⟩), hB.out⟩
end Go.Proofs.Ytggofdahnbchjaa
