/-
  Contracts of lines.may, lines.Right, and of the law's SameRows (of the same ones) and twin.
-/
import Derived.Test.YtfpgmaegpiiagaaL5B
import Derived.Deep.QuietTactic
import Derived.BigQuiet
namespace Go.Proofs.Ytfpgmaegpiiagaa
open Go.RowKit

def mayB (n : Int) : Bool := decide (0 ≤ n ∧ n ≤ 16777216)
theorem may_any (n : Int) (w : World) : Calls Try.prog 47 #[.int .i64 n] w fun e w' => e = .returned (.bool (mayB n)) ∧ w = w' := by
  by_cases h0 : 0 ≤ n
  · by_cases h1 : n ≤ 16777216
    · have HR := Lib.hid (show mayB n = true from decide_eq_true (And.intro h0 h1))
      go_enter Try.func47, Try.ntmps47
      go_wp2
      go_ret
      exact ⟨by rw [HR.out]; rfl, rfl⟩
    · have HR := Lib.hid (show mayB n = false from decide_eq_false (fun h => h1 h.2))
      go_enter Try.func47, Try.ntmps47
      go_wp2
      go_ret
      exact ⟨by rw [HR.out]; rfl, rfl⟩
  · have HR := Lib.hid (show mayB n = false from decide_eq_false (fun h => h0 h.1))
    go_enter Try.func47, Try.ntmps47
    go_wp2
    go_ret
    exact ⟨by rw [HR.out]; rfl, rfl⟩

def RightR (l : List Rw) (w : World) (e : Ending) (w' : World) : Prop := e = .returned (.bool (rightB l)) ∧ Below w.heap.size w w'
theorem right_long {l : List Rw} (h : 20000 < l.length) : rightB l = false := by
  unfold rightB; rw [decide_eq_false (by omega)]; rfl
theorem right_step {l : List Rw} {a : Int} {k : Nat} (hk : k < l.length) (hr : rightB l = okL a (l.drop k)) (ho : okR a l[k]) : rightB l = okL l[k].pc (l.drop (k + 1)) := by
  rw [hr, okL_at hk, decide_eq_true ho, Bool.true_and]
theorem right_stop {l : List Rw} {a : Int} {k : Nat} (hk : k < l.length) (hr : rightB l = okL a (l.drop k)) (ho : ¬ okR a l[k]) : rightB l = false := by
  rw [hr, okL_at hk, decide_eq_false ho, Bool.false_and]
theorem right_end {l : List Rw} {a : Int} (hr : rightB l = okL a (l.drop l.length)) : rightB l = true := by
  rw [hr, List.drop_length]; rfl

set_option maxRecDepth 100000 in
set_option maxHeartbeats 400000 in
theorem right_any (A : Option Addr) (c : Nat) (l : List Rw) (w : World) (hn : l.length ≤ 1099511627776) (h : RLies w w.heap.size A l) :
    Calls Try.prog 12 #[.slice A l.length c] w (RightR l w) := by
  by_cases hb : 20000 < l.length
  · have HR := Lib.hid (right_long hb)
    have hb2 : (20000 : Int) < l.length := by omega
    go_enter Try.func12, Try.ntmps12
    go_wp2
    go_ret
    exact ⟨by rw [HR.out]; rfl, Below.refl _ _⟩
  · have H0 := Lib.hid (show rightB l = okL (-1) (l.drop 0) by unfold rightB; rw [decide_eq_true (by omega)]; rfl)
    have hb2 : (l.length : Int) ≤ 20000 := by omega
    go_enter Try.func12, Try.ntmps12
    go_wp2
    go_loopw [3, 11] (fun a i wr => ∃ (k : Nat) (x : Int), k ≤ l.length ∧ i = .int .i64 k ∧ a = .int .i64 x ∧ Hid (rightB l = okL x (l.drop k)) ∧ Hid (Below w.heap.size w wr)) (fun _ i _ => l.length - (intOf i).toNat)
    case atStart => exact ⟨0, -1, by omega, rfl, rfl, H0, Below.refl _ _⟩
    case round =>
      obtain ⟨k, x, hk, rfl, rfl, hr, hB⟩ := hrel
      clear H0
      by_cases hlt : k < l.length
      · obtain ⟨g, o, rfl, hg, c1, c2⟩ := (h.below hB.out).at_ hlt
        have HN := Lib.hid (fun ho => right_step hlt hr.out ho)
        have HF := Lib.hid (fun ho => right_stop hlt hr.out ho)
        have HZ := Lib.hid (hB.out.trans ((below_new wr (.cells #[.int .i64 l[k].pc, .int .i64 l[k].pt] 42)).mono hB.out.size))
        clear hr
        generalize l[k] = r at *
        unfold okR at HN HF
        by_cases h1 : r.pc ≤ x
        · go_wp2
          go_ret
          exact ⟨by rw [HF.out (fun q => by omega)]; rfl, HZ.out⟩
        · by_cases h2 : 16777216 ≤ r.pc
          · go_wp2
            go_ret
            exact ⟨by rw [HF.out (fun q => by omega)]; rfl, HZ.out⟩
          · by_cases h3 : r.pt < 0
            · go_wp2
              go_ret
              exact ⟨by rw [HF.out (fun q => by omega)]; rfl, HZ.out⟩
            · by_cases h4 : 1000 ≤ r.pt
              · go_wp2
                go_ret
                exact ⟨by rw [HF.out (fun q => by omega)]; rfl, HZ.out⟩
              · have HN2 := Lib.hid (HN.out ⟨by omega, by omega, by omega, by omega⟩)
                clear HN HF
                go_wp2
                go_roundw
                case rel => exact ⟨k + 1, r.pc, by omega, by go_num, rfl, HN2, HZ⟩
                case measure => simp [intOf]; omega
      · obtain rfl : k = l.length := by omega
        have HR := Lib.hid (right_end hr.out)
        clear hr
        go_wp2
        go_ret
        exact ⟨by rw [HR.out]; rfl, hB.out⟩
end Go.Proofs.Ytfpgmaegpiiagaa
