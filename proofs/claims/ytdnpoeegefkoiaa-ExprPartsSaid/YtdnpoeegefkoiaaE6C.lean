/-
  Steps as values: each kind's type and methods; the contract of expr.of.
-/
import Derived.Test.YtdnpoeegefkoiaaE6B
import Derived.Test.YtdnpoeegefkoiaaKO
import Derived.OwnWalk
namespace Go.Proofs.Ytdnpoeegefkoiaa
open Go Go.RowKit

/-- how a step's methods are reached: its type, its functions -/
structure Stp (x : Lc) (T fF fL fN fT : Nat) : Prop where
  mF : ∀ w, (method 209 T (.int .i64 x.n) "theodolite/expr.fits").run Try.prog w = .ok (fF, .int .i64 x.n) w
  mL : ∀ w, (method 209 T (.int .i64 x.n) "theodolite/expr.lays").run Try.prog w = .ok (fL, .int .i64 x.n) w
  mN : ∀ w, (method 209 T (.int .i64 x.n) "theodolite/expr.numbered").run Try.prog w = .ok (fN, .int .i64 x.n) w
  mT : ∀ w, (method 209 T (.int .i64 x.n) "theodolite/expr.takes").run Try.prog w = .ok (fT, .int .i64 x.n) w
  nA : ∀ w, (nilAhead 209 T (.int .i64 x.n) "theodolite/expr.lays").run Try.prog w = .ok (some false) w
  eF : ∀ args w, (callFunc fF args).run Try.prog w = .ok (.enter fF args) w
  eL : ∀ args w, (callFunc fL args).run Try.prog w = .ok (.enter fL args) w
  eN : ∀ args w, (callFunc fN args).run Try.prog w = .ok (.enter fN args) w
  eT : ∀ args w, (callFunc fT args).run Try.prog w = .ok (.enter fT args) w
  cF : ∀ w, Calls Try.prog fF #[.int .i64 x.n] w fun e w' => e = .returned (.bool (fitL x)) ∧ w = w'
  cN : ∀ w, Calls Try.prog fN #[.int .i64 x.n] w fun e w' => e = .returned (.bool (nmb x.k)) ∧ w = w'
  cT : ∀ w, Calls Try.prog fT #[.int .i64 x.n] w fun e w' => e = .returned (.int .i64 (tk x.k)) ∧ w = w'

theorem run_enterC {f : FuncId} {fn : Func} (hf : Try.prog.funcs[f]? = some fn) (hn : (fn.name == "runtime.NumGoroutine") = false) (hb : fn.body.isNone = false) (args : Array Value) (w : World) : (callFunc f args).run Try.prog w = .ok (.enter f args) w := by
  have hn' : ¬ fn.name = "runtime.NumGoroutine" := by simpa using hn
  have hb' : ¬ fn.body = none := fun h => by rw [h] at hb; cases hb
  simp [callFunc, hf, hn', hb', go_sem]

/-- the value of a step -/
def tyL (k : Int) : Nat := if k = 1 then 81 else if k = 2 then 82 else if k = 3 then 83 else if k = 4 then 84 else if k = 5 then 85 else 86
def fnL (k : Int) : Nat := if k = 1 then 70 else if k = 2 then 74 else if k = 3 then 78 else if k = 4 then 82 else if k = 5 then 86 else 90
def sv (x : Lc) : Value := if isL x.k = true then .iface (tyL x.k) (.int .i64 x.n) else .nilIface

theorem stp_num (n : Int) : Stp ⟨1, n⟩ 81 69 70 71 72 where
  mF := fun w => by kernel_rfl
  mL := fun w => by kernel_rfl
  mN := fun w => by kernel_rfl
  mT := fun w => by kernel_rfl
  nA := fun w => by kernel_rfl
  eF := run_enterC Try.func69 (by kernel_rfl) (by kernel_rfl)
  eL := run_enterC Try.func70 (by kernel_rfl) (by kernel_rfl)
  eN := run_enterC Try.func71 (by kernel_rfl) (by kernel_rfl)
  eT := run_enterC Try.func72 (by kernel_rfl) (by kernel_rfl)
  cF := fun w => by
    go_enter Try.func69, Try.ntmps69
    go_wp2
    go_ret
    exact ⟨rfl, rfl⟩
  cN := fun w => by
    go_enter Try.func71, Try.ntmps71
    go_wp2
    go_ret
    exact ⟨rfl, rfl⟩
  cT := fun w => by
    go_enter Try.func72, Try.ntmps72
    go_wp2
    go_ret
    exact ⟨rfl, rfl⟩

theorem stp_reg (n : Int) : Stp ⟨2, n⟩ 82 73 74 75 76 where
  mF := fun w => by kernel_rfl
  mL := fun w => by kernel_rfl
  mN := fun w => by kernel_rfl
  mT := fun w => by kernel_rfl
  nA := fun w => by kernel_rfl
  eF := run_enterC Try.func73 (by kernel_rfl) (by kernel_rfl)
  eL := run_enterC Try.func74 (by kernel_rfl) (by kernel_rfl)
  eN := run_enterC Try.func75 (by kernel_rfl) (by kernel_rfl)
  eT := run_enterC Try.func76 (by kernel_rfl) (by kernel_rfl)
  cF := fun w => by
    by_cases h0 : 0 ≤ n
    · by_cases h1 : n < 16
      · have HR := Lib.hid (show fitL ⟨2, n⟩ = true by simp [fitL, h0, h1])
        go_enter Try.func73, Try.ntmps73
        go_wp2
        go_ret
        exact ⟨by rw [HR.out]; rfl, rfl⟩
      · have HR := Lib.hid (show fitL ⟨2, n⟩ = false by simp [fitL]; omega)
        go_enter Try.func73, Try.ntmps73
        go_wp2
        go_ret
        exact ⟨by rw [HR.out]; rfl, rfl⟩
    · have HR := Lib.hid (show fitL ⟨2, n⟩ = false by simp [fitL]; omega)
      go_enter Try.func73, Try.ntmps73
      go_wp2
      go_ret
      exact ⟨by rw [HR.out]; rfl, rfl⟩
  cN := fun w => by
    go_enter Try.func75, Try.ntmps75
    go_wp2
    go_ret
    exact ⟨rfl, rfl⟩
  cT := fun w => by
    go_enter Try.func76, Try.ntmps76
    go_wp2
    go_ret
    exact ⟨rfl, rfl⟩

theorem stp_base (n : Int) : Stp ⟨3, n⟩ 83 77 78 79 80 where
  mF := fun w => by kernel_rfl
  mL := fun w => by kernel_rfl
  mN := fun w => by kernel_rfl
  mT := fun w => by kernel_rfl
  nA := fun w => by kernel_rfl
  eF := run_enterC Try.func77 (by kernel_rfl) (by kernel_rfl)
  eL := run_enterC Try.func78 (by kernel_rfl) (by kernel_rfl)
  eN := run_enterC Try.func79 (by kernel_rfl) (by kernel_rfl)
  eT := run_enterC Try.func80 (by kernel_rfl) (by kernel_rfl)
  cF := fun w => by
    go_enter Try.func77, Try.ntmps77
    go_wp2
    go_ret
    exact ⟨rfl, rfl⟩
  cN := fun w => by
    go_enter Try.func79, Try.ntmps79
    go_wp2
    go_ret
    exact ⟨rfl, rfl⟩
  cT := fun w => by
    go_enter Try.func80, Try.ntmps80
    go_wp2
    go_ret
    exact ⟨rfl, rfl⟩

theorem stp_word (n : Int) : Stp ⟨4, n⟩ 84 81 82 83 84 where
  mF := fun w => by kernel_rfl
  mL := fun w => by kernel_rfl
  mN := fun w => by kernel_rfl
  mT := fun w => by kernel_rfl
  nA := fun w => by kernel_rfl
  eF := run_enterC Try.func81 (by kernel_rfl) (by kernel_rfl)
  eL := run_enterC Try.func82 (by kernel_rfl) (by kernel_rfl)
  eN := run_enterC Try.func83 (by kernel_rfl) (by kernel_rfl)
  eT := run_enterC Try.func84 (by kernel_rfl) (by kernel_rfl)
  cF := fun w => by
    by_cases h0 : n = 0
    · have HR := Lib.hid (show fitL ⟨4, n⟩ = true by simp [fitL, h0])
      subst h0
      go_enter Try.func81, Try.ntmps81
      go_wp2
      go_ret
      exact ⟨by rw [HR.out]; rfl, rfl⟩
    · have HR := Lib.hid (show fitL ⟨4, n⟩ = false by simp [fitL, h0])
      go_enter Try.func81, Try.ntmps81
      go_wp2
      go_ret
      exact ⟨by rw [HR.out]; exact congrArg (fun b => Ending.returned (.bool b)) (show (n == 0) = false by simpa using h0), rfl⟩
  cN := fun w => by
    go_enter Try.func83, Try.ntmps83
    go_wp2
    go_ret
    exact ⟨rfl, rfl⟩
  cT := fun w => by
    go_enter Try.func84, Try.ntmps84
    go_wp2
    go_ret
    exact ⟨rfl, rfl⟩

theorem stp_add (n : Int) : Stp ⟨5, n⟩ 85 85 86 87 88 where
  mF := fun w => by kernel_rfl
  mL := fun w => by kernel_rfl
  mN := fun w => by kernel_rfl
  mT := fun w => by kernel_rfl
  nA := fun w => by kernel_rfl
  eF := run_enterC Try.func85 (by kernel_rfl) (by kernel_rfl)
  eL := run_enterC Try.func86 (by kernel_rfl) (by kernel_rfl)
  eN := run_enterC Try.func87 (by kernel_rfl) (by kernel_rfl)
  eT := run_enterC Try.func88 (by kernel_rfl) (by kernel_rfl)
  cF := fun w => by
    by_cases h0 : n = 0
    · have HR := Lib.hid (show fitL ⟨5, n⟩ = true by simp [fitL, h0])
      subst h0
      go_enter Try.func85, Try.ntmps85
      go_wp2
      go_ret
      exact ⟨by rw [HR.out]; rfl, rfl⟩
    · have HR := Lib.hid (show fitL ⟨5, n⟩ = false by simp [fitL, h0])
      go_enter Try.func85, Try.ntmps85
      go_wp2
      go_ret
      exact ⟨by rw [HR.out]; exact congrArg (fun b => Ending.returned (.bool b)) (show (n == 0) = false by simpa using h0), rfl⟩
  cN := fun w => by
    go_enter Try.func87, Try.ntmps87
    go_wp2
    go_ret
    exact ⟨rfl, rfl⟩
  cT := fun w => by
    go_enter Try.func88, Try.ntmps88
    go_wp2
    go_ret
    exact ⟨rfl, rfl⟩

theorem stp_neg (n : Int) : Stp ⟨6, n⟩ 86 89 90 91 92 where
  mF := fun w => by kernel_rfl
  mL := fun w => by kernel_rfl
  mN := fun w => by kernel_rfl
  mT := fun w => by kernel_rfl
  nA := fun w => by kernel_rfl
  eF := run_enterC Try.func89 (by kernel_rfl) (by kernel_rfl)
  eL := run_enterC Try.func90 (by kernel_rfl) (by kernel_rfl)
  eN := run_enterC Try.func91 (by kernel_rfl) (by kernel_rfl)
  eT := run_enterC Try.func92 (by kernel_rfl) (by kernel_rfl)
  cF := fun w => by
    by_cases h0 : n = 0
    · have HR := Lib.hid (show fitL ⟨6, n⟩ = true by simp [fitL, h0])
      subst h0
      go_enter Try.func89, Try.ntmps89
      go_wp2
      go_ret
      exact ⟨by rw [HR.out]; rfl, rfl⟩
    · have HR := Lib.hid (show fitL ⟨6, n⟩ = false by simp [fitL, h0])
      go_enter Try.func89, Try.ntmps89
      go_wp2
      go_ret
      exact ⟨by rw [HR.out]; exact congrArg (fun b => Ending.returned (.bool b)) (show (n == 0) = false by simpa using h0), rfl⟩
  cN := fun w => by
    go_enter Try.func91, Try.ntmps91
    go_wp2
    go_ret
    exact ⟨rfl, rfl⟩
  cT := fun w => by
    go_enter Try.func92, Try.ntmps92
    go_wp2
    go_ret
    exact ⟨rfl, rfl⟩

theorem isL_cases {k : Int} (h : isL k = true) : k = 1 ∨ k = 2 ∨ k = 3 ∨ k = 4 ∨ k = 5 ∨ k = 6 := by
  simp only [isL, decide_eq_true_eq] at h
  omega
theorem stp_of (x : Lc) (h : isL x.k = true) : ∃ fF fN fT, sv x = .iface (tyL x.k) (.int .i64 x.n) ∧ Stp x (tyL x.k) fF (fnL x.k) fN fT := by
  obtain ⟨k, n⟩ := x
  have hs : sv ⟨k, n⟩ = .iface (tyL k) (.int .i64 n) := if_pos h
  rcases isL_cases h with rfl | rfl | rfl | rfl | rfl | rfl
  · exact ⟨_, _, _, hs, stp_num n⟩
  · exact ⟨_, _, _, hs, stp_reg n⟩
  · exact ⟨_, _, _, hs, stp_base n⟩
  · exact ⟨_, _, _, hs, stp_word n⟩
  · exact ⟨_, _, _, hs, stp_add n⟩
  · exact ⟨_, _, _, hs, stp_neg n⟩

def OfR (x : Lc) (w : World) (e : Ending) (w' : World) : Prop := e = .returned (.tuple #[sv x, .bool (isL x.k)]) ∧ Below w.heap.size w w'
set_option maxRecDepth 100000 in
theorem of_any (x : Lc) (w : World) : Calls Try.prog 34 #[.agg #[.int .u8 x.k, .int .i64 x.n]] w (OfR x w) := by
  obtain ⟨k, n⟩ := x
  have hb := Lib.hid (below_lnew w (.cells #[.int .u8 k, .int .i64 n] 48))
  by_cases h1 : k = 1
  · subst h1
    go_enter Try.func34, Try.ntmps34
    go_wp2
    go_ret2
    exact ⟨rfl, hb.out⟩
  by_cases h2 : k = 2
  · subst h2
    go_enter Try.func34, Try.ntmps34
    go_wp2
    go_ret2
    exact ⟨rfl, hb.out⟩
  by_cases h3 : k = 3
  · subst h3
    go_enter Try.func34, Try.ntmps34
    go_wp2
    go_ret2
    exact ⟨rfl, hb.out⟩
  by_cases h4 : k = 4
  · subst h4
    go_enter Try.func34, Try.ntmps34
    go_wp2
    go_ret2
    exact ⟨rfl, hb.out⟩
  by_cases h5 : k = 5
  · subst h5
    go_enter Try.func34, Try.ntmps34
    go_wp2
    go_ret2
    exact ⟨rfl, hb.out⟩
  by_cases h6 : k = 6
  · subst h6
    go_enter Try.func34, Try.ntmps34
    go_wp2
    go_ret2
    exact ⟨rfl, hb.out⟩
  have hN := Lib.hid (show isL k = false by simp [isL]; omega)
  have hs := Lib.hid (show sv ⟨k, n⟩ = .nilIface by unfold sv; rw [hN.out]; rfl)
  go_enter Try.func34, Try.ntmps34
  go_wp2
  go_ret2
  exact ⟨by rw [hs.out, hN.out]; rfl, hb.out⟩
end Go.Proofs.Ytdnpoeegefkoiaa
