/-
  Steps as values: each kind's type and methods; the contract of expr.of.
-/
import Derived.Test.YtggofdahnbchjaaE6B
import Derived.Test.YtggofdahnbchjaaKO
import Derived.OwnWalk
namespace Go.Proofs.Ytggofdahnbchjaa
open Go Go.RowKit

/-- how a step's methods are reached: its type, its functions -/
structure Stp (x : Lc) (T fF fL fN fT : Nat) : Prop where
  mF : ∀ w, (method 236 T (.int .i64 x.n) "theodolite/expr.fits").run Try.prog w = .ok (fF, .int .i64 x.n) w
  mL : True
  mN : ∀ w, (method 236 T (.int .i64 x.n) "theodolite/expr.numbered").run Try.prog w = .ok (fN, .int .i64 x.n) w
  mT : ∀ w, (method 236 T (.int .i64 x.n) "theodolite/expr.takes").run Try.prog w = .ok (fT, .int .i64 x.n) w
  nA : ∀ w, (nilAhead 236 T (.int .i64 x.n) "theodolite/expr.lays").run Try.prog w = .ok (some false) w
  eF : ∀ args w, (callFunc fF args).run Try.prog w = .ok (.enter fF args) w
  eL : True
  eN : ∀ args w, (callFunc fN args).run Try.prog w = .ok (.enter fN args) w
  eT : ∀ args w, (callFunc fT args).run Try.prog w = .ok (.enter fT args) w
  cF : ∀ w, Calls Try.prog fF #[.int .i64 x.n] w fun e w' => e = .returned (.bool (fitL x)) ∧ w = w'
  cN : ∀ w, Calls Try.prog fN #[.int .i64 x.n] w fun e w' => e = .returned (.bool (nmb x.k)) ∧ w = w'
  cT : ∀ w, Calls Try.prog fT #[.int .i64 x.n] w fun e w' => e = .returned (.int .i64 (tk x.k)) ∧ w = w'

theorem run_enterC {f : FuncId} {fn : Func} (hf : Try.prog.funcs[f]? = some fn) (hn : (fn.name == "runtime.NumGoroutine") = false) (hb : fn.body.isNone = false) (args : Array Value) (w : World) : (callFunc f args).run Try.prog w = .ok (.enter f args) w := by
  have hn' : ¬ fn.name = "runtime.NumGoroutine" := by simpa using hn
  have hb' : ¬ fn.body = none := fun h => by rw [h] at hb; cases hb
  simp [callFunc, hf, hn', hb', go_sem]

/-- the value of a step -/
def tyL (k : Int) : Nat := if k = 1 then 104 else if k = 2 then 105 else if k = 3 then 106 else if k = 4 then 107 else if k = 5 then 108 else 109
def fnL (k : Int) : Nat := if k = 1 then 99 else if k = 2 then 103 else if k = 3 then 107 else if k = 4 then 111 else if k = 5 then 115 else 119
def sv (x : Lc) : Value := if isL x.k = true then .iface (tyL x.k) (.int .i64 x.n) else .nilIface

theorem stp_num (n : Int) : Stp ⟨1, n⟩ 104 98 99 100 101 where
  mF := fun w => by kernel_rfl
  mL := trivial
  mN := fun w => by kernel_rfl
  mT := fun w => by kernel_rfl
  nA := fun w => by kernel_rfl
  eF := run_enterC Try.func98 (by kernel_rfl) (by kernel_rfl)
  eL := trivial
  eN := run_enterC Try.func100 (by kernel_rfl) (by kernel_rfl)
  eT := run_enterC Try.func101 (by kernel_rfl) (by kernel_rfl)
  cF := fun w => by
    go_enter Try.func98, Try.ntmps98
    go_wp2
    go_ret
    exact ⟨rfl, rfl⟩
  cN := fun w => by
    go_enter Try.func100, Try.ntmps100
    go_wp2
    go_ret
    exact ⟨rfl, rfl⟩
  cT := fun w => by
    go_enter Try.func101, Try.ntmps101
    go_wp2
    go_ret
    exact ⟨rfl, rfl⟩

theorem stp_reg (n : Int) : Stp ⟨2, n⟩ 105 102 103 104 105 where
  mF := fun w => by kernel_rfl
  mL := trivial
  mN := fun w => by kernel_rfl
  mT := fun w => by kernel_rfl
  nA := fun w => by kernel_rfl
  eF := run_enterC Try.func102 (by kernel_rfl) (by kernel_rfl)
  eL := trivial
  eN := run_enterC Try.func104 (by kernel_rfl) (by kernel_rfl)
  eT := run_enterC Try.func105 (by kernel_rfl) (by kernel_rfl)
  cF := fun w => by
    by_cases h0 : 0 ≤ n
    · by_cases h1 : n < 16
      · have HR := Lib.hid (show fitL ⟨2, n⟩ = true by simp [fitL, h0, h1])
        go_enter Try.func102, Try.ntmps102
        go_wp2
        go_ret
        exact ⟨by rw [HR.out]; rfl, rfl⟩
      · have HR := Lib.hid (show fitL ⟨2, n⟩ = false by simp [fitL]; omega)
        go_enter Try.func102, Try.ntmps102
        go_wp2
        go_ret
        exact ⟨by rw [HR.out]; rfl, rfl⟩
    · have HR := Lib.hid (show fitL ⟨2, n⟩ = false by simp [fitL]; omega)
      go_enter Try.func102, Try.ntmps102
      go_wp2
      go_ret
      exact ⟨by rw [HR.out]; rfl, rfl⟩
  cN := fun w => by
    go_enter Try.func104, Try.ntmps104
    go_wp2
    go_ret
    exact ⟨rfl, rfl⟩
  cT := fun w => by
    go_enter Try.func105, Try.ntmps105
    go_wp2
    go_ret
    exact ⟨rfl, rfl⟩

theorem stp_base (n : Int) : Stp ⟨3, n⟩ 106 106 107 108 109 where
  mF := fun w => by kernel_rfl
  mL := trivial
  mN := fun w => by kernel_rfl
  mT := fun w => by kernel_rfl
  nA := fun w => by kernel_rfl
  eF := run_enterC Try.func106 (by kernel_rfl) (by kernel_rfl)
  eL := trivial
  eN := run_enterC Try.func108 (by kernel_rfl) (by kernel_rfl)
  eT := run_enterC Try.func109 (by kernel_rfl) (by kernel_rfl)
  cF := fun w => by
    go_enter Try.func106, Try.ntmps106
    go_wp2
    go_ret
    exact ⟨rfl, rfl⟩
  cN := fun w => by
    go_enter Try.func108, Try.ntmps108
    go_wp2
    go_ret
    exact ⟨rfl, rfl⟩
  cT := fun w => by
    go_enter Try.func109, Try.ntmps109
    go_wp2
    go_ret
    exact ⟨rfl, rfl⟩

theorem stp_word (n : Int) : Stp ⟨4, n⟩ 107 110 111 112 113 where
  mF := fun w => by kernel_rfl
  mL := trivial
  mN := fun w => by kernel_rfl
  mT := fun w => by kernel_rfl
  nA := fun w => by kernel_rfl
  eF := run_enterC Try.func110 (by kernel_rfl) (by kernel_rfl)
  eL := trivial
  eN := run_enterC Try.func112 (by kernel_rfl) (by kernel_rfl)
  eT := run_enterC Try.func113 (by kernel_rfl) (by kernel_rfl)
  cF := fun w => by
    by_cases h0 : n = 0
    · have HR := Lib.hid (show fitL ⟨4, n⟩ = true by simp [fitL, h0])
      subst h0
      go_enter Try.func110, Try.ntmps110
      go_wp2
      go_ret
      exact ⟨by rw [HR.out]; rfl, rfl⟩
    · have HR := Lib.hid (show fitL ⟨4, n⟩ = false by simp [fitL, h0])
      go_enter Try.func110, Try.ntmps110
      go_wp2
      go_ret
      exact ⟨by rw [HR.out]; exact congrArg (fun b => Ending.returned (.bool b)) (show (n == 0) = false by simpa using h0), rfl⟩
  cN := fun w => by
    go_enter Try.func112, Try.ntmps112
    go_wp2
    go_ret
    exact ⟨rfl, rfl⟩
  cT := fun w => by
    go_enter Try.func113, Try.ntmps113
    go_wp2
    go_ret
    exact ⟨rfl, rfl⟩

theorem stp_add (n : Int) : Stp ⟨5, n⟩ 108 114 115 116 117 where
  mF := fun w => by kernel_rfl
  mL := trivial
  mN := fun w => by kernel_rfl
  mT := fun w => by kernel_rfl
  nA := fun w => by kernel_rfl
  eF := run_enterC Try.func114 (by kernel_rfl) (by kernel_rfl)
  eL := trivial
  eN := run_enterC Try.func116 (by kernel_rfl) (by kernel_rfl)
  eT := run_enterC Try.func117 (by kernel_rfl) (by kernel_rfl)
  cF := fun w => by
    by_cases h0 : n = 0
    · have HR := Lib.hid (show fitL ⟨5, n⟩ = true by simp [fitL, h0])
      subst h0
      go_enter Try.func114, Try.ntmps114
      go_wp2
      go_ret
      exact ⟨by rw [HR.out]; rfl, rfl⟩
    · have HR := Lib.hid (show fitL ⟨5, n⟩ = false by simp [fitL, h0])
      go_enter Try.func114, Try.ntmps114
      go_wp2
      go_ret
      exact ⟨by rw [HR.out]; exact congrArg (fun b => Ending.returned (.bool b)) (show (n == 0) = false by simpa using h0), rfl⟩
  cN := fun w => by
    go_enter Try.func116, Try.ntmps116
    go_wp2
    go_ret
    exact ⟨rfl, rfl⟩
  cT := fun w => by
    go_enter Try.func117, Try.ntmps117
    go_wp2
    go_ret
    exact ⟨rfl, rfl⟩

theorem stp_neg (n : Int) : Stp ⟨6, n⟩ 109 118 119 120 121 where
  mF := fun w => by kernel_rfl
  mL := trivial
  mN := fun w => by kernel_rfl
  mT := fun w => by kernel_rfl
  nA := fun w => by kernel_rfl
  eF := run_enterC Try.func118 (by kernel_rfl) (by kernel_rfl)
  eL := trivial
  eN := run_enterC Try.func120 (by kernel_rfl) (by kernel_rfl)
  eT := run_enterC Try.func121 (by kernel_rfl) (by kernel_rfl)
  cF := fun w => by
    by_cases h0 : n = 0
    · have HR := Lib.hid (show fitL ⟨6, n⟩ = true by simp [fitL, h0])
      subst h0
      go_enter Try.func118, Try.ntmps118
      go_wp2
      go_ret
      exact ⟨by rw [HR.out]; rfl, rfl⟩
    · have HR := Lib.hid (show fitL ⟨6, n⟩ = false by simp [fitL, h0])
      go_enter Try.func118, Try.ntmps118
      go_wp2
      go_ret
      exact ⟨by rw [HR.out]; exact congrArg (fun b => Ending.returned (.bool b)) (show (n == 0) = false by simpa using h0), rfl⟩
  cN := fun w => by
    go_enter Try.func120, Try.ntmps120
    go_wp2
    go_ret
    exact ⟨rfl, rfl⟩
  cT := fun w => by
    go_enter Try.func121, Try.ntmps121
    go_wp2
    go_ret
    exact ⟨rfl, rfl⟩

theorem isL_cases {k : Int} (h : isL k = true) : k = 1 ∨ k = 2 ∨ k = 3 ∨ k = 4 ∨ k = 5 ∨ k = 6 := by
  simp only [isL, decide_eq_true_eq] at h
  omega
theorem stp_of (x : Lc) (h : isL x.k = true) : ∃ fF fN fT, sv x = .iface (tyL x.k) (.int .i64 x.n) ∧ Stp x (tyL x.k) fF (fnL x.k) fN fT := by
  obtain ⟨k, n⟩ := x
  have hs : sv ⟨k, n⟩ = .iface (tyL k) (.int .i64 n) := if_pos h
  rcases isL_cases h with rfl | rfl | rfl | rfl | rfl | rfl
  · exact ⟨_, _, _, hs, stp_num n⟩
  · exact ⟨_, _, _, hs, stp_reg n⟩
  · exact ⟨_, _, _, hs, stp_base n⟩
  · exact ⟨_, _, _, hs, stp_word n⟩
  · exact ⟨_, _, _, hs, stp_add n⟩
  · exact ⟨_, _, _, hs, stp_neg n⟩

def OfR (x : Lc) (w : World) (e : Ending) (w' : World) : Prop := e = .returned (.tuple #[sv x, .bool (isL x.k)]) ∧ Below w.heap.size w w'
set_option maxRecDepth 100000 in
theorem of_any (x : Lc) (w : World) : Calls Try.prog 68 #[.agg #[.int .u8 x.k, .int .i64 x.n]] w (OfR x w) := by
  obtain ⟨k, n⟩ := x
  have hb := Lib.hid (below_lnew w (.cells #[.int .u8 k, .int .i64 n] 44))
  by_cases h1 : k = 1
  · subst h1
    go_enter Try.func68, Try.ntmps68
    go_wp2
    go_ret2
    exact ⟨rfl, hb.out⟩
  by_cases h2 : k = 2
  · subst h2
    go_enter Try.func68, Try.ntmps68
    go_wp2
    go_ret2
    exact ⟨rfl, hb.out⟩
  by_cases h3 : k = 3
  · subst h3
    go_enter Try.func68, Try.ntmps68
    go_wp2
    go_ret2
    exact ⟨rfl, hb.out⟩
  by_cases h4 : k = 4
  · subst h4
    go_enter Try.func68, Try.ntmps68
    go_wp2
    go_ret2
    exact ⟨rfl, hb.out⟩
  by_cases h5 : k = 5
  · subst h5
    go_enter Try.func68, Try.ntmps68
    go_wp2
    go_ret2
    exact ⟨rfl, hb.out⟩
  by_cases h6 : k = 6
  · subst h6
    go_enter Try.func68, Try.ntmps68
    go_wp2
    go_ret2
    exact ⟨rfl, hb.out⟩
  have hN := Lib.hid (show isL k = false by simp [isL]; omega)
  have hs := Lib.hid (show sv ⟨k, n⟩ = .nilIface by unfold sv; rw [hN.out]; rfl)
  go_enter Try.func68, Try.ntmps68
  go_wp2
  go_ret2
  exact ⟨by rw [hs.out, hN.out]; rfl, hb.out⟩
end Go.Proofs.Ytggofdahnbchjaa
