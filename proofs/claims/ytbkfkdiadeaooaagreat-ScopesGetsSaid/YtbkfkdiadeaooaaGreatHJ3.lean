/-
  Merged for a claim: E6B, S6C.
-/
import Derived.Test.YtbkfkdiadeaooaaGreatHJ1
import Derived.Test.YtbkfkdiadeaooaaGreatHJ2
import Derived.Test.YtbkfkdiadeaooaaGreatHJ0
import Derived.OwnWalk
namespace Go.Proofs.YtbkfkdiadeaooaaGreat
open Go Go.RowKit

/-- is the number among the bytes? -/
def nmb (k : Int) : Bool := decide (k = 1 ∨ k = 2 ∨ k = 3)
/-- how many numbers a step takes -/
def tk (k : Int) : Nat := if k = 4 ∨ k = 6 then 1 else if k = 5 then 2 else 0
def isL (k : Int) : Bool := decide (1 ≤ k ∧ k ≤ 6)
def fitL (x : Lc) : Bool := if x.k = 1 ∨ x.k = 3 then true else if x.k = 2 then decide (0 ≤ x.n ∧ x.n < 16) else decide (x.n = 0)
/-- may the step stand where so many numbers lie? -/
def mayL (d : Nat) (x : Lc) : Prop := isL x.k = true ∧ fitL x = true ∧ tk x.k ≤ d ∧ d + 1 - tk x.k ≤ 8
instance (d : Nat) (x : Lc) : Decidable (mayL d x) := by unfold mayL; infer_instance
def deep : Nat → List Lc → Option Nat
  | d, [] => some d
  | d, x :: l => if mayL d x then deep (d + 1 - tk x.k) l else none
def rightC (l : List Lc) : Bool := decide (l.length ≤ 16) && (decide (l.length = 0) || decide (deep 0 l = some 1))

theorem tk_le (k : Int) : tk k ≤ 2 := by unfold tk; split; · omega
                                         split <;> omega
theorem deep_nil (d : Nat) : deep d [] = some d := rfl
theorem deep_yes {d : Nat} {x : Lc} {l : List Lc} (h : mayL d x) : deep d (x :: l) = deep (d + 1 - tk x.k) l := if_pos h
theorem deep_no {d : Nat} {x : Lc} {l : List Lc} (h : ¬ mayL d x) : deep d (x :: l) = none := if_neg h
theorem deep_at {l : List Lc} {k : Nat} {d : Nat} (hk : k < l.length) (h : mayL d l[k]) : deep d (l.drop k) = deep (d + 1 - tk l[k].k) (l.drop (k + 1)) := by
  rw [List.drop_eq_getElem_cons hk, deep_yes h]
theorem deep_out {l : List Lc} {k : Nat} {d : Nat} (hk : k < l.length) (h : ¬ mayL d l[k]) : deep d (l.drop k) = none := by
  rw [List.drop_eq_getElem_cons hk, deep_no h]
theorem deep_mem : ∀ (l : List Lc) (d e : Nat), deep d l = some e → ∀ x ∈ l, isL x.k = true ∧ fitL x = true
  | [], _, _, _, x, hx => absurd hx (by simp)
  | y :: l, d, e, h, x, hx => by
    by_cases hm : mayL d y
    · rw [deep_yes hm] at h
      rcases List.mem_cons.1 hx with rfl | hx
      · exact ⟨hm.1, hm.2.1⟩
      · exact deep_mem l _ e h x hx
    · rw [deep_no hm] at h; cases h
theorem right_len {l : List Lc} (h : rightC l = true) : l.length ≤ 16 := by
  simp only [rightC, Bool.and_eq_true, decide_eq_true_eq] at h
  exact h.1
theorem right_deep {l : List Lc} (h : rightC l = true) : ∃ e, deep 0 l = some e := by
  simp only [rightC, Bool.and_eq_true, Bool.or_eq_true, decide_eq_true_eq] at h
  rcases h.2 with h0 | h1
  · rw [List.eq_nil_of_length_eq_zero h0]; exact ⟨0, rfl⟩
  · exact ⟨1, h1⟩
theorem right_mem {l : List Lc} (h : rightC l = true) : ∀ x ∈ l, isL x.k = true ∧ fitL x = true := by
  obtain ⟨e, he⟩ := right_deep h
  exact deep_mem l 0 e he
theorem right_big {l : List Lc} (h : 16 < l.length) : rightC l = false := by unfold rightC; rw [decide_eq_false (by omega)]; rfl
theorem right_none {l : List Lc} (h : deep 0 l = none) : rightC l = false := by
  cases l with
  | nil => cases h
  | cons x l => unfold rightC; rw [h]; simp
theorem right_end {l : List Lc} {d : Nat} (hn : l.length ≤ 16) (h : deep 0 l = some d) : rightC l = decide (l.length = 0 ∨ d = 1) := by
  unfold rightC; rw [h, decide_eq_true hn, Bool.true_and]; simp
theorem right_odd {l : List Lc} {x : Lc} (hx : x ∈ l) (h : isL x.k = false) : rightC l = false := by
  cases hr : rightC l with
  | false => rfl
  | true => rw [(right_mem hr x hx).1] at h; cases h

/-- a step's bytes -/
def encL (x : Lc) : List UInt8 := UInt8.ofNat x.k.toNat :: if nmb x.k = true then nB true x.n else []
def ownC (l : List Lc) : List UInt8 := nB false l.length ++ l.flatMap encL
theorem encL_len (x : Lc) : 1 ≤ (encL x).length ∧ (encL x).length ≤ 11 := by
  have h1 := size_pos true x.n
  have h2 := size_le true x.n
  unfold encL
  split
  · simp [nB_len]; omega
  · simp
theorem flat_len (l : List Lc) : (l.flatMap encL).length ≤ 11 * l.length := by
  induction l with
  | nil => simp
  | cons x l ih =>
    have := (encL_len x).2
    simp only [List.flatMap_cons, List.length_append, List.length_cons]
    omega
theorem ownC_len (l : List Lc) : 1 ≤ (ownC l).length ∧ (ownC l).length ≤ 10 + 11 * l.length := by
  have h1 := size_pos false l.length
  have h2 := size_le false l.length
  have h3 := flat_len l
  unfold ownC
  rw [List.length_append, nB_len]
  omega

/-- the step that bytes begin with, of whatever kind -/
def rdO : List UInt8 → Option (Lc × Nat)
  | [] => none
  | c :: t => if nmb c.toNat = true then (if good true t then some (⟨c.toNat, hv true t⟩, lg t 10 + 1) else none) else some (⟨c.toNat, 0⟩, 1)
theorem rdO_cons (c : UInt8) (t : List UInt8) : rdO (c :: t) = if nmb c.toNat = true then (if good true t then some (⟨c.toNat, hv true t⟩, lg t 10 + 1) else none) else some (⟨c.toNat, 0⟩, 1) := rfl
def rdM : Nat → List UInt8 → Option (List Lc × Nat)
  | 0, _ => some ([], 0)
  | m + 1, r => (rdO r).bind fun p => (rdM m (r.drop p.2)).map fun q => (p.1 :: q.1, p.2 + q.2)
theorem good_u8 (c : UInt8) : c.toNat < 256 := c.toNat_lt
theorem hv_rng {b : Bool} {r : List UInt8} (h : good b r) : rng b (hv b r) := by
  obtain ⟨h1, h2, _, _⟩ := lg_has 10 r h.1
  have hb := sm_bound (r.take (lg r 10))
  have hl : (r.take (lg r 10)).length = lg r 10 := by simp; omega
  rw [hl] at hb
  exact val_rng hb.1 hb.2 (by have := h.1; omega) h1
theorem rdO_rng {r : List UInt8} {x : Lc} {n : Nat} (h : rdO r = some (x, n)) : x.Rng ∧ 1 ≤ n ∧ n ≤ r.length := by
  cases r with
  | nil => cases h
  | cons c t =>
    have hc := good_u8 c
    rw [rdO_cons] at h
    split at h
    · split at h
      · rename_i hg
        simp only [Option.some.injEq, Prod.mk.injEq] at h
        obtain ⟨rfl, rfl⟩ := h
        have hr := hv_rng hg
        obtain ⟨h1, h2, _, _⟩ := lg_has 10 t hg.1
        simp only [rng, if_true] at hr
        exact ⟨⟨⟨by simp only; omega, by simp only; omega⟩, hr⟩, by omega, by simp; omega⟩
      · cases h
    · simp only [Option.some.injEq, Prod.mk.injEq] at h
      obtain ⟨rfl, rfl⟩ := h
      exact ⟨⟨⟨by simp only; omega, by simp only; omega⟩, by simp only; omega, by simp only; omega⟩, by omega, by simp⟩
theorem rdM_zero (r : List UInt8) : rdM 0 r = some ([], 0) := rfl
theorem rdM_none {m : Nat} {r : List UInt8} (h : rdO r = none) : rdM (m + 1) r = none := by simp [rdM, h]
theorem rdM_some {m : Nat} {r : List UInt8} {x : Lc} {n : Nat} (h : rdO r = some (x, n)) : rdM (m + 1) r = (rdM m (r.drop n)).map fun q => (x :: q.1, n + q.2) := by simp [rdM, h]
theorem rdO_take {r : List UInt8} {x : Lc} {n : Nat} (h : rdO r = some (x, n)) : r.take n = encL x := by
  cases r with
  | nil => cases h
  | cons c t =>
    rw [rdO_cons] at h
    split at h
    · rename_i hn
      split at h
      · rename_i hg
        simp only [Option.some.injEq, Prod.mk.injEq] at h
        obtain ⟨rfl, rfl⟩ := h
        unfold encL
        rw [if_pos hn, List.take_succ_cons, good_take hg]
        simp
      · cases h
    · rename_i hn
      simp only [Option.some.injEq, Prod.mk.injEq] at h
      obtain ⟨rfl, rfl⟩ := h
      unfold encL
      rw [if_neg hn]
      simp
theorem rdM_take : ∀ (m : Nat) (r : List UInt8) (l : List Lc) (k : Nat), rdM m r = some (l, k) → l.length = m ∧ k ≤ r.length ∧ r.take k = l.flatMap encL ∧ ∀ x ∈ l, x.Rng
  | 0, r, l, k, h => by
    simp only [rdM, Option.some.injEq, Prod.mk.injEq] at h
    obtain ⟨rfl, rfl⟩ := h
    simp
  | m + 1, r, l, k, h => by
    cases ho : rdO r with
    | none => rw [rdM_none ho] at h; cases h
    | some p =>
      obtain ⟨x, n⟩ := p
      rw [rdM_some ho] at h
      cases hq : rdM m (r.drop n) with
      | none => rw [hq] at h; cases h
      | some q =>
        obtain ⟨l', k'⟩ := q
        rw [hq] at h
        simp only [Option.map_some, Option.some.injEq, Prod.mk.injEq] at h
        obtain ⟨rfl, rfl⟩ := h
        obtain ⟨h1, h2, h3, h4⟩ := rdM_take m _ _ _ hq
        obtain ⟨g1, g2, g3⟩ := rdO_rng ho
        simp at h2
        refine ⟨by simp [h1], by omega, ?_, fun y hy => ?_⟩
        · rw [List.flatMap_cons, ← h3, ← rdO_take ho, List.take_add]
        · rcases List.mem_cons.1 hy with rfl | hy
          · exact g1
          · exact h4 y hy
end Go.Proofs.YtbkfkdiadeaooaaGreat

namespace Go.Proofs.YtbkfkdiadeaooaaGreat
open Go Go.RowKit

/-- how a step's methods are reached: its type, its functions -/
structure Stp (x : Lc) (T fF fL fN fT : Nat) : Prop where
  mF : ∀ w, (method 292 T (.int .i64 x.n) "theodolite/expr.fits").run Tryz.prog w = .ok (fF, .int .i64 x.n) w
  mL : True
  mN : ∀ w, (method 292 T (.int .i64 x.n) "theodolite/expr.numbered").run Tryz.prog w = .ok (fN, .int .i64 x.n) w
  mT : ∀ w, (method 292 T (.int .i64 x.n) "theodolite/expr.takes").run Tryz.prog w = .ok (fT, .int .i64 x.n) w
  nA : ∀ w, (nilAhead 292 T (.int .i64 x.n) "theodolite/expr.lays").run Tryz.prog w = .ok (some false) w
  eF : ∀ args w, (callFunc fF args).run Tryz.prog w = .ok (.enter fF args) w
  eL : True
  eN : ∀ args w, (callFunc fN args).run Tryz.prog w = .ok (.enter fN args) w
  eT : ∀ args w, (callFunc fT args).run Tryz.prog w = .ok (.enter fT args) w
  cF : ∀ w, Calls Tryz.prog fF #[.int .i64 x.n] w fun e w' => e = .returned (.bool (fitL x)) ∧ w = w'
  cN : ∀ w, Calls Tryz.prog fN #[.int .i64 x.n] w fun e w' => e = .returned (.bool (nmb x.k)) ∧ w = w'
  cT : ∀ w, Calls Tryz.prog fT #[.int .i64 x.n] w fun e w' => e = .returned (.int .i64 (tk x.k)) ∧ w = w'

theorem run_enterC {f : FuncId} {fn : Func} (hf : Tryz.prog.funcs[f]? = some fn) (hn : (fn.name == "runtime.NumGoroutine") = false) (hb : fn.body.isNone = false) (args : Array Value) (w : World) : (callFunc f args).run Tryz.prog w = .ok (.enter f args) w := by
  have hn' : ¬ fn.name = "runtime.NumGoroutine" := by simpa using hn
  have hb' : ¬ fn.body = none := fun h => by rw [h] at hb; cases hb
  simp [callFunc, hf, hn', hb', go_sem]

/-- the value of a step -/
def tyL (k : Int) : Nat := if k = 1 then 163 else if k = 2 then 164 else if k = 3 then 165 else if k = 4 then 166 else if k = 5 then 167 else 168
def fnL (k : Int) : Nat := if k = 1 then 132 else if k = 2 then 136 else if k = 3 then 140 else if k = 4 then 144 else if k = 5 then 148 else 152
def sv (x : Lc) : Value := if isL x.k = true then .iface (tyL x.k) (.int .i64 x.n) else .nilIface

theorem stp_num (n : Int) : Stp ⟨1, n⟩ 163 131 132 133 134 where
  mF := fun w => by kernel_rfl
  mL := trivial
  mN := fun w => by kernel_rfl
  mT := fun w => by kernel_rfl
  nA := fun w => by kernel_rfl
  eF := run_enterC Tryz.func131 (by kernel_rfl) (by kernel_rfl)
  eL := trivial
  eN := run_enterC Tryz.func133 (by kernel_rfl) (by kernel_rfl)
  eT := run_enterC Tryz.func134 (by kernel_rfl) (by kernel_rfl)
  cF := fun w => by
    go_enter Tryz.func131, Tryz.ntmps131
    go_wp2
    go_ret
    exact ⟨rfl, rfl⟩
  cN := fun w => by
    go_enter Tryz.func133, Tryz.ntmps133
    go_wp2
    go_ret
    exact ⟨rfl, rfl⟩
  cT := fun w => by
    go_enter Tryz.func134, Tryz.ntmps134
    go_wp2
    go_ret
    exact ⟨rfl, rfl⟩

theorem stp_reg (n : Int) : Stp ⟨2, n⟩ 164 135 136 137 138 where
  mF := fun w => by kernel_rfl
  mL := trivial
  mN := fun w => by kernel_rfl
  mT := fun w => by kernel_rfl
  nA := fun w => by kernel_rfl
  eF := run_enterC Tryz.func135 (by kernel_rfl) (by kernel_rfl)
  eL := trivial
  eN := run_enterC Tryz.func137 (by kernel_rfl) (by kernel_rfl)
  eT := run_enterC Tryz.func138 (by kernel_rfl) (by kernel_rfl)
  cF := fun w => by
    by_cases h0 : 0 ≤ n
    · by_cases h1 : n < 16
      · have HR := Lib.hid (show fitL ⟨2, n⟩ = true by simp [fitL, h0, h1])
        go_enter Tryz.func135, Tryz.ntmps135
        go_wp2
        go_ret
        exact ⟨by rw [HR.out]; rfl, rfl⟩
      · have HR := Lib.hid (show fitL ⟨2, n⟩ = false by simp [fitL]; omega)
        go_enter Tryz.func135, Tryz.ntmps135
        go_wp2
        go_ret
        exact ⟨by rw [HR.out]; rfl, rfl⟩
    · have HR := Lib.hid (show fitL ⟨2, n⟩ = false by simp [fitL]; omega)
      go_enter Tryz.func135, Tryz.ntmps135
      go_wp2
      go_ret
      exact ⟨by rw [HR.out]; rfl, rfl⟩
  cN := fun w => by
    go_enter Tryz.func137, Tryz.ntmps137
    go_wp2
    go_ret
    exact ⟨rfl, rfl⟩
  cT := fun w => by
    go_enter Tryz.func138, Tryz.ntmps138
    go_wp2
    go_ret
    exact ⟨rfl, rfl⟩

theorem stp_base (n : Int) : Stp ⟨3, n⟩ 165 139 140 141 142 where
  mF := fun w => by kernel_rfl
  mL := trivial
  mN := fun w => by kernel_rfl
  mT := fun w => by kernel_rfl
  nA := fun w => by kernel_rfl
  eF := run_enterC Tryz.func139 (by kernel_rfl) (by kernel_rfl)
  eL := trivial
  eN := run_enterC Tryz.func141 (by kernel_rfl) (by kernel_rfl)
  eT := run_enterC Tryz.func142 (by kernel_rfl) (by kernel_rfl)
  cF := fun w => by
    go_enter Tryz.func139, Tryz.ntmps139
    go_wp2
    go_ret
    exact ⟨rfl, rfl⟩
  cN := fun w => by
    go_enter Tryz.func141, Tryz.ntmps141
    go_wp2
    go_ret
    exact ⟨rfl, rfl⟩
  cT := fun w => by
    go_enter Tryz.func142, Tryz.ntmps142
    go_wp2
    go_ret
    exact ⟨rfl, rfl⟩

theorem stp_word (n : Int) : Stp ⟨4, n⟩ 166 143 144 145 146 where
  mF := fun w => by kernel_rfl
  mL := trivial
  mN := fun w => by kernel_rfl
  mT := fun w => by kernel_rfl
  nA := fun w => by kernel_rfl
  eF := run_enterC Tryz.func143 (by kernel_rfl) (by kernel_rfl)
  eL := trivial
  eN := run_enterC Tryz.func145 (by kernel_rfl) (by kernel_rfl)
  eT := run_enterC Tryz.func146 (by kernel_rfl) (by kernel_rfl)
  cF := fun w => by
    by_cases h0 : n = 0
    · have HR := Lib.hid (show fitL ⟨4, n⟩ = true by simp [fitL, h0])
      subst h0
      go_enter Tryz.func143, Tryz.ntmps143
      go_wp2
      go_ret
      exact ⟨by rw [HR.out]; rfl, rfl⟩
    · have HR := Lib.hid (show fitL ⟨4, n⟩ = false by simp [fitL, h0])
      go_enter Tryz.func143, Tryz.ntmps143
      go_wp2
      go_ret
      exact ⟨by rw [HR.out]; exact congrArg (fun b => Ending.returned (.bool b)) (show (n == 0) = false by simpa using h0), rfl⟩
  cN := fun w => by
    go_enter Tryz.func145, Tryz.ntmps145
    go_wp2
    go_ret
    exact ⟨rfl, rfl⟩
  cT := fun w => by
    go_enter Tryz.func146, Tryz.ntmps146
    go_wp2
    go_ret
    exact ⟨rfl, rfl⟩

theorem stp_add (n : Int) : Stp ⟨5, n⟩ 167 147 148 149 150 where
  mF := fun w => by kernel_rfl
  mL := trivial
  mN := fun w => by kernel_rfl
  mT := fun w => by kernel_rfl
  nA := fun w => by kernel_rfl
  eF := run_enterC Tryz.func147 (by kernel_rfl) (by kernel_rfl)
  eL := trivial
  eN := run_enterC Tryz.func149 (by kernel_rfl) (by kernel_rfl)
  eT := run_enterC Tryz.func150 (by kernel_rfl) (by kernel_rfl)
  cF := fun w => by
    by_cases h0 : n = 0
    · have HR := Lib.hid (show fitL ⟨5, n⟩ = true by simp [fitL, h0])
      subst h0
      go_enter Tryz.func147, Tryz.ntmps147
      go_wp2
      go_ret
      exact ⟨by rw [HR.out]; rfl, rfl⟩
    · have HR := Lib.hid (show fitL ⟨5, n⟩ = false by simp [fitL, h0])
      go_enter Tryz.func147, Tryz.ntmps147
      go_wp2
      go_ret
      exact ⟨by rw [HR.out]; exact congrArg (fun b => Ending.returned (.bool b)) (show (n == 0) = false by simpa using h0), rfl⟩
  cN := fun w => by
    go_enter Tryz.func149, Tryz.ntmps149
    go_wp2
    go_ret
    exact ⟨rfl, rfl⟩
  cT := fun w => by
    go_enter Tryz.func150, Tryz.ntmps150
    go_wp2
    go_ret
    exact ⟨rfl, rfl⟩

theorem stp_neg (n : Int) : Stp ⟨6, n⟩ 168 151 152 153 154 where
  mF := fun w => by kernel_rfl
  mL := trivial
  mN := fun w => by kernel_rfl
  mT := fun w => by kernel_rfl
  nA := fun w => by kernel_rfl
  eF := run_enterC Tryz.func151 (by kernel_rfl) (by kernel_rfl)
  eL := trivial
  eN := run_enterC Tryz.func153 (by kernel_rfl) (by kernel_rfl)
  eT := run_enterC Tryz.func154 (by kernel_rfl) (by kernel_rfl)
  cF := fun w => by
    by_cases h0 : n = 0
    · have HR := Lib.hid (show fitL ⟨6, n⟩ = true by simp [fitL, h0])
      subst h0
      go_enter Tryz.func151, Tryz.ntmps151
      go_wp2
      go_ret
      exact ⟨by rw [HR.out]; rfl, rfl⟩
    · have HR := Lib.hid (show fitL ⟨6, n⟩ = false by simp [fitL, h0])
      go_enter Tryz.func151, Tryz.ntmps151
      go_wp2
      go_ret
      exact ⟨by rw [HR.out]; exact congrArg (fun b => Ending.returned (.bool b)) (show (n == 0) = false by simpa using h0), rfl⟩
  cN := fun w => by
    go_enter Tryz.func153, Tryz.ntmps153
    go_wp2
    go_ret
    exact ⟨rfl, rfl⟩
  cT := fun w => by
    go_enter Tryz.func154, Tryz.ntmps154
    go_wp2
    go_ret
    exact ⟨rfl, rfl⟩

theorem isL_cases {k : Int} (h : isL k = true) : k = 1 ∨ k = 2 ∨ k = 3 ∨ k = 4 ∨ k = 5 ∨ k = 6 := by
  simp only [isL, decide_eq_true_eq] at h
  omega
theorem stp_of (x : Lc) (h : isL x.k = true) : ∃ fF fN fT, sv x = .iface (tyL x.k) (.int .i64 x.n) ∧ Stp x (tyL x.k) fF (fnL x.k) fN fT := by
  obtain ⟨k, n⟩ := x
  have hs : sv ⟨k, n⟩ = .iface (tyL k) (.int .i64 n) := if_pos h
  rcases isL_cases h with rfl | rfl | rfl | rfl | rfl | rfl
  · exact ⟨_, _, _, hs, stp_num n⟩
  · exact ⟨_, _, _, hs, stp_reg n⟩
  · exact ⟨_, _, _, hs, stp_base n⟩
  · exact ⟨_, _, _, hs, stp_word n⟩
  · exact ⟨_, _, _, hs, stp_add n⟩
  · exact ⟨_, _, _, hs, stp_neg n⟩

def OfR (x : Lc) (w : World) (e : Ending) (w' : World) : Prop := e = .returned (.tuple #[sv x, .bool (isL x.k)]) ∧ Below w.heap.size w w'
set_option maxRecDepth 100000 in
theorem of_any (x : Lc) (w : World) : Calls Tryz.prog 106 #[.agg #[.int .u8 x.k, .int .i64 x.n]] w (OfR x w) := by
  obtain ⟨k, n⟩ := x
  have hb := Lib.hid (below_lnew w (.cells #[.int .u8 k, .int .i64 n] 74))
  by_cases h1 : k = 1
  · subst h1
    go_enter Tryz.func106, Tryz.ntmps106
    go_wp2
    go_ret2
    exact ⟨rfl, hb.out⟩
  by_cases h2 : k = 2
  · subst h2
    go_enter Tryz.func106, Tryz.ntmps106
    go_wp2
    go_ret2
    exact ⟨rfl, hb.out⟩
  by_cases h3 : k = 3
  · subst h3
    go_enter Tryz.func106, Tryz.ntmps106
    go_wp2
    go_ret2
    exact ⟨rfl, hb.out⟩
  by_cases h4 : k = 4
  · subst h4
    go_enter Tryz.func106, Tryz.ntmps106
    go_wp2
    go_ret2
    exact ⟨rfl, hb.out⟩
  by_cases h5 : k = 5
  · subst h5
    go_enter Tryz.func106, Tryz.ntmps106
    go_wp2
    go_ret2
    exact ⟨rfl, hb.out⟩
  by_cases h6 : k = 6
  · subst h6
    go_enter Tryz.func106, Tryz.ntmps106
    go_wp2
    go_ret2
    exact ⟨rfl, hb.out⟩
  have hN := Lib.hid (show isL k = false by simp [isL]; omega)
  have hs := Lib.hid (show sv ⟨k, n⟩ = .nilIface by unfold sv; rw [hN.out]; rfl)
  go_enter Tryz.func106, Tryz.ntmps106
  go_wp2
  go_ret2
  exact ⟨by rw [hs.out, hN.out]; rfl, hb.out⟩
end Go.Proofs.YtbkfkdiadeaooaaGreat
