/-
  Merged for a claim: C4X.
-/
import Derived.Test.YtnffiaphpcopjaaFC4M
namespace Go.Proofs.Ytnffiaphpcopjaa
open Go Go.RowKit

def callI (t : Int) : Ins := ⟨12, 0, 0, 0, 0, t, 0⟩
def haltI : Ins := ⟨17, 0, 15, 0, 0, 0, 0⟩
def retI : Ins := ⟨13, 0, 0, 0, 0, 0, 0⟩
/-- the call, the halt and so many functions that call -/
def cf : Nat → List UInt8
  | 0 => ownB (callI 6) ++ ownB haltI
  | j + 1 => cf j ++ ownB (callI ((cf j).length + 5)) ++ ownB retI
def cfAll (k : Nat) : List UInt8 := cf k ++ ownB retI
theorem call_ok : ∀ t, t < 400 → rightB (callI ((t : Nat) : Int)) = true ∧ (ownB (callI ((t : Nat) : Int))).length = 4 := by decide +kernel
theorem call_len {t : Int} (h0 : 0 ≤ t) (h1 : t < 400) : (ownB (callI t)).length = 4 := by
  obtain ⟨n, rfl⟩ : ∃ n : Nat, t = n := ⟨t.toNat, by omega⟩
  exact (call_ok n (by omega)).2
theorem call_right {t : Int} (h0 : 0 ≤ t) (h1 : t < 400) : rightB (callI t) = true := by
  obtain ⟨n, rfl⟩ : ∃ n : Nat, t = n := ⟨t.toNat, by omega⟩
  exact (call_ok n (by omega)).1
theorem call_rng {t : Int} (h0 : 0 ≤ t) (h1 : t < 400) : (callI t).Rng := by constructor <;> simp only [callI] <;> omega
theorem halt_rng : haltI.Rng := by constructor <;> decide
theorem ret_rng : retI.Rng := by constructor <;> decide
theorem halt_ok : rightB haltI = true ∧ (ownB haltI).length = 2 := by decide +kernel
theorem ret_ok : rightB retI = true ∧ (ownB retI).length = 1 := by decide +kernel
theorem cf_len : ∀ j, j ≤ 60 → (cf j).length = 6 + 5 * j
  | 0, _ => by have := call_len (t := 6) (by decide) (by decide); have := halt_ok.2; simp only [cf, List.length_append]; omega
  | j + 1, h => by
    have h1 := cf_len j (by omega)
    have h2 := call_len (t := (cf j).length + 5) (by omega) (by omega)
    have h3 := ret_ok.2
    simp only [cf, List.length_append]
    omega
theorem cf_pre : ∀ (d j : Nat), cf j <+: cf (j + d)
  | 0, _ => List.prefix_refl _
  | d + 1, j => (cf_pre d j).trans (by rw [show j + (d + 1) = (j + d) + 1 by omega, cf, List.append_assoc]; exact List.prefix_append _ _)

/-- got at a place of a list -/
theorem got_at {l a t : List UInt8} {i : Ins} {q n : Nat} (e : l = a ++ (ownB i ++ t)) (ha : a.length = q) (hr : i.Rng) (h : rightB i = true) (hn : (ownB i).length = n) : gE l (q : Nat) = 0 ∧ gI l (q : Nat) = i ∧ gN l (q : Nat) = ((q + n : Nat) : Int) := by
  subst e
  have := get_put (l := a ++ (ownB i ++ t)) (k := q) hr h (by rw [← ha, List.drop_left]; exact List.prefix_append _ _) (by simp; omega)
  rw [hn] at this
  exact this

/-- where a function begins that was called so often -/
def pcC (j : Nat) : Nat := if j = 0 then 0 else 5 * j + 1
/-- the way back of a call -/
def bkC (j : Nat) : Nat := if j = 0 then 4 else 5 * j + 5
theorem cf_at {k j : Nat} (hj : j ≤ k) : ∃ t, cfAll k = cf j ++ t := by
  obtain ⟨t, ht⟩ := cf_pre (k - j) j
  rw [show j + (k - j) = k by omega] at ht
  exact ⟨t ++ ownB retI, by rw [cfAll, ← ht, List.append_assoc]⟩
theorem got_call {k j : Nat} (hk : k ≤ 59) (hj : j ≤ k) : gE (cfAll k) (pcC j : Nat) = 0 ∧ gI (cfAll k) (pcC j : Nat) = callI ((5 * j + 6 : Nat) : Int) ∧ gN (cfAll k) (pcC j : Nat) = (bkC j : Nat) := by
  obtain ⟨t, ht⟩ := cf_at hj
  cases j with
  | zero => exact got_at (a := []) (q := 0) (n := 4) (t := ownB haltI ++ t) (by rw [ht, cf]; simp) rfl (call_rng (by decide) (by decide)) (call_right (by decide) (by decide)) (call_len (by decide) (by decide))
  | succ i =>
    have hl := cf_len i (by omega)
    have e : ((cf i).length : Int) + 5 = ((5 * (i + 1) + 6 : Nat) : Int) := by omega
    have := got_at (l := cfAll k) (a := cf i) (q := 5 * (i + 1) + 1) (n := 4) (i := callI ((5 * (i + 1) + 6 : Nat) : Int)) (t := ownB retI ++ t) (by rw [ht, cf, e]; simp only [List.append_assoc]) (by omega) (call_rng (by omega) (by omega)) (call_right (by omega) (by omega)) (call_len (by omega) (by omega))
    rw [show pcC (i + 1) = 5 * (i + 1) + 1 from by simp [pcC], show bkC (i + 1) = 5 * (i + 1) + 1 + 4 from by simp [bkC]]
    exact this
theorem got_ret {k j : Nat} (hk : k ≤ 59) (h1 : 1 ≤ j) (hj : j ≤ k) : gE (cfAll k) (bkC j : Nat) = 0 ∧ gI (cfAll k) (bkC j : Nat) = retI := by
  obtain ⟨t, ht⟩ := cf_at hj
  obtain ⟨i, rfl⟩ : ∃ i, j = i + 1 := ⟨j - 1, by omega⟩
  have hl := cf_len i (by omega)
  have e : ((cf i).length : Int) + 5 = ((5 * (i + 1) + 6 : Nat) : Int) := by omega
  have hc := call_len (t := ((5 * (i + 1) + 6 : Nat) : Int)) (by omega) (by omega)
  have := got_at (l := cfAll k) (a := cf i ++ ownB (callI ((5 * (i + 1) + 6 : Nat) : Int))) (q := 5 * (i + 1) + 5) (n := 1) (i := retI) (t := t) (by rw [ht, cf, e]; simp only [List.append_assoc]) (by rw [List.length_append]; omega) ret_rng ret_ok.1 ret_ok.2
  have hb : bkC (i + 1) = 5 * (i + 1) + 5 := by simp [bkC]
  rw [hb]
  exact ⟨this.1, this.2.1⟩
theorem got_last {k : Nat} (hk : k ≤ 59) : gE (cfAll k) ((5 * k + 6 : Nat) : Int) = 0 ∧ gI (cfAll k) ((5 * k + 6 : Nat) : Int) = retI := by
  have hl := cf_len k (by omega)
  have := got_at (l := cfAll k) (a := cf k) (q := 5 * k + 6) (n := 1) (i := retI) (t := []) (by rw [cfAll, List.append_nil]) (by omega) ret_rng ret_ok.1 ret_ok.2
  exact ⟨this.1, this.2.1⟩
theorem got_halt {k : Nat} : gE (cfAll k) (4 : Nat) = 0 ∧ gI (cfAll k) (4 : Nat) = haltI := by
  obtain ⟨t, ht⟩ := cf_at (k := k) (j := 0) (by omega)
  have hc := call_len (t := 6) (by decide) (by decide)
  have := got_at (l := cfAll k) (a := ownB (callI 6)) (q := 4) (n := 2) (i := haltI) (t := t) (by rw [ht, cf]; simp only [List.append_assoc]) hc halt_rng halt_ok.1 halt_ok.2
  exact ⟨this.1, this.2.1⟩

/-- the words after so many calls -/
def wdC (n : Nat) : Nat → List Int
  | 0 => List.replicate n 0
  | j + 1 => (wdC n j).set (n - 1 - j) (bkC j)
theorem wdC_len (n : Nat) : ∀ j, (wdC n j).length = n
  | 0 => by simp [wdC]
  | j + 1 => by simp [wdC, wdC_len n j]
theorem wdC_get {n : Nat} : ∀ {j q : Nat}, j ≤ n → q < j → (wdC n j).getD (n - 1 - q) 0 = (bkC q : Nat)
  | 0, q, _, h => absurd h (by omega)
  | j + 1, q, hj, h => by
    have hl := wdC_len n j
    by_cases hq : q = j
    · subst hq
      simp [wdC, List.getD, hl, show n - 1 - q < n by omega]
    · have ih := wdC_get (n := n) (j := j) (q := q) (by omega) (by omega)
      rw [← ih]
      simp only [wdC, List.getD]
      rw [List.getElem?_set_ne (by omega)]
/-- the machine after so many calls; it stands at a place, with so much on the stack -/
def cM (k n : Nat) (pc : Nat) (top : Int) (j : Nat) (how num : Int) : Mc := ⟨cfAll k, pc, List.replicate 15 0 ++ [top], wdC n j, [], [], how, num⟩
section
variable {k n : Nat}
theorem w64 (x : Int) (h : -9223372036854775808 ≤ x ∧ x ≤ 9223372036854775807) : wrap64 x = x := by unfold wrap64; omega
theorem rg15 (pc : Nat) (top : Int) (j : Nat) (h x : Int) : rg (cM k n pc top j h x) 15 = top := rfl
theorem cM_call {j : Nat} (hk : k ≤ 59) (hj : j ≤ k) (hn : n ≤ 40) (hjn : j < n) : doM (cM k n (pcC j) ((n : Int) - j) j 0 0) = cM k n (pcC (j + 1)) ((n : Int) - (j + 1 : Nat)) (j + 1) 0 0 := by
  obtain ⟨h1, h2, h3⟩ := got_call hk hj
  have hw : wrap64 ((n : Int) - j - 1) = ((n - 1 - j : Nat) : Int) := by rw [w64 _ (by omega)]; omega
  have he : endOf (cM k n (pcC j) ((n : Int) - j) j 0 0) (callI ((5 * j + 6 : Nat) : Int)) = none := by
    show (if wrap64 (rg (cM k n (pcC j) ((n : Int) - j) j 0 0) 15 - 1) < 0 then some (7, 0) else if hasW (cM k n (pcC j) ((n : Int) - j) j 0 0) (wrap64 (rg (cM k n (pcC j) ((n : Int) - j) j 0 0) 15 - 1)) then none else some (6, 0)) = none
    rw [rg15, hw, if_neg (by omega), if_pos]
    exact decide_eq_true ⟨by omega, by show _ < ((wdC n j).length : Int); rw [wdC_len]; omega⟩
  unfold doM
  rw [show (cM k n (pcC j) ((n : Int) - j) j 0 0).code = cfAll k from rfl, show (cM k n (pcC j) ((n : Int) - j) j 0 0).pc = ((pcC j : Nat) : Int) from rfl, if_pos h1, h2, h3, he]
  show ({ setR (setW (cM k n (pcC j) ((n : Int) - j) j 0 0) (wrap64 (rg (cM k n (pcC j) ((n : Int) - j) j 0 0) 15 - 1)) (bkC j : Nat)) 15 (wrap64 (rg (cM k n (pcC j) ((n : Int) - j) j 0 0) 15 - 1)) with pc := ((5 * j + 6 : Nat) : Int) } : Mc) = _
  rw [rg15, hw]
  have hp : pcC (j + 1) = 5 * j + 6 := by simp [pcC]; omega
  rw [hp, show (n : Int) - (j + 1 : Nat) = ((n - 1 - j : Nat) : Int) by omega]
  rfl
theorem cM_full {j : Nat} (hk : k ≤ 59) (hj : j ≤ k) : doM (cM k n (pcC j) 0 j 0 0) = cM k n (pcC j) 0 j 7 0 := by
  obtain ⟨h1, h2, h3⟩ := got_call hk hj
  have he : endOf (cM k n (pcC j) 0 j 0 0) (callI ((5 * j + 6 : Nat) : Int)) = some (7, 0) := by
    show (if wrap64 (rg (cM k n (pcC j) 0 j 0 0) 15 - 1) < 0 then some (7, 0) else if hasW (cM k n (pcC j) 0 j 0 0) (wrap64 (rg (cM k n (pcC j) 0 j 0 0) 15 - 1)) then none else some (6, 0)) = some (7, 0)
    rw [rg15, if_pos (by rw [w64 _ (by omega)]; omega)]
  unfold doM
  rw [show (cM k n (pcC j) 0 j 0 0).code = cfAll k from rfl, show (cM k n (pcC j) 0 j 0 0).pc = ((pcC j : Nat) : Int) from rfl, if_pos h1, h2, h3, he]
  rfl
/-- a way back -/
theorem cM_ret {pc q J : Nat} (hg : gE (cfAll k) (pc : Nat) = 0 ∧ gI (cfAll k) (pc : Nat) = retI) (hJ : J ≤ n) (hn : n ≤ 40) (hq : q < J) (hb : q ≤ 60) : doM (cM k n pc ((n - 1 - q : Nat) : Int) J 0 0) = cM k n (bkC q) ((n - q : Nat) : Int) J 0 0 := by
  obtain ⟨h1, h2⟩ := hg
  have hx : wd (cM k n pc ((n - 1 - q : Nat) : Int) J 0 0) ((n - 1 - q : Nat) : Int) = (bkC q : Nat) := wdC_get hJ hq
  have hbb : bkC q ≤ 400 := by unfold bkC; split <;> omega
  have he : endOf (cM k n pc ((n - 1 - q : Nat) : Int) J 0 0) retI = none := by
    show (if hasW (cM k n pc ((n - 1 - q : Nat) : Int) J 0 0) (rg (cM k n pc ((n - 1 - q : Nat) : Int) J 0 0) 15) then (if wd (cM k n pc ((n - 1 - q : Nat) : Int) J 0 0) (rg (cM k n pc ((n - 1 - q : Nat) : Int) J 0 0) 15) < 0 ∨ 16777216 ≤ wd (cM k n pc ((n - 1 - q : Nat) : Int) J 0 0) (rg (cM k n pc ((n - 1 - q : Nat) : Int) J 0 0) 15) then some (5, 0) else none) else some (6, 0)) = none
    rw [rg15, hx, if_pos, if_neg (by omega)]
    exact decide_eq_true ⟨by omega, by show _ < ((wdC n J).length : Int); rw [wdC_len]; omega⟩
  unfold doM
  rw [show (cM k n pc ((n - 1 - q : Nat) : Int) J 0 0).code = cfAll k from rfl, show (cM k n pc ((n - 1 - q : Nat) : Int) J 0 0).pc = ((pc : Nat) : Int) from rfl, if_pos h1, h2, he]
  show ({ setR (cM k n pc ((n - 1 - q : Nat) : Int) J 0 0) 15 (rg (cM k n pc ((n - 1 - q : Nat) : Int) J 0 0) 15 + 1) with pc := wd (cM k n pc ((n - 1 - q : Nat) : Int) J 0 0) (rg (cM k n pc ((n - 1 - q : Nat) : Int) J 0 0) 15) } : Mc) = _
  rw [rg15, hx, show ((n - 1 - q : Nat) : Int) + 1 = ((n - q : Nat) : Int) by omega]
  rfl
theorem cM_halt (top : Int) (J : Nat) : doM (cM k n 4 top J 0 0) = cM k n 4 top J 1 top := by
  obtain ⟨h1, h2⟩ := got_halt (k := k)
  have he : endOf (cM k n 4 top J 0 0) haltI = some (1, top) := rfl
  unfold doM
  rw [show (cM k n 4 top J 0 0).code = cfAll k from rfl, show (cM k n 4 top J 0 0).pc = ((4 : Nat) : Int) from rfl, if_pos h1, h2, he]
  rfl

theorem runM_go {m : Mc} (h : m.how = 0) (f : Nat) : runM (f + 1) m = runM f (doM m) := by rw [runM, if_pos h]
theorem run_calls {f : Nat} (hk : k ≤ 59) (hn : n ≤ 40) : ∀ j, j ≤ k + 1 → j ≤ n → runM (f + j) (cM k n 0 n 0 0 0) = runM f (cM k n (pcC j) ((n : Int) - j) j 0 0)
  | 0, _, _ => by simp [pcC]
  | j + 1, h1, h2 => by
    rw [show f + (j + 1) = (f + 1) + j by omega, run_calls (f := f + 1) hk hn j (by omega) (by omega), runM_go rfl, cM_call hk (by omega) hn (by omega)]
theorem run_rets {f J : Nat} (hk : k ≤ 59) (hn : n ≤ 40) (hJ : J ≤ n) (hJk : J ≤ k + 1) : ∀ q, q < J → runM (f + q) (cM k n (bkC q) ((n - q : Nat) : Int) J 0 0) = runM f (cM k n (bkC 0) n J 0 0)
  | 0, _ => rfl
  | q + 1, h => by
    rw [show f + (q + 1) = (f + q) + 1 by omega, runM_go rfl, show n - (q + 1) = n - 1 - q by omega, cM_ret (got_ret hk (by omega) (by omega)) hJ hn (by omega) (by omega), run_rets hk hn hJ hJk q (by omega)]
theorem run_full (hk : k ≤ 59) (hn : n ≤ 40) (h : n < k + 1) : ∃ L, runM 1000 (cM k n 0 n 0 0 0) = (cM k n (pcC n) 0 n 7 0, L) := by
  refine ⟨1000 - n - 1, ?_⟩
  have := run_calls (f := 1000 - n - 1 + 1) hk hn n (by omega) (by omega)
  rw [show 1000 - n - 1 + 1 + n = 1000 by omega, show (n : Int) - n = 0 by omega, runM_go (m := cM k n (pcC n) 0 n 0 0) rfl, cM_full hk (by omega), runM_stop (m := cM k n (pcC n) 0 n 7 0) (by show ¬ (7 : Int) = 0; decide)] at this
  exact this
theorem run_halts (hk : k ≤ 59) (hn : n ≤ 40) (h : k + 1 ≤ n) : ∃ L, runM 1000 (cM k n 0 n 0 0 0) = (cM k n 4 n (k + 1) 1 n, L) := by
  obtain ⟨f, hf⟩ : ∃ f, 1000 - (k + 1) = (f + 1 + k) + 1 := ⟨1000 - (k + 1) - 1 - k - 1, by omega⟩
  refine ⟨f, ?_⟩
  have := run_calls (f := 1000 - (k + 1)) hk hn (k + 1) (by omega) h
  rw [show 1000 - (k + 1) + (k + 1) = 1000 by omega] at this
  rw [this, hf, runM_go rfl, show pcC (k + 1) = 5 * k + 6 by simp [pcC]; omega, show (n : Int) - (k + 1 : Nat) = ((n - 1 - k : Nat) : Int) by omega,
    cM_ret (got_last hk) h hn (by omega) (by omega), run_rets hk hn h (by omega) k (by omega), runM_go rfl, show bkC 0 = 4 from rfl, cM_halt, runM_stop (by show ¬ (1 : Int) = 0; decide)]
end

end Go.Proofs.Ytnffiaphpcopjaa
