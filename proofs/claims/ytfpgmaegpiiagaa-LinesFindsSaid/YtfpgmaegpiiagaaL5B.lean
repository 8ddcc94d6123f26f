/-
  Line tables and line programs: plain facts.
-/
import Derived.Test.YtfpgmaegpiiagaaL5A
import Derived.Test.YtfpgmaegpiiagaaL2C
namespace Go.Proofs.Ytfpgmaegpiiagaa

def okR (a : Int) (r : Rw) : Prop := a < r.pc ∧ r.pc < 16777216 ∧ 0 ≤ r.pt ∧ r.pt < 1000
instance (a : Int) (r : Rw) : Decidable (okR a r) := by unfold okR; infer_instance
def okL : Int → List Rw → Bool
  | _, [] => true
  | a, r :: l => decide (okR a r) && okL r.pc l
/-- may the rows be a table? -/
def rightB (l : List Rw) : Bool := decide (l.length ≤ 20000) && okL (-1) l
theorem okL_at {a : Int} {l : List Rw} {k : Nat} (h : k < l.length) : okL a (l.drop k) = (decide (okR a l[k]) && okL l[k].pc (l.drop (k + 1))) := by
  rw [List.drop_eq_getElem_cons h]; rfl

/-- the steps to a row -/
def stepsB (d e : Int) : List UInt8 :=
  if d ≤ 20 ∧ -4 ≤ e ∧ e < 8 then [UInt8.ofNat (12 * d + e + 8).toNat]
  else (if d = 0 then [] else 1 :: nB false d) ++ ((if e = 0 then [] else 2 :: nB true e) ++ [3])
def progF : Rw → List Rw → List UInt8
  | _, [] => [0]
  | n, r :: l => stepsB (r.pc - n.pc) (r.pt - n.pt) ++ progF r l
def r0 : Rw := ⟨0, 0⟩
/-- a table's own program -/
def progB (l : List Rw) : List UInt8 := progF r0 l

def inF (p : Rw) : Prop := 0 ≤ p.pc ∧ p.pc ≤ 16777216 ∧ 0 ≤ p.pt ∧ p.pt ≤ 16777216
instance (p : Rw) : Decidable (inF p) := by unfold inF; infer_instance
def chk (p : Rw) (n : Nat) : Option (Rw × Nat) := if inF p then some (p, n) else none
open Classical in
/-- where a step brings pc and point, and how many bytes behind its first one it takes -/
noncomputable def mv (q : Rw) (s : Nat) (t : List UInt8) : Option (Rw × Nat) :=
  if s = 1 then (if good false t ∧ hv false t ≤ 16777216 then chk ⟨q.pc + hv false t, q.pt⟩ (lg t 10) else none)
  else if s = 2 then (if good true t then chk ⟨q.pc, q.pt + hv true t⟩ (lg t 10) else none)
  else if s = 3 then chk q 0
  else chk ⟨q.pc + ((s - 4) / 12 : Nat), q.pt + ((s - 4) % 12 : Nat) - 4⟩ 0
/-- the rows of a program -/
noncomputable def par (q : Rw) (r : List UInt8) : Option (List Rw) :=
  match r with
  | [] => none
  | s :: t => if s = 0 then (if t = [] then some [] else none) else
    match mv q s.toNat t with
    | none => none
    | some (p, n) => (par p (t.drop n)).map fun l => if 3 ≤ s.toNat then p :: l else l
  termination_by r.length
  decreasing_by (simp; omega)
/-- what is read of bytes -/
noncomputable def rdL (b : List UInt8) : Option (List Rw) := match par r0 b with
  | none => none
  | some l => if rightB l = true then some l else none

theorem par_nil (q : Rw) : par q [] = none := by rw [par]
theorem par_end (q : Rw) (t : List UInt8) : par q (0 :: t) = if t = [] then some [] else none := by rw [par]; simp
theorem par_some {q p : Rw} {s : UInt8} {t : List UInt8} {n : Nat} (h0 : s ≠ 0) (h : mv q s.toNat t = some (p, n)) : par q (s :: t) = (par p (t.drop n)).map fun l => if 3 ≤ s.toNat then p :: l else l := by
  rw [par, if_neg h0, h]
theorem par_none {q : Rw} {s : UInt8} {t : List UInt8} (h0 : s ≠ 0) (h : mv q s.toNat t = none) : par q (s :: t) = none := by
  rw [par, if_neg h0, h]
theorem chk_in {p q : Rw} {n m : Nat} (h : chk p n = some (q, m)) : inF q := by
  unfold chk at h
  split at h
  · cases h; assumption
  · cases h
theorem mv_in {q p : Rw} {s : Nat} {t : List UInt8} {n : Nat} (h : mv q s t = some (p, n)) : inF p := by
  unfold mv at h
  split at h
  · split at h
    · exact chk_in h
    · cases h
  · split at h
    · split at h
      · exact chk_in h
      · cases h
    · split at h <;> exact chk_in h

/-! a table's program -/
theorem map_id_opt (o : Option (List Rw)) : (o.map fun l => l) = o := by cases o <;> rfl
theorem par_pc {q : Rw} {d : Int} {t : List UInt8} (h0 : 0 ≤ d) (h1 : d ≤ 16777216) (hp : inF ⟨q.pc + d, q.pt⟩) : par q (1 :: (nB false d ++ t)) = par ⟨q.pc + d, q.pt⟩ t := by
  obtain ⟨g1, g2, g3⟩ := good_put (b := false) (x := d) (r := nB false d ++ t) (by simp [rng]; omega) (List.prefix_append _ _)
  have hm : mv q (1 : UInt8).toNat (nB false d ++ t) = some (⟨q.pc + d, q.pt⟩, size false d) := by
    unfold mv
    rw [if_pos (by decide), if_pos ⟨g1, by rw [g2]; exact h1⟩, g2, g3]
    exact if_pos hp
  rw [par_some (by decide) hm, ← nB_len false d, List.drop_left]
  simp
theorem par_pt {q : Rw} {e : Int} {t : List UInt8} (h0 : -16777216 ≤ e) (h1 : e ≤ 16777216) (hp : inF ⟨q.pc, q.pt + e⟩) : par q (2 :: (nB true e ++ t)) = par ⟨q.pc, q.pt + e⟩ t := by
  obtain ⟨g1, g2, g3⟩ := good_put (b := true) (x := e) (r := nB true e ++ t) (by simp [rng]; omega) (List.prefix_append _ _)
  have hm : mv q (2 : UInt8).toNat (nB true e ++ t) = some (⟨q.pc, q.pt + e⟩, size true e) := by
    unfold mv
    rw [if_neg (by decide), if_pos (by decide), if_pos g1, g2, g3]
    exact if_pos hp
  rw [par_some (by decide) hm, ← nB_len true e, List.drop_left]
  simp
theorem par_row {q : Rw} {t : List UInt8} (hp : inF q) : par q (3 :: t) = (par q t).map (q :: ·) := by
  have hm : mv q (3 : UInt8).toNat t = some (q, 0) := by
    unfold mv
    rw [if_neg (by decide), if_neg (by decide), if_pos (by decide)]
    exact if_pos hp
  rw [par_some (by decide) hm]
  rfl
theorem short_byte {d e : Int} (h0 : 0 ≤ d) (hd : d ≤ 20) (he : -4 ≤ e) (he2 : e < 8) : (UInt8.ofNat (12 * d + e + 8).toNat).toNat = (12 * d + e + 8).toNat := by
  simp; omega
theorem par_short {q : Rw} {d e : Int} {t : List UInt8} (h0 : 0 ≤ d) (hd : d ≤ 20) (he : -4 ≤ e) (he2 : e < 8) (hp : inF ⟨q.pc + d, q.pt + e⟩) :
    par q (UInt8.ofNat (12 * d + e + 8).toNat :: t) = (par ⟨q.pc + d, q.pt + e⟩ t).map (⟨q.pc + d, q.pt + e⟩ :: ·) := by
  have hb := short_byte h0 hd he he2
  have hne : UInt8.ofNat (12 * d + e + 8).toNat ≠ 0 := fun h => by
    have := congrArg UInt8.toNat h
    rw [hb] at this
    simp at this
    omega
  have hm : mv q (UInt8.ofNat (12 * d + e + 8).toNat).toNat t = some (⟨q.pc + d, q.pt + e⟩, 0) := by
    rw [hb]
    unfold mv
    rw [if_neg (by omega), if_neg (by omega), if_neg (by omega)]
    have e1 : (((12 * d + e + 8).toNat - 4) / 12 : Nat) = d.toNat := by omega
    have e2 : ((((12 * d + e + 8).toNat - 4) % 12 : Nat) : Int) = e + 4 := by omega
    rw [e1, e2, show q.pt + (e + 4) - 4 = q.pt + e by omega, show ((d.toNat : Nat) : Int) = d by omega]
    exact if_pos hp
  rw [par_some hne hm, hb]
  have h3 : 3 ≤ (12 * d + e + 8).toNat := by omega
  simp only [if_pos h3]
  rfl
theorem par_steps {q : Rw} {d e : Int} {t : List UInt8} (hq : inF q) (h0 : 0 ≤ d) (hp : inF ⟨q.pc + d, q.pt + e⟩) :
    par q (stepsB d e ++ t) = (par ⟨q.pc + d, q.pt + e⟩ t).map (⟨q.pc + d, q.pt + e⟩ :: ·) := by
  obtain ⟨q1, q2, q3, q4⟩ := hq
  obtain ⟨p1, p2, p3, p4⟩ := hp
  simp only at p1 p2 p3 p4
  unfold stepsB
  split
  · rename_i h
    exact par_short h0 h.1 h.2.1 h.2.2 ⟨p1, p2, p3, p4⟩
  · have hE : par ⟨q.pc + d, q.pt⟩ (((if e = 0 then [] else 2 :: nB true e) ++ [3]) ++ t) = (par ⟨q.pc + d, q.pt + e⟩ t).map (⟨q.pc + d, q.pt + e⟩ :: ·) := by
      by_cases h : e = 0
      · subst h
        rw [if_pos rfl, Int.add_zero]
        exact par_row ⟨p1, p2, q3, q4⟩
      · rw [if_neg h, List.append_assoc, List.cons_append]
        rw [par_pt (q := ⟨q.pc + d, q.pt⟩) (by omega) (by omega) ⟨p1, p2, p3, p4⟩]
        exact par_row ⟨p1, p2, p3, p4⟩
    rw [List.append_assoc]
    by_cases h : d = 0
    · subst h
      rw [if_pos rfl]
      rw [Int.add_zero] at hE ⊢
      exact hE
    · rw [if_neg h, List.cons_append, par_pc (by omega) (by omega) ⟨p1, p2, q3, q4⟩]
      exact hE
theorem okR_of {a : Int} {r : Rw} {l : List Rw} (h : okL a (r :: l) = true) : okR a r ∧ okL r.pc l = true := by
  simpa [okL] using h
theorem par_progF : ∀ (l : List Rw) (q : Rw) (a : Int), inF q → q.pc ≤ a + 1 → okL a l = true → par q (progF q l) = some l
  | [], q, a, _, _, _ => by rw [progF, par_end]; simp
  | r :: l, q, a, hq, ha, h => by
    obtain ⟨⟨h1, h2, h3, h4⟩, h5⟩ := okR_of h
    obtain ⟨q1, q2, q3, q4⟩ := hq
    have hr : (⟨q.pc + (r.pc - q.pc), q.pt + (r.pt - q.pt)⟩ : Rw) = r := by
      cases r; simp only [Rw.mk.injEq]; omega
    have hi : inF r := ⟨by omega, by omega, by omega, by omega⟩
    rw [progF, par_steps ⟨q1, q2, q3, q4⟩ (by omega) (by rw [hr]; exact hi), hr, par_progF l r r.pc hi (by omega) h5]
    rfl
theorem inF_0 : inF r0 := by decide
theorem rdL_prog {l : List Rw} (h : rightB l = true) : rdL (progB l) = some l := by
  have h' := h
  simp only [rightB, Bool.and_eq_true, decide_eq_true_eq] at h'
  unfold rdL progB
  rw [par_progF l r0 (-1) inF_0 (by decide) h'.2]
  exact if_pos h
theorem rdL_right {b : List UInt8} {l : List Rw} (h : rdL b = some l) : rightB l = true := by
  unfold rdL at h
  split at h
  · cases h
  · split at h
    · cases h; assumption
    · cases h

/-! its length -/
theorem size_pc {d : Int} (_h0 : 0 ≤ d) (h : d ≤ 16777216) : size false d ≤ 4 :=
  size_le_of (fit_u.2 (.inr (by have : pw 4 = 268435456 := by decide
                                omega))) (by omega)
theorem size_pt {e : Int} (h0 : -1000 ≤ e) (h : e ≤ 1000) : size true e ≤ 2 :=
  size_le_of (fit_s.2 (.inr (by have : pw (2 - 1) = 128 := by decide
                                omega))) (by omega)
theorem stepsB_len {d e : Int} (h0 : 0 ≤ d) (h1 : d ≤ 16777216) (h2 : -1000 ≤ e) (h3 : e ≤ 1000) : (stepsB d e).length ≤ 9 := by
  have s1 := size_pc h0 h1
  have s2 := size_pt h2 h3
  have n1 := nB_len false d
  have n2 := nB_len true e
  unfold stepsB
  split
  · simp
  · split <;> split <;> simp <;> omega
theorem progF_len : ∀ (l : List Rw) (q : Rw) (a : Int), 0 ≤ q.pc → q.pc ≤ a + 1 → 0 ≤ q.pt → q.pt < 1000 → okL a l = true → (progF q l).length ≤ 9 * l.length + 1
  | [], q, a, _, _, _, _, _ => by simp [progF]
  | r :: l, q, a, g1, g2, g3, g4, h => by
    obtain ⟨⟨h1, h2, h3, h4⟩, h5⟩ := okR_of h
    have s := stepsB_len (d := r.pc - q.pc) (e := r.pt - q.pt) (by omega) (by omega) (by omega) (by omega)
    have := progF_len l r r.pc (by omega) (by omega) h3 h4 h5
    rw [progF, List.length_append, List.length_cons]
    omega
theorem progB_len {l : List Rw} (h : rightB l = true) : (progB l).length ≤ 9 * l.length + 1 := by
  simp only [rightB, Bool.and_eq_true, decide_eq_true_eq] at h
  exact progF_len l r0 (-1) (by decide) (by decide) (by decide) (by decide) h.2

/-! a beginning of it is none -/
theorem good_cut {b : Bool} {x : Int} {k : Nat} (h : k < size b x) : ¬ good b ((nB b x).take k) := fun g => g.1 (lg_cut h)
theorem cut_pc {q : Rw} {d : Int} {k : Nat} (h : k < size false d) : par q (1 :: (nB false d).take k) = none := by
  refine par_none (by decide) ?_
  unfold mv
  rw [if_pos (by decide), if_neg (fun g => good_cut h g.1)]
theorem cut_pt {q : Rw} {e : Int} {k : Nat} (h : k < size true e) : par q (2 :: (nB true e).take k) = none := by
  refine par_none (by decide) ?_
  unfold mv
  rw [if_neg (by decide), if_pos (by decide), if_neg (good_cut h)]
theorem cut_steps {q : Rw} {d e : Int} {k : Nat} (hq : inF q) (h0 : 0 ≤ d) (hp : inF ⟨q.pc + d, q.pt + e⟩) (hk : k < (stepsB d e).length) : par q ((stepsB d e).take k) = none := by
  obtain ⟨q1, q2, q3, q4⟩ := hq
  obtain ⟨p1, p2, p3, p4⟩ := hp
  simp only at p1 p2 p3 p4
  unfold stepsB at hk ⊢
  split at hk
  · rename_i h
    rw [if_pos h]
    have : k = 0 := by simp at hk; omega
    subst this
    exact par_nil q
  · rename_i h
    rw [if_neg h]
    have hE : ∀ j, j < ((if e = 0 then [] else 2 :: nB true e) ++ [(3 : UInt8)]).length → par ⟨q.pc + d, q.pt⟩ (((if e = 0 then [] else 2 :: nB true e) ++ [3]).take j) = none := by
      intro j hj
      by_cases h : e = 0
      · rw [if_pos h] at hj ⊢
        have : j = 0 := by simp at hj; omega
        subst this
        exact par_nil _
      · rw [if_neg h] at hj ⊢
        rcases j with _ | j
        · exact par_nil _
        · rw [List.cons_append, List.take_succ_cons]
          have hl := nB_len true e
          by_cases hj2 : j < size true e
          · rw [List.take_append_of_le_length (by omega)]
            exact cut_pt hj2
          · have : j = size true e := by simp at hj; omega
            rw [this, ← hl, List.take_left]
            have := par_pt (q := ⟨q.pc + d, q.pt⟩) (e := e) (t := []) (by omega) (by omega) ⟨p1, p2, p3, p4⟩
            rw [List.append_nil] at this
            rw [this]
            exact par_nil _
    by_cases h : d = 0
    · subst h
      rw [if_pos rfl, List.nil_append] at hk ⊢
      have := hE k hk
      rwa [Int.add_zero] at this
    · rw [if_neg h] at hk ⊢
      rcases k with _ | k
      · exact par_nil _
      · rw [List.cons_append, List.take_succ_cons]
        have hl := nB_len false d
        by_cases hk2 : k < size false d
        · rw [List.take_append_of_le_length (by omega)]
          exact cut_pc hk2
        · obtain ⟨j, rfl⟩ : ∃ j, k = (nB false d).length + j := ⟨k - size false d, by omega⟩
          rw [List.take_length_add_append, par_pc (by omega) (by omega) ⟨p1, p2, q3, q4⟩]
          exact hE j (by rw [List.cons_append, List.length_cons, List.length_append] at hk; omega)
theorem cut_progF : ∀ (l : List Rw) (q : Rw) (a : Int) (k : Nat), inF q → q.pc ≤ a + 1 → okL a l = true → k < (progF q l).length → par q ((progF q l).take k) = none
  | [], q, a, k, _, _, _, hk => by
    have : k = 0 := by simp [progF] at hk; omega
    subst this
    exact par_nil q
  | r :: l, q, a, k, hq, ha, h, hk => by
    obtain ⟨⟨h1, h2, h3, h4⟩, h5⟩ := okR_of h
    have hq' := hq
    obtain ⟨q1, q2, q3, q4⟩ := hq
    have hr : (⟨q.pc + (r.pc - q.pc), q.pt + (r.pt - q.pt)⟩ : Rw) = r := by
      cases r; simp only [Rw.mk.injEq]; omega
    have hi : inF r := ⟨by omega, by omega, by omega, by omega⟩
    rw [progF] at hk ⊢
    by_cases hk2 : k < (stepsB (r.pc - q.pc) (r.pt - q.pt)).length
    · rw [List.take_append_of_le_length (by omega)]
      exact cut_steps hq' (by omega) (by rw [hr]; exact hi) hk2
    · obtain ⟨j, rfl⟩ : ∃ j, k = (stepsB (r.pc - q.pc) (r.pt - q.pt)).length + j := ⟨k - (stepsB (r.pc - q.pc) (r.pt - q.pt)).length, by omega⟩
      rw [List.take_length_add_append, par_steps hq' (by omega) (by rw [hr]; exact hi), hr,
        cut_progF l r r.pc j hi (by omega) h5 (by rw [List.length_append] at hk; omega)]
      rfl
theorem rdL_cut {l : List Rw} (h : rightB l = true) {k : Nat} (hk : k < (progB l).length) : rdL ((progB l).take k) = none := by
  simp only [rightB, Bool.and_eq_true, decide_eq_true_eq] at h
  unfold rdL progB
  rw [cut_progF l r0 (-1) k inF_0 (by decide) h.2 hk]
end Go.Proofs.Ytfpgmaegpiiagaa
