/-
  Tokens laid one behind the other with blanks between; two sources with a line end between: plain data.
-/
import Derived.Test.YtmajhmionghccaaDoorTKA
namespace Go.Proofs.YtmajhmionghccaaDoor
open Go

/-- lines more -/
def upT (d : Nat) : Except Nat (List Tk) → Except Nat (List Tk)
  | .error e => .error (d + e)
  | .ok ts => .ok (ts.map fun t => { t with ln := d + t.ln })
theorem upT_cons (d : Nat) (t : Tk) (e : Except Nat (List Tk)) : upT d (consT t e) = consT { t with ln := d + t.ln } (upT d e) := by
  cases e <;> rfl
theorem scan_rest {s : List UInt8} {l : List UInt8} (hs : s ≠ []) (hl : l = s ++ l.drop s.length) : (sk false (l.drop s.length)).length < l.length := by
  have h1 := sk_len false (l.drop s.length)
  have h2 := List.length_pos_iff.2 hs
  have h3 := congrArg List.length hl
  rw [List.length_append, List.length_drop] at h3
  rw [List.length_drop] at h1
  omega
theorem scan_rest_nl {s : List UInt8} {l : List UInt8} (hl : l = s ++ l.drop s.length) : nl (sk false (l.drop s.length)) ≤ nl l := by
  have h1 := sk_nl false (l.drop s.length)
  have h3 := congrArg nl hl
  rw [nl_append] at h3
  omega
theorem scan_up (d N : Nat) : ∀ (n : Nat) (l : List UInt8), l.length ≤ n → nl l ≤ N → scanS (d + N) l = upT d (scanS N l)
  | n, [], _, _ => rfl
  | 0, c :: r, h, _ => by simp at h
  | n + 1, c :: r, h, hN => by
    rcases ht : tok1 (c :: r) with _ | ⟨kd, s, nu⟩
    · rw [scanS_none _ (by simp) ht, scanS_none _ (by simp) ht]
      simp only [upT]
      rw [Nat.add_sub_assoc hN]
    · obtain ⟨h1, h2⟩ := tok1_ok ht
      rw [scanS_some _ ht, scanS_some _ ht, upT_cons]
      have h3 := scan_rest h1.ne h2
      have h4 := scan_rest_nl h2
      rw [scan_up d N n _ (by omega) (by omega)]
      simp only
      rw [Nat.add_sub_assoc hN]
/-- what is left of two sources with a line end between -/
def joinL (l b : List UInt8) : List UInt8 := if l = [] then sk false b else l ++ 10 :: b
def thenT (e : Except Nat (List Tk)) (f : Except Nat (List Tk)) : Except Nat (List Tk) :=
  match e with
  | .error k => .error k
  | .ok ts => appT ts f
theorem thenT_cons (t : Tk) (e f : Except Nat (List Tk)) : thenT (consT t e) f = consT t (thenT e f) := by
  cases e
  · rfl
  · cases f <;> rfl
theorem scan_join (M : Nat) (b : List UInt8) : ∀ (n : Nat) (l : List UInt8), l.length ≤ n → scanS (M + (nl b + 1)) (joinL l b) = thenT (scanS M l) (scanS (M + (nl b + 1)) (sk false b))
  | n, [], _ => by
    have : joinL [] b = sk false b := rfl
    rw [this, scanS_nil]
    unfold thenT appT
    simp only
    cases scanS (M + (nl b + 1)) (sk false b) <;> rfl
  | 0, c :: r, h => by simp at h
  | n + 1, c :: r, h => by
    have hj : joinL (c :: r) b = c :: r ++ 10 :: b := rfl
    have hb : tBl 10 = true := rfl
    have e := tok1_stop (l := c :: r) (by simp) hb b
    have hn : M + (nl b + 1) - nl (c :: r ++ 10 :: b) = M - nl (c :: r) := by
      rw [nl_append, nl_cons 10 b, if_pos rfl]
      omega
    rw [hj]
    rcases ht : tok1 (c :: r) with _ | ⟨kd, s, nu⟩
    · rw [scanS_none _ (by simp) (e.trans ht), scanS_none _ (by simp) ht, hn]
      rfl
    · obtain ⟨h1, h2⟩ := tok1_ok ht
      rw [scanS_some _ (e.trans ht), scanS_some _ ht, thenT_cons, hn]
      have h3 := scan_rest h1.ne h2
      have h4 : s.length ≤ (c :: r).length := by
        have := congrArg List.length h2
        rw [List.length_append] at this
        omega
      rw [List.drop_append_of_le_length h4, sk_join]
      have := scan_join M b n (sk false ((c :: r).drop s.length)) (by omega)
      unfold joinL at this
      rw [this]
/-- TWO SOURCES WITH A LINE END BETWEEN -/
theorem scanP_join (a b : List UInt8) : scanP (a ++ 10 :: b) = thenT (scanP a) (upT (1 + nl a) (scanP b)) := by
  unfold scanP
  have h1 := scan_join (1 + nl a) b _ (sk false a) (Nat.le_refl _)
  have h2 : sk false (a ++ 10 :: b) = joinL (sk false a) b := sk_join false a b
  have h3 : 1 + nl (a ++ 10 :: b) = 1 + nl a + (nl b + 1) := by
    rw [nl_append, nl_cons 10 b, if_pos rfl]
    omega
  rw [h2, h3, h1, show 1 + nl a + (nl b + 1) = 1 + nl a + (1 + nl b) by omega, scan_up (1 + nl a) (1 + nl b) _ _ (Nat.le_refl _) (by have := sk_nl false b; omega)]

/-- what is laid ahead of a token: blanks, with or without line ends, or a remark -/
def blankL : List (List UInt8) := [[32], [10], [9, 32, 13], [32, 47, 47, 32, 120, 32, 61, 32, 48, 55, 32, 38, 32, 10], [10, 10]]
def lay : List (List UInt8 × Tk) → List UInt8
  | [] => []
  | p :: ps => p.1 ++ (p.2.tx ++ lay ps)
/-- the tokens that were laid, each in its line -/
def linesT (k : Nat) : List (List UInt8 × Tk) → List Tk
  | [] => []
  | p :: ps => { p.2 with ln := k + nl p.1 } :: linesT (k + nl p.1) ps
theorem blank_head : ∀ b ∈ blankL, ∃ c r, b = c :: r ∧ tBl c = true := by
  intro b hb
  have : ∀ b ∈ blankL, (b.head?.any tBl) = true := by decide
  have h := this b hb
  rcases b with _ | ⟨c, r⟩
  · cases h
  · exact ⟨c, r, rfl, by simpa using h⟩
theorem blank_sk (y : List UInt8) : ∀ b ∈ blankL, sk false (b ++ y) = sk false y := by
  intro b hb
  simp only [blankL, List.mem_cons, List.not_mem_nil, or_false] at hb
  rcases hb with rfl | rfl | rfl | rfl | rfl <;> rfl
theorem tok_nl {kd : Int} {s : List UInt8} {nu : Int} (h : TokOk kd s nu) : ∀ x ∈ s, tBl x = false := by
  intro x hx
  cases hb : tBl x with
  | false => rfl
  | true =>
    obtain ⟨q1, q2, q3⟩ := bl_cases hb
    rcases h.kind with ⟨_, ha, _⟩ | ⟨_, ha, _⟩ | ⟨_, _, _, _, ha, _⟩
    · exact (by rw [ha x hx] at q3; cases q3)
    · exact (by rw [ha x hx] at q2; cases q2)
    · exact (by rw [ha x hx] at hb; cases hb)
theorem nl_zero {s : List UInt8} (h : ∀ x ∈ s, tBl x = false) : nl s = 0 := by
  unfold nl
  rw [List.count_eq_zero]
  intro hm
  have := h 10 hm
  cases this
theorem tok_sk {kd : Int} {s : List UInt8} {nu : Int} (h : TokOk kd s nu) (y : List UInt8) (hy : ∀ c r, y = c :: r → tBl c = true) : sk false (s ++ y) = s ++ y := by
  have hnb := tok_nl h
  rcases hs : s with _ | ⟨c, t⟩
  · exact absurd hs h.ne
  rw [hs] at hnb
  refine sk_stay ?_ fun c' r' e => ?_
  · cases hr : rem (c :: t ++ y) with
    | false => rfl
    | true =>
      obtain ⟨r, e⟩ := (rem_iff _).1 hr
      injection e with e1 e2
      subst e1
      have hs1 : s = [47] := by
        rcases h.kind with ⟨_, ha, _⟩ | ⟨_, ha, _⟩ | ⟨_, _, _, _, _, ha⟩
        · have := ha 47 (by rw [hs]; simp)
          cases this
        · have := ha 47 (by rw [hs]; simp)
          cases this
        · exact ha (by rw [hs]; rfl)
      rw [hs] at hs1
      injection hs1 with _ hs1
      subst hs1
      have := hy 47 r e2
      cases this
  · injection e with e1
    subst e1
    exact hnb _ (by simp)
theorem lay_head {ps : List (List UInt8 × Tk)} (hb : ∀ p ∈ ps, p.1 ∈ blankL) : ∀ c r, lay ps = c :: r → tBl c = true := by
  intro c r h
  rcases ps with _ | ⟨p, ps⟩
  · cases h
  · obtain ⟨c', r', e, hc⟩ := blank_head p.1 (hb p (by simp))
    unfold lay at h
    rw [e] at h
    injection h with h1
    subst h1
    exact hc
theorem scan_lay (N : Nat) : ∀ (k : Nat) (ps : List (List UInt8 × Tk)), (∀ p ∈ ps, p.1 ∈ blankL) → (∀ p ∈ ps, TokOk p.2.kd p.2.tx p.2.nu) → N = k + nl (lay ps) → scanS N (sk false (lay ps)) = .ok (linesT k ps)
  | k, [], _, _, _ => rfl
  | k, p :: ps, hb, ht, hN => by
    have hp := ht p (by simp)
    have hy := lay_head (ps := ps) fun q hq => hb q (List.mem_cons_of_mem _ hq)
    have h0 := nl_zero (tok_nl hp)
    have e1 : sk false (lay (p :: ps)) = p.2.tx ++ lay ps := by
      rw [show lay (p :: ps) = p.1 ++ (p.2.tx ++ lay ps) from rfl, blank_sk _ p.1 (hb p (by simp)), tok_sk hp _ hy]
    have e2 : tok1 (p.2.tx ++ lay ps) = some (p.2.kd, p.2.tx, p.2.nu) := by
      rcases hl : lay ps with _ | ⟨c, r⟩
      · rw [List.append_nil]
        exact hp.self
      · rw [tok1_stop hp.ne (hy c r hl)]
        exact hp.self
    have e3 : nl (lay (p :: ps)) = nl p.1 + nl (lay ps) := by
      rw [show lay (p :: ps) = p.1 ++ (p.2.tx ++ lay ps) from rfl, nl_append, nl_append, h0, Nat.zero_add]
    have e4 : N - nl (p.2.tx ++ lay ps) = k + nl p.1 := by
      rw [nl_append, h0]
      omega
    rw [e1, scanS_some N e2, List.drop_left, scan_lay N (k + nl p.1) ps (fun q hq => hb q (List.mem_cons_of_mem _ hq)) (fun q hq => ht q (List.mem_cons_of_mem _ hq)) (by omega), e4]
    rfl
/-- TOKENS LAID ONE BEHIND THE OTHER ARE SCANNED TO THE SAME TOKENS -/
theorem scanP_lay {ps : List (List UInt8 × Tk)} (hb : ∀ p ∈ ps, p.1 ∈ blankL) (ht : ∀ p ∈ ps, TokOk p.2.kd p.2.tx p.2.nu) : scanP (lay ps) = .ok (linesT 1 ps) :=
  scan_lay _ 1 ps hb ht rfl
/-- what is true of all tokens of a source -/
theorem scan_all (N : Nat) : ∀ (n : Nat) (l : List UInt8) (ts : List Tk), l.length ≤ n → scanS N l = .ok ts → (∀ t ∈ ts, TokOk t.kd t.tx t.nu) ∧ (ts.map fun t => t.tx.length).sum ≤ l.length ∧ ts.length ≤ l.length
  | n, [], ts, _, h => by
    rw [scanS_nil] at h
    injection h with h
    subst h
    simp
  | 0, c :: r, _, h, _ => by simp at h
  | n + 1, c :: r, ts, h, hs => by
    rcases ht : tok1 (c :: r) with _ | ⟨kd, s, nu⟩
    · rw [scanS_none _ (by simp) ht] at hs
      cases hs
    · obtain ⟨h1, h2⟩ := tok1_ok ht
      rw [scanS_some _ ht] at hs
      rcases hq : scanS N (sk false ((c :: r).drop s.length)) with e | us
      · rw [hq] at hs
        cases hs
      · rw [hq] at hs
        injection hs with hs
        subst hs
        have h3 := scan_rest h1.ne h2
        obtain ⟨r1, r2, r3⟩ := scan_all N n _ us (by omega) hq
        have h4 := sk_len false ((c :: r).drop s.length)
        have h5 := congrArg List.length h2
        rw [List.length_append] at h5
        rw [List.length_drop] at h4 h5
        have h6 := List.length_pos_iff.2 h1.ne
        refine ⟨?_, ?_, ?_⟩
        · intro t hm
          rcases List.mem_cons.1 hm with rfl | hm
          · exact h1
          · exact r1 t hm
        · simp only [List.map_cons, List.sum_cons]
          omega
        · simp only [List.length_cons] at *
          omega
end Go.Proofs.YtmajhmionghccaaDoor
