/-
  Where the next token lies: behind blanks y; up to the last line end, or all of y, or else plain blanks. Plain data.
-/
import Derived.Test.YtmajhmionghccaaDoorTKI
namespace Go.Proofs.YtmajhmionghccaaDoor
open Go Go.RowKit

def Wh (s : List UInt8) : Prop := ∀ c ∈ s, tBl c = true
/-- behind the last line end there are but blanks -/
def Qe (y : List UInt8) : Prop := ∀ a b, y = a ++ 10 :: b → ¬ (10 : UInt8) ∈ b → Wh b
theorem Qe.tail {c : UInt8} {y : List UInt8} (h : Qe (c :: y)) : Qe y := fun a b e hb => h (c :: a) b (by rw [e]; rfl) hb
theorem nl_mem {y : List UInt8} : ¬ (10 : UInt8) ∈ y ↔ nl y = 0 := by
  unfold nl
  rw [List.count_eq_zero]
theorem sk_seg (u : List UInt8) : ∀ m, sk m u ≠ [] → ∃ s, u = s ++ sk m u ∧ (m = true → (10 : UInt8) ∈ s) ∧ (m = false → ¬ (10 : UInt8) ∈ s → Wh s) ∧ Qe s := by
  induction u with
  | nil => intro m h; cases m <;> exact absurd rfl h
  | cons c r ih =>
    intro m h
    cases m with
    | true =>
      by_cases hc : c = 10
      · subst hc
        have e : sk true (10 :: r) = sk false r := rfl
        rw [e] at h ⊢
        obtain ⟨s, h1, _, h3, h4⟩ := ih false h
        refine ⟨10 :: s, by rw [List.cons_append, ← h1], fun _ => by simp, fun e => by simp at e, ?_⟩
        rintro (_ | ⟨d, a⟩) b he hb
        · simp at he
          subst he
          exact h3 rfl hb
        · simp at he
          exact h4 a b he.2 hb
      · have e : sk true (c :: r) = sk true r := by simp only [sk, if_neg hc]
        rw [e] at h ⊢
        obtain ⟨s, h1, h2, _, h4⟩ := ih true h
        refine ⟨c :: s, by rw [List.cons_append, ← h1], fun _ => List.mem_cons_of_mem _ (h2 rfl), fun e => by simp at e, ?_⟩
        rintro (_ | ⟨d, a⟩) b he hb
        · simp at he
          exact absurd he.1 hc
        · simp at he
          exact h4 a b he.2 hb
    | false =>
      by_cases hb : tBl c = true
      · have e : sk false (c :: r) = sk false r := by simp only [sk, if_pos hb]
        rw [e] at h ⊢
        obtain ⟨s, h1, _, h3, h4⟩ := ih false h
        have hw : ¬ (10 : UInt8) ∈ s → Wh s := h3 rfl
        refine ⟨c :: s, by rw [List.cons_append, ← h1], fun e => by simp at e, fun _ hn => ?_, ?_⟩
        · have := hw (fun hh => hn (List.mem_cons_of_mem _ hh))
          intro d hd
          rcases List.mem_cons.1 hd with rfl | hd
          · exact hb
          · exact this d hd
        · rintro (_ | ⟨d, a⟩) b he hb
          · simp at he
            obtain ⟨rfl, rfl⟩ := he
            exact hw hb
          · simp at he
            exact h4 a b he.2 hb
      · by_cases hr : c = 47 ∧ r.head? = some 47
        · have e : sk false (c :: r) = sk true r := by simp only [sk, if_neg hb, if_pos hr]
          rw [e] at h ⊢
          obtain ⟨s, h1, h2, _, h4⟩ := ih true h
          refine ⟨c :: s, by rw [List.cons_append, ← h1], fun e => by simp at e, fun _ hn => absurd (List.mem_cons_of_mem _ (h2 rfl)) hn, ?_⟩
          rintro (_ | ⟨d, a⟩) b he hb
          · simp at he
            rw [hr.1] at he
            exact absurd he.1 (by decide)
          · simp at he
            exact h4 a b he.2 hb
        · have e : sk false (c :: r) = c :: r := by simp only [sk, if_neg hb, if_neg hr]
          rw [e]
          refine ⟨[], rfl, fun e => by simp at e, fun _ _ => ?_, ?_⟩
          · intro d hd
            cases hd
          · intro a b he
            simp at he
theorem sh_step {N : Nat} {x u l : List UInt8} {t : Tk} {us : List Tk} (hl : l = x ++ u) (hN : N = 1 + nl l) (h : scanS N (sk false u) = .ok (t :: us)) :
    ∃ y z, u = y ++ (t.tx ++ z) ∧ TokOk t.kd t.tx t.nu ∧ t.ln = 1 + nl x + nl y ∧ Qe y ∧ (0 < nl y ∨ Wh y) ∧ scanS N (sk false z) = .ok us ∧ nl t.tx = 0 ∧ (∃ c s, t.tx = c :: s ∧ tBl c = false) := by
  have hne : sk false u ≠ [] := by
    intro e
    rw [e, scanS_nil] at h
    cases h
  obtain ⟨y, h1, _, h3, h4⟩ := sk_seg u false hne
  generalize sk false u = r at *
  rcases ht : tok1 r with _ | ⟨kd, s, nu⟩
  · rw [scanS_none _ hne ht] at h
    cases h
  · obtain ⟨k1, k2⟩ := tok1_ok ht
    rw [scanS_some _ ht] at h
    rcases hq : scanS N (sk false (r.drop s.length)) with e | us'
    · rw [hq] at h
      cases h
    · rw [hq] at h
      have he : (⟨kd, s, nu, N - nl r⟩ : Tk) :: us' = t :: us := by injection h
      injection he with e1 e2
      subst e1 e2
      refine ⟨y, r.drop s.length, ?_, k1, ?_, h4, ?_, hq, nl_zero (tok_nl k1), ?_⟩
      · show u = y ++ (s ++ r.drop s.length)
        rw [← k2]
        exact h1
      · show N - nl r = _
        have := congrArg nl h1
        rw [nl_append] at this
        rw [hN, hl, nl_append]
        omega
      · rcases Nat.eq_zero_or_pos (nl y) with hz | hz
        · exact .inr (h3 rfl (nl_mem.2 hz))
        · exact .inl hz
      · show ∃ c s', s = c :: s' ∧ _
        rcases s with _ | ⟨c, s⟩
        · exact absurd rfl k1.ne
        · exact ⟨c, s, rfl, tok_nl k1 c (by simp)⟩
/-- one byte on, where a line end still stands ahead -/
theorem Qe.step {c : UInt8} {y : List UInt8} (h : Qe (c :: y)) (hp : 0 < nl (c :: y)) : Qe y ∧ (0 < nl y ∨ Wh y) := by
  refine ⟨h.tail, ?_⟩
  by_cases hc : c = 10
  · subst hc
    rcases Nat.eq_zero_or_pos (nl y) with hz | hz
    · exact .inr (h [] y rfl (nl_mem.2 hz))
    · exact .inl hz
  · rw [nl_cons, if_neg hc] at hp
    exact .inl (by omega)
/-- text that begins with no blank stands nowhere among blanks -/
theorem not_here {c d : UInt8} {y s z : List UInt8} (hb : tBl c = true) (hd : tBl d = false) : (c :: y ++ z).take (d :: s).length ≠ d :: s := by
  intro e
  simp at e
  rw [e.1, hd] at hb
  cases hb
end Go.Proofs.YtmajhmionghccaaDoor
