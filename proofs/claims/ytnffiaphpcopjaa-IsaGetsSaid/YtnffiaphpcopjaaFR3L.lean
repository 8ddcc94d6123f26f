/-
  Merged for a claim: R3L.
-/
import Derived.Test.YtnffiaphpcopjaaFI3P
namespace Go.Proofs.Ytnffiaphpcopjaa
open Go.RowKit

def lenS (l : List UInt8) (p : Pt) (s : Ins × Int) : Option (Ins × Int) := if getE p l s.2 = 0 then some (getI p s.1 l s.2, getN p l s.2) else none
def lenP (l : List UInt8) : List Pt → Ins × Int → Option (Ins × Int)
  | [], s => some s
  | p :: L, s => (lenS l p s).bind (lenP l L)
theorem lenP_append (l : List UInt8) : ∀ (L M : List Pt) (s : Ins × Int), lenP l (L ++ M) s = (lenP l L s).bind (lenP l M)
  | [], M, s => rfl
  | p :: L, M, s => by
    simp only [List.cons_append, lenP]
    cases lenS l p s with
    | none => rfl
    | some z => exact lenP_append l L M z
theorem lenP_take {l : List UInt8} {L : List Pt} {j : Nat} {p : Pt} {s0 s : Ins × Int} (h : L[j]? = some p) (hs : lenP l (L.take j) s0 = some s) : lenP l (L.take (j + 1)) s0 = lenS l p s := by
  rw [take_snoc h, lenP_append, hs]
  show (lenS l p s).bind (lenP l []) = _
  cases lenS l p s <;> rfl
theorem lenP_none {l : List UInt8} {L : List Pt} {k : Nat} {s0 : Ins × Int} (h : lenP l (L.take k) s0 = none) : lenP l L s0 = none := by
  rw [← List.take_append_drop k L, lenP_append, h]
  rfl
/-- what is got with each part looked at, is got leniently -/
theorem run_len (l : List UInt8) : ∀ (L : List Pt) (s r : Ins × Int), runP l L s = some r → lenP l L s = some r
  | [], _, _, h => h
  | p :: L, s, r, h => by
    have h' : (stepP l p s).bind (runP l L) = some r := h
    show (lenS l p s).bind (lenP l L) = some r
    by_cases hs : getE p l s.2 = 0 ∧ fitsP p (getI p s.1 l s.2) = true
    · rw [stepP, if_pos hs] at h'
      rw [lenS, if_pos hs.1]
      exact run_len l L _ r h'
    · rw [stepP, if_neg hs] at h'
      cases h'
theorem len_keeps (l : List UInt8) : ∀ (L : List Pt) (s r : Ins × Int), lenP l L s = some r → (r.1.k = s.1.k ∧ dropAll L r.1 = dropAll L s.1) ∧ ∀ q, (∀ p ∈ L, aside q p = true) → fitsP q r.1 = fitsP q s.1
  | [], s, r, h => by
    cases h
    exact ⟨⟨rfl, rfl⟩, fun _ _ => rfl⟩
  | p :: L, s, r, h => by
    have h' : (lenS l p s).bind (lenP l L) = some r := h
    by_cases hs : getE p l s.2 = 0
    · rw [lenS, if_pos hs] at h'
      obtain ⟨⟨e1, e2⟩, e3⟩ := len_keeps l L _ r h'
      refine ⟨⟨by rw [e1, get_k], ?_⟩, fun q hq => ?_⟩
      · rw [dropAll_cons, dropAll_comm, e2, ← dropAll_comm, drop_get, ← dropAll_cons]
      · rw [e3 q (fun p' hp' => hq p' (List.mem_cons_of_mem _ hp')), fits_far (hq p List.mem_cons_self)]
    · rw [lenS, if_neg hs] at h'
      cases h'
/-- what is got leniently, and fits, is got -/
theorem len_run (l : List UInt8) : ∀ (L : List Pt) (s r : Ins × Int), Asides L → lenP l L s = some r → (∀ p ∈ L, fitsP p r.1 = true) → runP l L s = some r
  | [], _, _, _, h, _ => h
  | p :: L, s, r, ha, h, hf => by
    have ha' := List.pairwise_cons.1 ha
    have h' : (lenS l p s).bind (lenP l L) = some r := h
    show (stepP l p s).bind (runP l L) = some r
    by_cases hs : getE p l s.2 = 0
    · rw [lenS, if_pos hs] at h'
      have hk := (len_keeps l L _ r h').2 p ha'.1
      rw [stepP, if_pos ⟨hs, by rw [← hk]; exact hf p List.mem_cons_self⟩]
      exact len_run l L _ r ha'.2 h' (fun q hq => hf q (List.mem_cons_of_mem _ hq))
    · rw [lenS, if_neg hs] at h'
      cases h'

/-- the document's answer where the kind is one, and the parts are there -/
theorem len_right {l : List UInt8} {K x : Int} {i : Ins} {n : Int} (_hK : isK K = true) (h : lenP l (ptsOf K) (insOf K, x) = some (i, n)) (hr : rightB i = true) : runP l (ptsOf K) (insOf K, x) = some (i, n) := by
  have hk : i.k = K := (len_keeps l _ _ _ h).1.1
  have := (right_parts hr).2.1
  rw [hk] at this
  exact len_run l _ _ _ (ptsOf_asides K) h this
theorem len_wrong {l : List UInt8} {K x : Int} {i : Ins} {n : Int} (hK : isK K = true) (h : lenP l (ptsOf K) (insOf K, x) = some (i, n)) (hr : rightB i = false) (h0 : (insOf K).Rng) (hx : ∃ k : Nat, x = k ∧ k ≤ l.length) : runP l (ptsOf K) (insOf K, x) = none := by
  cases hg : runP l (ptsOf K) (insOf K, x) with
  | none => rfl
  | some r =>
    have h2 := run_len l _ _ _ hg
    rw [h] at h2
    cases h2
    obtain ⟨_, _, _, hk, _, hf, _, _, _, hd⟩ := run_got l _ _ i _ n (ptsOf_asides K) h0 hx hg
    have hk' : i.k = K := hk
    have : rightB i = true := by
      unfold rightB
      rw [hk', hK, hd, dropAll_insOf]
      simp only [Bool.true_and, Bool.and_eq_true, List.all_eq_true, decide_eq_true_eq]
      exact ⟨hf, rfl⟩
    rw [this] at hr
    cases hr
theorem len_fail {l : List UInt8} {K x : Int} (h : lenP l (ptsOf K) (insOf K, x) = none) : runP l (ptsOf K) (insOf K, x) = none := by
  cases hg : runP l (ptsOf K) (insOf K, x) with
  | none => rfl
  | some r => rw [run_len l _ _ _ hg] at h; cases h
theorem lenP_cons {l : List UInt8} {p : Pt} {L : List Pt} {s r : Ins × Int} (h : lenP l (p :: L) s = some r) : getE p l s.2 = 0 ∧ lenP l L (getI p s.1 l s.2, getN p l s.2) = some r := by
  have h' : (lenS l p s).bind (lenP l L) = some r := h
  by_cases hs : getE p l s.2 = 0
  · rw [lenS, if_pos hs] at h'
    exact ⟨hs, h'⟩
  · rw [lenS, if_neg hs] at h'
    cases h'
theorem plX_rng (l : List UInt8) (x : Int) : 0 ≤ plX l x ∧ plX l x < 16777216 := by
  by_cases h : stV l.length x 3 = 0
  · obtain ⟨k, rfl, hk⟩ := place_in h
    obtain ⟨_, e, _⟩ := place_at hk
    rw [e]
    have := l[k].toNat_lt
    have := l[k + 1].toNat_lt
    have := l[k + 2].toNat_lt
    omega
  · simp [plX, h]

end Go.Proofs.Ytnffiaphpcopjaa
