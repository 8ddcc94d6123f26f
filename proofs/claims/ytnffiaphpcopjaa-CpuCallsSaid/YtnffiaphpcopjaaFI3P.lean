/-
  Merged for a claim: I3P.
-/
import Derived.Test.YtnffiaphpcopjaaFJ3
namespace Go.Proofs.Ytnffiaphpcopjaa
open Go.RowKit

/-- the parts of an instruction, one behind the other -/
def partsB (L : List Pt) (j : Ins) : List UInt8 := L.flatMap fun p => bytesP p j
theorem partsB_cons (p : Pt) (L : List Pt) (j : Ins) : partsB (p :: L) j = bytesP p j ++ partsB L j := by simp [partsB]
theorem drop_add {α : Type} {a b l : List α} {k : Nat} (h : a ++ b <+: l.drop k) : b <+: l.drop (k + a.length) := by
  obtain ⟨t, ht⟩ := h
  refine ⟨t, ?_⟩
  rw [← List.drop_drop, ← ht, List.append_assoc, List.drop_left]
theorem pre_left {α : Type} {a b r : List α} (h : a ++ b <+: r) : a <+: r := (List.prefix_append a b).trans h
theorem pre_join {α : Type} {a b l : List α} {k : Nat} (h1 : a <+: l.drop k) (h2 : b <+: l.drop (k + a.length)) : a ++ b <+: l.drop k := by
  obtain ⟨t, ht⟩ := h1
  obtain ⟨u, hu⟩ := h2
  refine ⟨u, ?_⟩
  rw [← List.drop_drop, ← ht, List.drop_left] at hu
  rw [List.append_assoc, hu, ht]
theorem pre_len {α : Type} {a l : List α} {k : Nat} (h : a <+: l.drop k) (hk : k ≤ l.length) : k + a.length ≤ l.length := by
  have := h.length_le
  simp at this
  omega

/-- parts that stand there are got -/
theorem run_put {j : Ins} (hr : j.Rng) (l : List UInt8) : ∀ (L : List Pt) (i : Ins) (k : Nat), i.k = j.k → (∀ p ∈ L, fitsP p j = true) → partsB L j <+: l.drop k → k ≤ l.length →
    runP l L (i, (k : Int)) = some (setAllP L j i, ((k + (partsB L j).length : Nat) : Int))
  | [], i, k, _, _, _, _ => by simp [runP, setAllP, partsB]
  | p :: L, i, k, hi, hf, h, hk => by
    rw [partsB_cons] at h
    have h1 := pre_left h
    obtain ⟨e1, e2, e3⟩ := part_put (i := i) hr (hf p List.mem_cons_self) h1 hk
    have hlen := pre_len h1 hk
    have hs : stepP l p (i, (k : Int)) = some (setP p j i, ((k + (bytesP p j).length : Nat) : Int)) := by
      unfold stepP
      rw [if_pos ⟨e1, by simp only [e2, fits_set hi]; exact hf p List.mem_cons_self⟩]
      simp only [e2, e3]
      simp
    show (stepP l p (i, (k : Int))).bind (runP l L) = _
    rw [hs]
    show runP l L (setP p j i, ((k + (bytesP p j).length : Nat) : Int)) = _
    rw [run_put hr l L _ _ (by rw [set_k, hi]) (fun q hq => hf q (List.mem_cons_of_mem _ hq)) (drop_add h) hlen, setAllP_cons, partsB_cons, List.length_append, Nat.add_assoc]

/-- parts that are got stood there -/
theorem run_got (l : List UInt8) : ∀ (L : List Pt) (i0 i : Ins) (x n : Int), Asides L → i0.Rng → (∃ k : Nat, x = k ∧ k ≤ l.length) → runP l L (i0, x) = some (i, n) →
    ∃ k : Nat, x = k ∧ k ≤ l.length ∧ i.k = i0.k ∧ i.Rng ∧ (∀ p ∈ L, fitsP p i = true) ∧ partsB L i <+: l.drop k ∧ n = ((k + (partsB L i).length : Nat) : Int) ∧
      (∀ q, (∀ p ∈ L, aside q p = true) → bytesP q i = bytesP q i0 ∧ fitsP q i = fitsP q i0) ∧ dropAll L i = dropAll L i0
  | [], i0, i, x, n, _, hr, ⟨k, hx, hk⟩, h => by
    simp only [runP, Option.some.injEq, Prod.mk.injEq] at h
    obtain ⟨rfl, rfl⟩ := h
    exact ⟨k, hx, hk, rfl, hr, (fun p hp => absurd hp (by simp)), (by simp [partsB]), (by simp [partsB, hx]), (fun q _ => ⟨rfl, rfl⟩), rfl⟩
  | p :: L, i0, i, x, n, ha, hr, _, h => by
    have ha' := List.pairwise_cons.1 ha
    have h' : (stepP l p (i0, x)).bind (runP l L) = some (i, n) := h
    by_cases hs : getE p l x = 0 ∧ fitsP p (getI p i0 l x) = true
    · rw [stepP, if_pos hs] at h'
      obtain ⟨k, rfl, hk, b1, b2, b3⟩ := part_got hr hs.1 hs.2
      have hlen := pre_len b1 hk
      have h'' : runP l L (getI p i0 l k, getN p l k) = some (i, n) := h'
      obtain ⟨k2, e1, e2, e3, e4, e5, e6, e7, e8, e9⟩ := run_got l L _ i _ n ha'.2 b3 ⟨k + (bytesP p (getI p i0 l k)).length, by rw [b2]; simp, hlen⟩ h''
      obtain ⟨g1, g2⟩ := e8 p ha'.1
      have hk2 : k2 = k + (bytesP p i).length := by
        rw [g1]; omega
      subst hk2
      refine ⟨k, rfl, hk, by rw [e3, get_k], e4, ?_, ?_, ?_, ?_, ?_⟩
      · intro q hq
        rcases List.mem_cons.1 hq with rfl | hq
        · rw [g2]; exact hs.2
        · exact e5 q hq
      · rw [partsB_cons]
        refine pre_join ?_ e6
        rw [g1]; exact b1
      · rw [e7, partsB_cons, List.length_append, Nat.add_assoc]
      · intro q hq
        obtain ⟨f1, f2⟩ := e8 q (fun p' hp' => hq p' (List.mem_cons_of_mem _ hp'))
        have f3 := hq p List.mem_cons_self
        exact ⟨by rw [f1, bytes_far f3], by rw [f2, fits_far f3]⟩
      · rw [dropAll_cons, dropAll_comm, e9, ← dropAll_comm, drop_get, ← dropAll_cons]
    · rw [stepP, if_neg hs] at h'
      cases h'

theorem isK_range {k : Int} (h : isK k = true) : 1 ≤ k ∧ k ≤ 18 := of_decide_eq_true h
theorem ownB_right {i : Ins} (h : rightB i = true) : ownB i = UInt8.ofNat i.k.toNat :: partsB (ptsOf i.k) i := by
  unfold ownB partsB
  rw [if_pos h]
/-- what was put is got -/
theorem get_put {i : Ins} {l : List UInt8} {k : Nat} (hr : i.Rng) (h : rightB i = true) (hp : ownB i <+: l.drop k) (_hk : k ≤ l.length) :
    gE l k = 0 ∧ gI l k = i ∧ gN l k = ((k + (ownB i).length : Nat) : Int) := by
  obtain ⟨h1, h2, h3⟩ := right_parts h
  rw [ownB_right h] at hp ⊢
  have hp' : [UInt8.ofNat i.k.toNat] ++ partsB (ptsOf i.k) i <+: l.drop k := hp
  obtain ⟨hlt, he⟩ := one_prefix.1 (pre_left hp')
  obtain ⟨e1, e2, e3⟩ := one_at hlt
  have hx : oneX l k = i.k := by
    rw [e2]
    exact (u8_int hr.k0 hr.k1).1 he
  have hd := drop_add hp'
  have hrun := run_put hr l (ptsOf i.k) (insOf i.k) (k + 1) rfl h2 hd (by omega)
  have hg : gR l k = some (i, ((k + 1 + (partsB (ptsOf i.k) i).length : Nat) : Int)) := by
    unfold gR
    rw [hx, if_pos ⟨e1, h1⟩, e3, show (k : Int) + 1 = ((k + 1 : Nat) : Int) by simp, hrun]
    rw [show insOf i.k = dropAll (ptsOf i.k) i from h3.symm, set_all i _ (ptsOf_asides _)]
  refine ⟨by simp [gE, e1, hg], by simp [gI, hg], ?_⟩
  simp only [gN, hg, Option.getD_some, List.length_cons]
  omega
theorem gE_none {l : List UInt8} {x : Int} (h0 : stV l.length x 1 = 0) (hg : gR l x = none) : gE l x = 5 := by
  unfold gE; rw [if_pos h0, hg]; rfl
theorem gI_some {l : List UInt8} {x n : Int} {i : Ins} (hg : gR l x = some (i, n)) : gI l x = i ∧ gN l x = n := by
  unfold gI gN; rw [hg]; exact ⟨rfl, rfl⟩
theorem insOf_rng {k : Int} (h0 : 0 ≤ k) (h1 : k < 256) : (insOf k).Rng := by
  constructor <;> simp only [insOf] <;> omega
theorem dropAll_insOf (k : Int) : dropAll (ptsOf k) (insOf k) = insOf k := by
  unfold ptsOf
  repeat' split
  all_goals rfl
/-- what is got stood there -/
theorem get_got {l : List UInt8} {x : Int} (h : gE l x = 0) : ∃ k : Nat, x = k ∧ k < l.length ∧ (gI l x).Rng ∧ rightB (gI l x) = true ∧ ownB (gI l x) <+: l.drop k ∧ gN l x = ((k + (ownB (gI l x)).length : Nat) : Int) := by
  by_cases h0 : stV l.length x 1 = 0
  · obtain ⟨k, rfl, hk⟩ := one_in h0
    obtain ⟨e1, e2, e3⟩ := one_at hk
    have hu := oneX_u8 l k
    cases hg : gR l k with
    | none => rw [gE_none h0 hg] at h; omega
    | some s =>
      obtain ⟨i, n⟩ := s
      have hg' := hg
      unfold gR at hg'
      by_cases hK : isK (oneX l k) = true
      · rw [if_pos ⟨h0, hK⟩, e3, show (k : Int) + 1 = ((k + 1 : Nat) : Int) by simp] at hg'
        have h0r := insOf_rng hu.1 hu.2
        obtain ⟨k2, c1, c2, c3, c4, c5, c6, c7, _, c9⟩ := run_got l _ _ i _ n (ptsOf_asides _) h0r ⟨k + 1, rfl, by omega⟩ hg'
        have hk2 : k2 = k + 1 := by omega
        subst hk2
        have hik : i.k = oneX l k := c3
        rw [(gI_some hg).1, (gI_some hg).2]
        have hright : rightB i = true := by
          unfold rightB
          rw [hik, hK, c9, dropAll_insOf]
          simp only [Bool.true_and, Bool.and_eq_true, List.all_eq_true, decide_eq_true_eq]
          exact ⟨c5, rfl⟩
        refine ⟨k, rfl, hk, c4, hright, ?_, ?_⟩
        · rw [ownB_right hright, hik]
          refine pre_join (a := [UInt8.ofNat (oneX l k).toNat]) (one_prefix.2 ⟨hk, (u8_int hu.1 hu.2).2 e2.symm⟩) ?_
          exact c6
        · rw [c7, ownB_right hright, hik, List.length_cons]
          congr 1
          omega
      · rw [if_neg (fun h => hK h.2)] at hg'
        cases hg'
  · simp only [gE, if_neg h0] at h
    exact absurd h h0
theorem get_not {l : List UInt8} {x : Int} (h : ¬ gE l x = 0) : gI l x = insOf 0 ∧ gN l x = 0 := by
  have hg : gR l x = none := by
    by_cases h0 : stV l.length x 1 = 0
    · cases hg : gR l x with
      | none => rfl
      | some s => exact absurd (by simp [gE, h0, hg]) h
    · simp [gR, h0]
  simp [gI, gN, hg]

theorem pw_3 : pw 3 = 2097152 := by decide
theorem pw_2 : pw 2 = 16384 := by decide
theorem size_s {n : Int} (h0 : -65536 ≤ n) (h1 : n ≤ 65536) : size true n ≤ 3 := size_le_of (fit_s.2 (.inr (by rw [show 3 - 1 = 2 from rfl, pw_2]; omega))) (by omega)
theorem size_u {n : Int} (h1 : n ≤ 65536) : size false n ≤ 3 := size_le_of (fit_u.2 (.inr (by rw [pw_3]; omega))) (by omega)
theorem parts_len {i : Ins} {k : Int} (hk : 1 ≤ k ∧ k ≤ 18) (hs : size true i.n ≤ 10) (hn : ¬ k = 2 → fitsP .num i = true → size true i.n ≤ 3) (hm : fitsP .many i = true → size false i.m ≤ 3)
    (h2 : ∀ p ∈ ptsOf k, fitsP p i = true) : (partsB (ptsOf k) i).length ≤ 11 := by
  have : k = 1 ∨ k = 2 ∨ k = 3 ∨ k = 4 ∨ k = 5 ∨ k = 6 ∨ k = 7 ∨ k = 8 ∨ k = 9 ∨ k = 10 ∨ k = 11 ∨ k = 12 ∨ k = 13 ∨ k = 14 ∨ k = 15 ∨ k = 16 ∨ k = 17 ∨ k = 18 := by omega
  rcases this with rfl | rfl | rfl | rfl | rfl | rfl | rfl | rfl | rfl | rfl | rfl | rfl | rfl | rfl | rfl | rfl | rfl | rfl
  all_goals
    first | (have q1 := hn (by omega) (h2 .num (by decide))) | skip
    first | (have q2 := hm (h2 .many (by decide))) | skip
    clear hn hm h2 hk
    simp [partsB, ptsOf, bytesP, nB_len, plB] <;> omega
/-- an instruction has so many bytes -/
theorem own_len {i : Ins} (h : rightB i = true) : 1 ≤ (ownB i).length ∧ (ownB i).length ≤ 12 := by
  obtain ⟨h1, h2, _⟩ := right_parts h
  rw [ownB_right h, List.length_cons]
  have := parts_len (isK_range h1) (size_le true i.n) (fun hne hf => by
    have : i.k = 2 ∨ (-65536 ≤ i.n ∧ i.n ≤ 65536) := of_decide_eq_true hf
    exact size_s (by omega) (by omega)) (fun hf => by
    have : 1 ≤ i.m ∧ i.m ≤ 65536 := of_decide_eq_true hf
    exact size_u this.2) h2
  omega

/-- two instructions whose bytes stand at one place are one -/
theorem own_one {i j : Ins} (hi : i.Rng) (hj : j.Rng) (h1 : rightB i = true) (h2 : rightB j = true) {r : List UInt8} (p1 : ownB i <+: r) (p2 : ownB j <+: r) : i = j := by
  obtain ⟨_, a, _⟩ := get_put (l := r) (k := 0) hi h1 (by simpa using p1) (by omega)
  obtain ⟨_, b, _⟩ := get_put (l := r) (k := 0) hj h2 (by simpa using p2) (by omega)
  rw [← a, ← b]

end Go.Proofs.Ytnffiaphpcopjaa
