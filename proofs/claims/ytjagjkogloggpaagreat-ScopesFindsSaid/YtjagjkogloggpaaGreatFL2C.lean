/-
  Merged for a claim: L2C.
-/
import Derived.Test.YtjagjkogloggpaaGreatFJ2
namespace Go.Proofs.YtjagjkogloggpaaGreat

/-- byte j -/
def by_ (r : List UInt8) (j : Nat) : Nat := (r.getD j 0).toNat
theorem by_lt (r : List UInt8) (j : Nat) : by_ r j < 256 := (r.getD j 0).toNat_lt
theorem by_none (r : List UInt8) (j : Nat) (h : r.length ≤ j) : by_ r j = 0 := by unfold by_; rw [List.getD_eq_getElem?_getD, List.getElem?_eq_none h]; rfl
theorem by_get (r : List UInt8) (j : Nat) (h : j < r.length) : by_ r j = r[j].toNat := by simp [by_, h]
theorem by_zero (c : UInt8) (r : List UInt8) : by_ (c :: r) 0 = c.toNat := rfl
theorem by_succ (c : UInt8) (r : List UInt8) (j : Nat) : by_ (c :: r) (j + 1) = by_ r j := rfl

/-- how many bytes there are up to the first one below 128; 0: none of the first k is -/
def lg : List UInt8 → Nat → Nat
  | _, 0 => 0
  | [], _ => 0
  | c :: r, k + 1 => if c.toNat < 128 then 1 else if lg r k = 0 then 0 else lg r k + 1

theorem lg_is : ∀ (k : Nat) (r : List UInt8) (n : Nat), 1 ≤ n → n ≤ k → n ≤ r.length → by_ r (n - 1) < 128 → (∀ j, j < n - 1 → 128 ≤ by_ r j) → lg r k = n
  | 0, _, n, h1, h2, _, _, _ => by omega
  | k + 1, [], n, h1, _, h3, _, _ => by simp at h3; omega
  | k + 1, c :: r, n, h1, h2, h3, h4, h5 => by
    unfold lg
    by_cases hn : n = 1
    · subst hn
      rw [if_pos (by simpa [by_zero] using h4)]
    · obtain ⟨m, rfl⟩ : ∃ m, n = m + 2 := ⟨n - 2, by omega⟩
      have h0 := h5 0 (by omega)
      rw [by_zero] at h0
      rw [if_neg (by omega)]
      have := lg_is k r (m + 1) (by omega) (by omega) (by simpa using h3) (by simpa [by_succ] using h4) (fun j hj => by have := h5 (j + 1) (by omega); rwa [by_succ] at this)
      rw [this, if_neg (by omega)]
theorem lg_none : ∀ (k : Nat) (r : List UInt8), (∀ j, j < k → j < r.length → 128 ≤ by_ r j) → lg r k = 0
  | 0, r, _ => by cases r <;> rfl
  | k + 1, [], _ => rfl
  | k + 1, c :: r, h => by
    unfold lg
    have h0 := h 0 (by omega) (by simp)
    rw [by_zero] at h0
    rw [if_neg (by omega), lg_none k r (fun j hj hl => by have := h (j + 1) (by omega) (by simpa using hl); rwa [by_succ] at this)]
    rfl
theorem lg_has : ∀ (k : Nat) (r : List UInt8), lg r k ≠ 0 → lg r k ≤ k ∧ lg r k ≤ r.length ∧ by_ r (lg r k - 1) < 128 ∧ ∀ j, j < lg r k - 1 → 128 ≤ by_ r j
  | 0, r, h => by cases r <;> exact absurd rfl h
  | k + 1, [], h => absurd rfl h
  | k + 1, c :: r, h => by
    unfold lg at h ⊢
    by_cases hc : c.toNat < 128
    · rw [if_pos hc]
      exact ⟨by omega, by simp, by simpa [by_zero] using hc, fun j hj => by omega⟩
    · rw [if_neg hc] at h ⊢
      by_cases h0 : lg r k = 0
      · rw [if_pos h0] at h; exact absurd rfl h
      · rw [if_neg h0]
        obtain ⟨h1, h2, h3, h4⟩ := lg_has k r h0
        refine ⟨by omega, by simpa using h2, ?_, fun j hj => ?_⟩
        · obtain ⟨m, hm⟩ : ∃ m, lg r k = m + 1 := ⟨lg r k - 1, by omega⟩
          rw [hm] at h3 ⊢
          simpa [by_succ] using h3
        · rcases j with _ | j
          · rw [by_zero]; omega
          · rw [by_succ]; exact h4 j (by omega)

theorem sm_inj : ∀ (l m : List UInt8), l.length = m.length → (∀ j, by_ l j < 128 ↔ by_ m j < 128) → sm l = sm m → l = m
  | [], [], _, _, _ => rfl
  | [], _ :: _, h, _, _ => by simp at h
  | _ :: _, [], h, _, _ => by simp at h
  | c :: r, d :: q, h, hf, hs => by
    have h0 := hf 0
    rw [by_zero, by_zero] at h0
    simp only [sm] at hs
    have hc := c.toNat_lt
    have hd := d.toNat_lt
    have e : c.toNat = d.toNat := by omega
    have := sm_inj r q (by simpa using h) (fun j => by have := hf (j + 1); rwa [by_succ, by_succ] at this) (by omega)
    rw [this, UInt8.toNat_inj.1 e]

theorem sm_take_succ (r : List UInt8) (k : Nat) (h : k < r.length) : sm (r.take (k + 1)) = sm (r.take k) + pw k * ((by_ r k : Int) % 128) := by
  rw [List.take_succ_eq_append_getElem h, sm_append, by_get r k h]
  simp [sm, show min k r.length = k by omega]
theorem sm_top (r : List UInt8) (k : Nat) (h : k < r.length) (hb : by_ r k < 128) : sm (r.take (k + 1)) / pw k = by_ r k := by
  have hp := pw_pos k
  have hs := sm_bound (r.take k)
  rw [List.length_take, show min k r.length = k by omega] at hs
  rw [sm_take_succ r k h, Int.add_mul_ediv_left _ _ (by omega), Int.ediv_eq_zero_of_lt hs.1 hs.2]
  omega

/-- what n bytes told are, is the number of the digits -/
theorem told_val {b : Bool} {s : Int} {n : Nat} (h0 : 0 ≤ s) (h1 : s < pw n) (hn : 1 ≤ n) (hn2 : n ≤ 9) : told b s n = val b s n := by
  obtain ⟨k, rfl⟩ : ∃ k, n = k + 1 := ⟨n - 1, by omega⟩
  have hp := pw_succ k
  have hq := pw_pos k
  have h9 := pw_lt9 (show k + 1 ≤ 9 by omega)
  unfold told val
  rw [if_neg (by omega)]
  cases b
  · simp only [Bool.false_eq_true, if_false]
    rw [Int.emod_eq_of_lt h0 h1]; omega
  · simp only [if_true, Nat.add_sub_cancel]
    rw [if_pos (by omega)]
    split
    · rw [Int.emod_eq_of_lt (by omega) (by omega)]; omega
    · have e : (s + 64 * pw k) % pw (k + 1) = s + 64 * pw k - pw (k + 1) := by
        have := Int.add_emod_right (s + 64 * pw k - pw (k + 1)) (pw (k + 1))
        rw [Int.sub_add_cancel] at this
        rw [this]; exact Int.emod_eq_of_lt (by omega) (by omega)
      rw [e]; omega

theorem val_back {b : Bool} {s : Int} {n : Nat} (h0 : 0 ≤ s) (h1 : s < pw n) (hn : 1 ≤ n) (hn2 : n ≤ 10) (hd : dgt (val b s n) (n - 1) = s / pw (n - 1)) : val b s n % pw n = s := by
  obtain ⟨k, rfl⟩ : ∃ k, n = k + 1 := ⟨n - 1, by omega⟩
  have hp := pw_succ k
  have hq := pw_pos k
  by_cases hk : k < 9
  · have h9 := pw_lt9 (show k + 1 ≤ 9 by omega)
    unfold val
    cases b
    · simp only [Bool.false_eq_true, if_false]
      rw [Int.emod_eq_of_lt (by omega) (show s < 18446744073709551616 by omega), Int.emod_eq_of_lt h0 h1]
    · simp only [if_true, Nat.add_sub_cancel]
      rw [if_pos (by omega)]
      split
      · exact Int.emod_eq_of_lt h0 h1
      · have := Int.add_emod_right (s - pw (k + 1)) (pw (k + 1))
        rw [Int.sub_add_cancel] at this
        rw [← this]; exact Int.emod_eq_of_lt h0 h1
  · have : k = 9 := by omega
    subst this
    simp only [Nat.add_sub_cancel, dgt, pw_9] at hd
    rw [pw_10] at *
    unfold val at *
    cases b
    · simp only [Bool.false_eq_true, if_false] at *
      omega
    · simp only [if_true] at *
      rw [if_neg (by omega)] at *
      split at hd
      · rw [if_pos (by assumption)]; omega
      · rw [if_neg (by assumption)]; omega

/-- the number that stands at the head of bytes, if its own do -/
def hv (b : Bool) (r : List UInt8) : Int := val b (sm (r.take (lg r 10))) (lg r 10)
def good (b : Bool) (r : List UInt8) : Prop := lg r 10 ≠ 0 ∧ nB b (hv b r) <+: r
instance (b : Bool) (r : List UInt8) : Decidable (good b r) := by unfold good; infer_instance

theorem enc_flags (x : Int) (n j : Nat) : by_ (enc x n) j < 128 ↔ n ≤ j + 1 := by
  by_cases h : j < n
  · rw [by_get _ _ (by rw [enc_len]; exact h), enc_get]
    have := dgt_lt x j
    by_cases e : j + 1 < n
    · have := eb_more x n j e
      omega
    · have := eb_last x n j (by omega)
      omega
  · rw [by_none _ _ (by rw [enc_len]; omega)]
    omega

theorem by_prefix {l r : List UInt8} (h : l <+: r) {j : Nat} (hj : j < l.length) : by_ r j = by_ l j := by
  obtain ⟨t, rfl⟩ := h
  rw [by_get _ _ hj, by_get _ _ (by simp; omega), List.getElem_append_left hj]

theorem lg_nB {b : Bool} {x : Int} {r : List UInt8} (h : nB b x <+: r) : lg r 10 = size b x := by
  have h1 := size_pos b x
  have h2 := size_le b x
  have hl := nB_len b x
  have hle := h.length_le
  refine lg_is 10 r _ h1 h2 (by omega) ?_ (fun j hj => ?_)
  · rw [by_prefix h (by omega)]
    exact (enc_flags x _ _).2 (by omega)
  · rw [by_prefix h (by omega)]
    have := enc_flags x (size b x) j
    unfold nB; omega

theorem by_take (r : List UInt8) (n j : Nat) (h : j < n) : by_ (r.take n) j = by_ r j := by
  simp [by_, h]

theorem good_iff {b : Bool} {r : List UInt8} {n : Nat} (hn : lg r 10 = n) (h0 : n ≠ 0) : good b r ↔ size b (val b (sm (r.take n)) n) = n ∧ dgt (val b (sm (r.take n)) n) (n - 1) = by_ r (n - 1) := by
  obtain ⟨h1, h2, h3, h4⟩ := lg_has 10 r (by omega)
  rw [hn] at h1 h2 h3 h4
  have hs := sm_bound (r.take n)
  rw [List.length_take, show min n r.length = n by omega] at hs
  constructor
  · rintro ⟨_, hp⟩
    unfold hv at hp
    rw [hn] at hp
    have e := lg_nB hp
    rw [hn] at e
    refine ⟨e.symm, ?_⟩
    rw [by_prefix hp (by rw [nB_len, ← e]; omega)]
    unfold nB
    rw [← e, by_get _ _ (by rw [enc_len]; omega), enc_get]
    exact (eb_last _ _ _ (by omega)).symm
  · rintro ⟨e, hd⟩
    refine ⟨by omega, ?_⟩
    unfold hv nB
    rw [hn, e]
    have ht := sm_top r (n - 1) (by omega) h3
    rw [show n - 1 + 1 = n by omega] at ht
    have hm := val_back (b := b) hs.1 hs.2 (by omega) h1 (by rw [ht]; exact hd)
    have : enc (val b (sm (r.take n)) n) n = r.take n := by
      refine sm_inj _ _ (by rw [enc_len]; simp; omega) (fun j => ?_) (by rw [sm_enc, hm])
      rw [enc_flags]
      by_cases hj : j < n
      · rw [by_take _ _ _ hj]
        by_cases e : j = n - 1
        · subst e; omega
        · have := h4 j (by omega); omega
      · rw [by_none _ _ (by simp; omega)]
        omega
    rw [this]
    exact List.take_prefix _ _

theorem good_put {b : Bool} {x : Int} (hr : rng b x) {r : List UInt8} (h : nB b x <+: r) : good b r ∧ hv b r = x ∧ lg r 10 = size b x := by
  have hl := lg_nB h
  have hv_ : hv b r = x := by
    unfold hv
    rw [hl]
    have e : r.take (size b x) = nB b x := by
      obtain ⟨t, rfl⟩ := h
      rw [← nB_len b x]; simp
    rw [e]
    unfold nB
    rw [sm_enc]
    exact val_enc hr (size_pos b x) (size_le b x) (size_fit b x)
  refine ⟨⟨?_, by rw [hv_]; exact h⟩, hv_, hl⟩
  have := size_pos b x
  omega
theorem good_take {b : Bool} {r : List UInt8} (h : good b r) : r.take (lg r 10) = nB b (hv b r) := by
  have e := lg_nB h.2
  rw [e, ← nB_len b (hv b r)]
  exact (List.prefix_iff_eq_take.1 h.2).symm
theorem lg_cut {b : Bool} {x : Int} {k : Nat} (h : k < size b x) : lg ((nB b x).take k) 10 = 0 := by
  refine lg_none 10 _ fun j _ hj => ?_
  have hj' : j < k := by simp at hj; omega
  rw [by_take _ _ _ hj']
  have := enc_flags x (size b x) j
  unfold nB; omega

/-- what is read: the error, the number, the place behind it -/
def rdE (b : Bool) (l : List UInt8) (i : Int) : Int := if i < 0 ∨ (l.length : Int) < i then 1 else if good b (l.drop i.toNat) then 0 else 5
def rdX (b : Bool) (l : List UInt8) (i : Int) : Int := if rdE b l i = 0 then hv b (l.drop i.toNat) else 0
def rdN (b : Bool) (l : List UInt8) (i : Int) : Int := if rdE b l i = 0 then i + lg (l.drop i.toNat) 10 else 0

theorem rd_arg {b : Bool} {l : List UInt8} {i : Int} (h : i < 0 ∨ (l.length : Int) < i) : rdE b l i = 1 ∧ rdX b l i = 0 ∧ rdN b l i = 0 := by
  have e : rdE b l i = 1 := by unfold rdE; rw [if_pos h]
  simp [rdX, rdN, e]
theorem rd_form {b : Bool} {l : List UInt8} {k : Nat} (h : k ≤ l.length) (hg : ¬ good b (l.drop k)) : rdE b l k = 5 ∧ rdX b l k = 0 ∧ rdN b l k = 0 := by
  have e : rdE b l k = 5 := by unfold rdE; rw [if_neg (by omega), if_neg (by simpa using hg)]
  simp [rdX, rdN, e]
theorem rd_ok {b : Bool} {l : List UInt8} {k : Nat} (h : k ≤ l.length) (hg : good b (l.drop k)) : rdE b l k = 0 ∧ rdX b l k = hv b (l.drop k) ∧ rdN b l k = k + lg (l.drop k) 10 := by
  have e : rdE b l k = 0 := by unfold rdE; rw [if_neg (by omega), if_pos (by simpa using hg)]
  simp [rdX, rdN, e]

end Go.Proofs.YtjagjkogloggpaaGreat
