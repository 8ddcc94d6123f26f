/-
  Plain: what is put is got, and what is got is put as it stood there.
-/
import Derived.Test.YtdapflfbkjoicaaI3J
namespace Go.Proofs.Ytdapflfbkjoicaa
open Go.RowKit

/-- a part of one instruction laid into another one -/
def setP : Pt → Ins → Ins → Ins
  | .op, j, i => { i with o := j.o }
  | .reg, j, i => { i with r := j.r }
  | .both, j, i => { i with r := j.r, s := j.s }
  | .third, j, i => { i with t := j.t }
  | .num, j, i => { i with n := j.n }
  | .many, j, i => { i with m := j.m }
  | .to, j, i => { i with n := j.n }
  | .how, j, i => { i with n := j.n }
/-- do two parts say nothing of one another? -/
def aside : Pt → Pt → Bool
  | .op, .op => false
  | .reg, .reg => false
  | .reg, .both => false
  | .both, .reg => false
  | .both, .both => false
  | .third, .third => false
  | .many, .many => false
  | .num, .num => false
  | .num, .to => false
  | .num, .how => false
  | .to, .num => false
  | .to, .to => false
  | .to, .how => false
  | .how, .num => false
  | .how, .to => false
  | .how, .how => false
  | _, _ => true

theorem set_k (p : Pt) (j i : Ins) : (setP p j i).k = i.k := by cases p <;> rfl
theorem set_self (p : Pt) (j : Ins) : setP p j j = j := by cases p <;> rfl
theorem set_drop (p : Pt) (j i : Ins) : setP p j (dropP p i) = setP p j i := by cases p <;> rfl
theorem set_drop_far {p q : Pt} (h : aside p q = true) (j i : Ins) : setP p j (dropP q i) = dropP q (setP p j i) := by
  cases p <;> cases q <;> first | rfl | cases h
theorem drop_comm (p q : Pt) (i : Ins) : dropP p (dropP q i) = dropP q (dropP p i) := by cases p <;> cases q <;> rfl
theorem drop_get (p : Pt) (i : Ins) (l : List UInt8) (x : Int) : dropP p (getI p i l x) = dropP p i := by cases p <;> rfl
theorem get_k (p : Pt) (i : Ins) (l : List UInt8) (x : Int) : (getI p i l x).k = i.k := by cases p <;> rfl
theorem bytes_far {p q : Pt} (h : aside p q = true) (i : Ins) (l : List UInt8) (x : Int) : bytesP p (getI q i l x) = bytesP p i := by
  cases p <;> cases q <;> first | rfl | cases h
theorem fits_far {p q : Pt} (h : aside p q = true) (i : Ins) (l : List UInt8) (x : Int) : fitsP p (getI q i l x) = fitsP p i := by
  cases p <;> cases q <;> first | rfl | cases h
theorem fits_set {p : Pt} {i j : Ins} (h : i.k = j.k) : fitsP p (setP p j i) = fitsP p j := by
  cases p <;> first | rfl | simp [setP, fitsP, h]
theorem drop_k (p : Pt) (i : Ins) : (dropP p i).k = i.k := by cases p <;> rfl

theorem dropAll_cons (p : Pt) (L : List Pt) (i : Ins) : dropAll (p :: L) i = dropAll L (dropP p i) := rfl
theorem dropAll_comm (p : Pt) : ∀ (L : List Pt) (i : Ins), dropAll L (dropP p i) = dropP p (dropAll L i)
  | [], i => rfl
  | q :: L, i => by rw [dropAll_cons, dropAll_cons, drop_comm, dropAll_comm p L]
theorem set_dropAll {p : Pt} (j : Ins) : ∀ (L : List Pt) (i : Ins), (∀ q ∈ L, aside p q = true) → setP p j (dropAll L i) = dropAll L (setP p j i)
  | [], _, _ => rfl
  | q :: L, i, h => by rw [dropAll_cons, set_dropAll j L _ (fun q hq => h q (List.mem_cons_of_mem _ hq)), set_drop_far (h q List.mem_cons_self), ← dropAll_cons]
def setAllP (L : List Pt) (j i : Ins) : Ins := L.foldl (fun a p => setP p j a) i
theorem setAllP_cons (p : Pt) (L : List Pt) (j i : Ins) : setAllP (p :: L) j i = setAllP L j (setP p j i) := rfl
def Asides (L : List Pt) : Prop := L.Pairwise fun p q => aside p q = true
theorem set_all (j : Ins) : ∀ L : List Pt, Asides L → setAllP L j (dropAll L j) = j
  | [], _ => rfl
  | p :: L, h => by
    have h' := List.pairwise_cons.1 h
    rw [setAllP_cons, dropAll_cons, dropAll_comm, set_drop, set_dropAll j L j h'.1, set_self, set_all j L h'.2]
theorem ptsOf_asides (k : Int) : Asides (ptsOf k) := by
  unfold ptsOf
  repeat' split
  all_goals simp [Asides, aside]

theorem one_prefix {c : UInt8} {l : List UInt8} {k : Nat} : [c] <+: l.drop k ↔ ∃ h : k < l.length, l[k] = c := by
  constructor
  · rintro ⟨t, ht⟩
    have hl := congrArg List.length ht
    simp at hl
    have hk : k < l.length := by omega
    refine ⟨hk, ?_⟩
    rw [List.drop_eq_getElem_cons hk] at ht
    injection ht with h1 _
    exact h1.symm
  · rintro ⟨h, rfl⟩
    rw [List.drop_eq_getElem_cons h]
    exact ⟨_, rfl⟩
theorem three_prefix {a b c : UInt8} {l : List UInt8} {k : Nat} : [a, b, c] <+: l.drop k ↔ ∃ h : k + 2 < l.length, l[k] = a ∧ l[k + 1] = b ∧ l[k + 2] = c := by
  constructor
  · rintro ⟨t, ht⟩
    have hl := congrArg List.length ht
    simp at hl
    have hk : k + 2 < l.length := by omega
    refine ⟨hk, ?_⟩
    rw [List.drop_eq_getElem_cons (show k < l.length by omega), List.drop_eq_getElem_cons (show k + 1 < l.length by omega), List.drop_eq_getElem_cons (show k + 1 + 1 < l.length by omega)] at ht
    simp only [List.cons_append, List.nil_append, List.cons.injEq] at ht
    exact ⟨ht.1.symm, ht.2.1.symm, ht.2.2.1.symm⟩
  · rintro ⟨h, rfl, rfl, rfl⟩
    rw [List.drop_eq_getElem_cons (show k < l.length by omega), List.drop_eq_getElem_cons (show k + 1 < l.length by omega), List.drop_eq_getElem_cons (show k + 1 + 1 < l.length by omega)]
    exact ⟨_, rfl⟩

theorem one_at {l : List UInt8} {k : Nat} (h : k < l.length) : stV l.length k 1 = 0 ∧ oneX l k = (l[k].toNat : Int) ∧ oneN l k = (k : Int) + 1 := by
  have hv : stV l.length k 1 = 0 := st_ok (by omega) (by omega) (by omega)
  exact ⟨hv, by simp [oneX, hv, h], by simp [oneN, hv]⟩
theorem one_in {l : List UInt8} {x : Int} (h : stV l.length x 1 = 0) : ∃ k : Nat, x = k ∧ k < l.length := by
  by_cases hi : 0 ≤ x ∧ x < l.length
  · exact ⟨x.toNat, by omega, by omega⟩
  · exact absurd h (one_bad hi)
theorem place_at {l : List UInt8} {k : Nat} (h : k + 2 < l.length) : stV l.length k 3 = 0 ∧ plX l k = 65536 * (l[k].toNat : Int) + 256 * (l[k + 1].toNat : Int) + (l[k + 2].toNat : Int) ∧ plN l k = (k : Int) + 3 := by
  have hv : stV l.length k 3 = 0 := st_ok (by omega) (by omega) (by omega)
  exact ⟨hv, by simp [plX, hv, show k < l.length by omega, show k + 1 < l.length by omega, h], by simp [plN, hv]⟩
theorem place_in {l : List UInt8} {x : Int} (h : stV l.length x 3 = 0) : ∃ k : Nat, x = k ∧ k + 2 < l.length := by
  by_cases hi : 0 ≤ x ∧ x + 3 ≤ l.length
  · exact ⟨x.toNat, by omega, by omega⟩
  · exact absurd h (pl_bad hi)
theorem u8_int {c : UInt8} {z : Int} (h0 : 0 ≤ z) (h1 : z < 256) : c = UInt8.ofNat z.toNat ↔ (c.toNat : Int) = z := by
  constructor
  · rintro rfl
    simp; omega
  · intro h
    apply UInt8.toNat_inj.1
    simp; omega
theorem plB_at {z : Int} (h0 : 0 ≤ z) (h1 : z < 16777216) (a b c : UInt8) : (a = UInt8.ofNat (z.toNat / 65536) ∧ b = UInt8.ofNat (z.toNat / 256 % 256) ∧ c = UInt8.ofNat (z.toNat % 256)) ↔ 65536 * (a.toNat : Int) + 256 * (b.toNat : Int) + (c.toNat : Int) = z := by
  have ha := a.toNat_lt
  have hb := b.toNat_lt
  have hc := c.toNat_lt
  constructor
  · rintro ⟨rfl, rfl, rfl⟩
    simp; omega
  · intro h
    refine ⟨?_, ?_, ?_⟩ <;> apply UInt8.toNat_inj.1 <;> simp <;> omega

theorem hv_rng {b : Bool} {r : List UInt8} (h : lg r 10 ≠ 0) : rng b (hv b r) := by
  obtain ⟨h1, h2, _, _⟩ := lg_has 10 r h
  have hs := sm_bound (r.take (lg r 10))
  rw [List.length_take, Nat.min_eq_left h2] at hs
  exact val_rng hs.1 hs.2 (by omega) h1
theorem rd_in {b : Bool} {l : List UInt8} {x : Int} (h : rdE b l x = 0) : ∃ k : Nat, x = k ∧ k ≤ l.length ∧ good b (l.drop k) := by
  by_cases hi : x < 0 ∨ (l.length : Int) < x
  · rw [(rd_arg hi).1] at h; omega
  · obtain ⟨k, rfl⟩ : ∃ k : Nat, x = k := ⟨x.toNat, by omega⟩
    refine ⟨k, rfl, by omega, ?_⟩
    by_cases hg : good b (l.drop k)
    · exact hg
    · rw [(rd_form (by omega) hg).1] at h; omega
theorem rd_put {b : Bool} {l : List UInt8} {k : Nat} {z : Int} (hr : rng b z) (h : nB b z <+: l.drop k) (hk : k ≤ l.length) : rdE b l k = 0 ∧ rdX b l k = z ∧ rdN b l k = k + (nB b z).length := by
  obtain ⟨g1, g2, g3⟩ := good_put hr h
  obtain ⟨h1, h2, h3⟩ := rd_ok hk g1
  exact ⟨h1, h2.trans g2, by rw [h3, g3, nB_len]⟩
theorem rd_got {b : Bool} {l : List UInt8} {k : Nat} (hk : k ≤ l.length) (hg : good b (l.drop k)) : rng b (rdX b l k) ∧ nB b (rdX b l k) <+: l.drop k ∧ rdN b l k = k + (nB b (rdX b l k)).length := by
  obtain ⟨h1, h2, h3⟩ := rd_ok hk hg
  rw [h2, h3]
  refine ⟨hv_rng hg.1, hg.2, ?_⟩
  rw [lg_nB hg.2, nB_len]

/-- a part that stands there is got -/
theorem part_put {p : Pt} {i j : Ins} {l : List UInt8} {k : Nat} (hr : j.Rng) (hf : fitsP p j = true) (h : bytesP p j <+: l.drop k) (hk : k ≤ l.length) :
    getE p l k = 0 ∧ getI p i l k = setP p j i ∧ getN p l k = k + (bytesP p j).length := by
  have h4 := hr.o0
  have h5 := hr.o1
  cases p with
  | op =>
    obtain ⟨h1, h2⟩ := one_prefix.1 h
    obtain ⟨e1, e2, e3⟩ := one_at h1
    rw [u8_int h4 h5] at h2
    exact ⟨e1, by simp [getI, setP, e2, h2], e3⟩
  | reg =>
    have hf : 0 ≤ j.r ∧ j.r < 16 := of_decide_eq_true hf
    obtain ⟨h1, h2⟩ := one_prefix.1 h
    obtain ⟨e1, e2, e3⟩ := one_at h1
    rw [u8_int (by omega) (by omega)] at h2
    exact ⟨e1, by simp [getI, setP, e2, h2], e3⟩
  | third =>
    have hf : 0 ≤ j.t ∧ j.t < 16 := of_decide_eq_true hf
    obtain ⟨h1, h2⟩ := one_prefix.1 h
    obtain ⟨e1, e2, e3⟩ := one_at h1
    rw [u8_int (by omega) (by omega)] at h2
    exact ⟨e1, by simp [getI, setP, e2, h2], e3⟩
  | how =>
    have hf : 2 ≤ j.n ∧ j.n ≤ 4 := of_decide_eq_true hf
    obtain ⟨h1, h2⟩ := one_prefix.1 h
    obtain ⟨e1, e2, e3⟩ := one_at h1
    rw [u8_int (by omega) (by omega)] at h2
    exact ⟨e1, by simp [getI, setP, e2, h2], e3⟩
  | both =>
    have hf' : isR j.r = true ∧ isR j.s = true := by simpa [fitsP] using hf
    have g1 : 0 ≤ j.r ∧ j.r < 16 := of_decide_eq_true hf'.1
    have g2 : 0 ≤ j.s ∧ j.s < 16 := of_decide_eq_true hf'.2
    obtain ⟨h1, h2⟩ := one_prefix.1 h
    obtain ⟨e1, e2, e3⟩ := one_at h1
    rw [u8_int (by omega) (by omega)] at h2
    refine ⟨e1, ?_, e3⟩
    show { i with r := oneX l k / 16, s := oneX l k % 16 } = { i with r := j.r, s := j.s }
    rw [e2, h2, show (j.r * 16 + j.s) / 16 = j.r by omega, show (j.r * 16 + j.s) % 16 = j.s by omega]
  | num =>
    obtain ⟨e1, e2, e3⟩ := rd_put (b := true) ⟨hr.n0, hr.n1⟩ h hk
    exact ⟨e1, by simp [getI, setP, e2], e3⟩
  | many =>
    have hf : 1 ≤ j.m ∧ j.m ≤ 65536 := of_decide_eq_true hf
    obtain ⟨e1, e2, e3⟩ := rd_put (b := false) (show rng false j.m from ⟨by omega, by omega⟩) h hk
    have : wrap64 j.m = j.m := by unfold wrap64; omega
    exact ⟨e1, by simp [getI, setP, e2, this], e3⟩
  | to =>
    have hf : 0 ≤ j.n ∧ j.n < 16777216 := of_decide_eq_true hf
    obtain ⟨h1, h2, h3, h6⟩ := three_prefix.1 h
    obtain ⟨e1, e2, e3⟩ := place_at h1
    have := (plB_at hf.1 hf.2 _ _ _).1 ⟨h2, h3, h6⟩
    exact ⟨e1, by simp [getI, setP, e2, this], e3⟩

theorem rng_o {i : Ins} (h : i.Rng) {z : Int} (h0 : 0 ≤ z) (h1 : z < 256) : Ins.Rng { i with o := z } := ⟨h.k0, h.k1, h0, h1, h.r0, h.r1, h.s0, h.s1, h.t0, h.t1, h.n0, h.n1, h.m0, h.m1⟩
/-- a part that is got, and fits, stood there -/
theorem part_got {p : Pt} {i : Ins} {l : List UInt8} {x : Int} (hr : i.Rng) (he : getE p l x = 0) (hf : fitsP p (getI p i l x) = true) :
    ∃ k : Nat, x = k ∧ k ≤ l.length ∧ bytesP p (getI p i l x) <+: l.drop k ∧ getN p l x = k + (bytesP p (getI p i l x)).length ∧ (getI p i l x).Rng := by
  have hu := oneX_u8 l x
  obtain ⟨k0, k1, o0, o1, r0, r1, s0, s1, t0, t1, n0, n1, m0, m1⟩ := hr
  cases p with
  | op =>
    obtain ⟨k, rfl, hk⟩ := one_in he
    obtain ⟨e1, e2, e3⟩ := one_at hk
    exact ⟨k, rfl, by omega, one_prefix.2 ⟨hk, (u8_int hu.1 hu.2).2 e2.symm⟩, e3, ⟨k0, k1, hu.1, hu.2, r0, r1, s0, s1, t0, t1, n0, n1, m0, m1⟩⟩
  | reg =>
    obtain ⟨k, rfl, hk⟩ := one_in he
    obtain ⟨e1, e2, e3⟩ := one_at hk
    exact ⟨k, rfl, by omega, one_prefix.2 ⟨hk, (u8_int hu.1 hu.2).2 e2.symm⟩, e3, ⟨k0, k1, o0, o1, by simp only [getI]; omega, by simp only [getI]; omega, s0, s1, t0, t1, n0, n1, m0, m1⟩⟩
  | third =>
    obtain ⟨k, rfl, hk⟩ := one_in he
    obtain ⟨e1, e2, e3⟩ := one_at hk
    exact ⟨k, rfl, by omega, one_prefix.2 ⟨hk, (u8_int hu.1 hu.2).2 e2.symm⟩, e3, ⟨k0, k1, o0, o1, r0, r1, s0, s1, by simp only [getI]; omega, by simp only [getI]; omega, n0, n1, m0, m1⟩⟩
  | how =>
    obtain ⟨k, rfl, hk⟩ := one_in he
    obtain ⟨e1, e2, e3⟩ := one_at hk
    exact ⟨k, rfl, by omega, one_prefix.2 ⟨hk, (u8_int hu.1 hu.2).2 e2.symm⟩, e3, ⟨k0, k1, o0, o1, r0, r1, s0, s1, t0, t1, by simp only [getI]; omega, by simp only [getI]; omega, m0, m1⟩⟩
  | both =>
    obtain ⟨k, rfl, hk⟩ := one_in he
    obtain ⟨e1, e2, e3⟩ := one_at hk
    refine ⟨k, rfl, by omega, one_prefix.2 ⟨hk, ?_⟩, e3, ⟨k0, k1, o0, o1, by simp only [getI]; omega, by simp only [getI]; omega, by simp only [getI]; omega, by simp only [getI]; omega, t0, t1, n0, n1, m0, m1⟩⟩
    show l[k] = UInt8.ofNat (oneX l k / 16 * 16 + oneX l k % 16).toNat
    rw [show oneX l k / 16 * 16 + oneX l k % 16 = oneX l k by omega]
    exact (u8_int hu.1 hu.2).2 e2.symm
  | num =>
    obtain ⟨k, rfl, hk, hg⟩ := rd_in he
    obtain ⟨g1, g2, g3⟩ := rd_got hk hg
    exact ⟨k, rfl, hk, g2, g3, ⟨k0, k1, o0, o1, r0, r1, s0, s1, t0, t1, g1.1, g1.2, m0, m1⟩⟩
  | many =>
    have hf : 1 ≤ wrap64 (rdX false l x) ∧ wrap64 (rdX false l x) ≤ 65536 := of_decide_eq_true hf
    obtain ⟨k, rfl, hk, hg⟩ := rd_in he
    obtain ⟨g1, g2, g3⟩ := rd_got hk hg
    have g4 : 0 ≤ rdX false l k ∧ rdX false l k < 18446744073709551616 := g1
    have e : wrap64 (rdX false l k) = rdX false l k := by unfold wrap64 at *; omega
    have e' : (getI .many i l k).m = rdX false l k := e
    refine ⟨k, rfl, hk, ?_, ?_, ⟨k0, k1, o0, o1, r0, r1, s0, s1, t0, t1, n0, n1, by rw [e']; omega, by rw [e']; omega⟩⟩
    · show nB false (getI .many i l k).m <+: _
      rw [e']; exact g2
    · show _ = (k : Int) + (nB false (getI .many i l k).m).length
      rw [e']; exact g3
  | to =>
    have hf : 0 ≤ plX l x ∧ plX l x < 16777216 := of_decide_eq_true hf
    obtain ⟨k, rfl, hk⟩ := place_in he
    obtain ⟨e1, e2, e3⟩ := place_at hk
    have := (plB_at hf.1 hf.2 _ _ _).2 e2.symm
    exact ⟨k, rfl, by omega, three_prefix.2 ⟨hk, this⟩, e3, ⟨k0, k1, o0, o1, r0, r1, s0, s1, t0, t1, by simp only [getI]; omega, by simp only [getI]; omega, m0, m1⟩⟩

end Go.Proofs.Ytdapflfbkjoicaa
