/-
  Merged for a claim: L7B, L2A, L2C.
-/
import Derived.Test.YtbkfkdiadeaooaaGreatHJ1
import Derived.Test.YtbkfkdiadeaooaaGreatKF
import Derived.Shelf.Abstract
import Derived.OwnWalkIn
import Derived.TacticsInMore
import Derived.LoopNIn
import Derived.LoopIn
import Derived.Laws.BitsAllLaws
import Derived.Laws.BitsLemmas
namespace Go.Proofs.YtbkfkdiadeaooaaGreat
open Go Go.RowKit

theorem wideFn (f : FuncId) : Fence.wide.fn f = True := rfl
theorem wideDepth : Fence.wide.depth = none := rfl
attribute [local go_sem] Oper.semAt_some wideFn wideDepth

/-- x is the next one of L behind pre -/
def Nxt {α : Type} (L pre : List α) (x : α) : Prop := ∃ k, pre = L.take k ∧ L[k]? = some x
theorem Nxt.take {α : Type} {L pre : List α} {x : α} (h : Nxt L pre x) : pre ++ [x] = L.take (pre.length + 1) ∧ pre.length < L.length ∧ L[pre.length]? = some x := by
  obtain ⟨k, rfl, hk⟩ := h
  obtain ⟨hlt, rfl⟩ := List.getElem?_eq_some_iff.1 hk
  have : (L.take k).length = k := by simp; omega
  rw [this]
  exact ⟨List.take_append_getElem hlt, hlt, hk⟩
theorem Nxt.mem {α : Type} {L pre : List α} {x : α} (h : Nxt L pre x) : x ∈ L := List.mem_of_getElem? h.take.2.2
/-- each span with where the one ahead ends -/
def prs (ps : List Ps) : List (Int × Ps) := (0 :: ps.map Ps.t).zip ps
theorem prs_len (ps : List Ps) : (prs ps).length = ps.length := by simp [prs]
theorem prs_mem {ps : List Ps} {q : Int × Ps} (h : q ∈ prs ps) : q.2 ∈ ps := (List.of_mem_zip (show (q.1, q.2) ∈ (0 :: ps.map Ps.t).zip ps from h)).2
def aht (ps : List Ps) (k : Nat) : Int := ((0 :: ps.map Ps.t)[k]?).getD 0
theorem aht_zero (ps : List Ps) : aht ps 0 = 0 := by simp [aht]
theorem aht_succ {ps : List Ps} {k : Nat} (h : k < ps.length) : aht ps (k + 1) = ps[k].t := by simp [aht, h]
theorem prs_at {ps : List Ps} {k : Nat} (h : k < ps.length) : (prs ps)[k]? = some (aht ps k, ps[k]) := by
  unfold prs
  rw [List.getElem?_zip_eq_some]
  refine ⟨?_, List.getElem?_eq_getElem h⟩
  unfold aht
  rw [List.getElem?_eq_getElem (by simp; omega)]
  rfl
theorem nxt_at {α : Type} {L : List α} {k : Nat} {x : α} (h : L[k]? = some x) : Nxt L (L.take k) x := ⟨k, rfl, h⟩
theorem take_next {α : Type} {L : List α} {k : Nat} {x : α} (h : L[k]? = some x) : L.take k ++ [x] = L.take (k + 1) := by
  obtain ⟨hlt, rfl⟩ := List.getElem?_eq_some_iff.1 h
  exact List.take_append_getElem hlt
theorem Same.fresh {K : Nat → Prop} {B : Nat} {A C : World} (h : Same (fun k => K k ∨ B ≤ k) A C) {k : Nat} {o : Obj} (hk : A.heap[k]? = some o) (hB : B ≤ k) : C.heap[k]? = some o := h.blk k o hk (.inr hB)
theorem Same.old {K : Nat → Prop} {B n : Nat} {A C : World} (h : Same (fun k => K k ∨ B ≤ k) A C) (hK : ∀ k, k < n → K k) (hn : n ≤ A.heap.size) : Below n A C := by
  refine ⟨h.os, h.tape, h.output, h.size, fun k hk => ?_⟩
  rw [Array.getElem?_eq_getElem (show k < A.heap.size by omega)]
  exact h.blk k _ (Array.getElem?_eq_getElem (show k < A.heap.size by omega)) (.inl (hK k hk))
/-- a new span's block behind a round -/
theorem SpAt.fresh {K : Nat → Prop} {W W' : World} {p : Ps} (h : Same (fun k => K k ∨ W.heap.size ≤ k) (W.alloc (.cells (pK p) 77)) W') : SpAt W' W.heap.size p := h.fresh (spAt_new W p) (Nat.le_refl _)

set_option maxRecDepth 100000 in
set_option maxHeartbeats 2000000 in
theorem inOrder_seq (gb n0 c : Nat) (A : Option Addr) (ps : List Ps) (w : World) (hgb : gb < w.heap.size) (hc : w.cell? ⟨gb, 0, none⟩ = some (.slice A ps.length c)) (hP : PLies w n0 A ps) (hn : n0 ≤ w.heap.size) (hsz : ps.length ≤ 1099511627776) :
    SeqC 99 #[.pointer (some ⟨gb, 0, none⟩)] (fun q : Int × Ps => #[.int .i64 q.1, .agg (pK q.2)]) (fun _ => False) (fun k => k < n0) (fun pre x _ => Nxt (prs ps) pre x) (fun xs => xs = prs ps) w := by
  intro l J Jx W hz hb hJ hJx hY h0
  have hcW := (hb.cell (p := ⟨gb, 0, none⟩) hgb).trans hc
  have hPW := Lib.hid (hP.below (hb.mono hn))
  have hzw := hb.size
  clear hc hP
  refine callsIn_of_wp Tryz.func99 rfl trivial ?_ rfl
  simp only [Tryz.ntmps99, List.size_toArray, List.length_cons, List.length_nil, Nat.reduceAdd, Nat.reduceSub, Array.replicate_succ, Array.replicate_zero, List.push_toArray, List.append_toArray, List.nil_append, List.cons_append]
  gi_wp2
  gi_loopw [3, 8] (fun a i wr => ∃ k : Nat, k ≤ ps.length ∧ i = .int .i64 k ∧ a = .int .i64 (aht ps k) ∧ Hid (J ((prs ps).take k) wr) ∧ Hid (PLies wr n0 A ps) ∧ n0 ≤ wr.heap.size) (fun _ i _ => ps.length - (intOf i).toNat)
  case atStart => exact ⟨0, by omega, rfl, by rw [aht_zero], h0, hPW, by omega⟩
  case round =>
    obtain ⟨k, hk, rfl, rfl, hJs, hPs, hnr⟩ := hrel
    by_cases hlt : k < ps.length
    · obtain ⟨g, o, rfl, hg, c1, c2, c3⟩ := hPs.out.at_ hlt
      have hat := prs_at hlt
      have hta := take_next hat
      have hts := aht_succ hlt
      have hst : Lets (fun _ => False) wr.heap.size wr (wr.alloc (.cells (pK ps[k]) 77)) := lets_alloc _ _
      have hbl := Lib.hid (below_lnew wr (.cells (pK ps[k]) 77))
      obtain ⟨fn, tmps, assign, body, hy, hR⟩ := hY _ _ wr (wr.alloc (.cells (pK ps[k]) 77)) hJs.out hst (nxt_at hat)
      have hfr := fun W' => SpAt.fresh (K := fun k => k < n0) (W := wr) (W' := W') (p := ps[k])
      clear hst
      have HTS := Lib.hid hts
      have HTA := Lib.hid hta
      clear hts hta hat
      generalize ps[k] = p at *
      generalize aht ps k = al at *
      obtain ⟨pf, pt, pa, pA, pc⟩ := p
      unfold pK at *
      dsimp only at hy c1 c2 c3
      gi_wp2
      refine hR.mono ?_
      rintro e W3 (⟨rfl, hJ3, hk3⟩ | ⟨rfl, hJx3⟩)
      · have hs3 := hfr _ hk3
        have d1 := hs3.to
        have HB3 := Lib.hid (hk3.old (n := n0) (fun _ h => h) (by simp; omega))
        have hz3 := hk3.size
        simp only [World.size_alloc] at hz3
        clear hs3 hk3 hfr
        gi_wp2
        go_roundw
        case rel => exact ⟨k + 1, by omega, by go_num, by rw [HTS.out], by rw [← HTA.out]; exact hJ3, (hPs.out.below (hbl.out.mono hnr)).below HB3.out, by omega⟩
        case measure => simp [intOf]; omega
      · gi_wp2
        refine bodyPost_ret (results_none rfl _ _ _) rfl ?_
        exact ⟨⟨_, rfl⟩, .inr ⟨_, hJx3⟩⟩
    · obtain rfl : k = ps.length := by omega
      gi_wp2
      go_end0
      refine ⟨⟨_, rfl⟩, .inl ⟨_, rfl, ?_⟩⟩
      have := hJs.out
      rwa [← prs_len, List.take_length] at this

set_option maxHeartbeats 1000000 in
theorem inOrder_any (A : Option Addr) (n c : Nat) (w : World) : Calls Tryz.prog 83 #[.slice A n c] w fun e w' => e = .returned (.func (.func 99) #[] #[.pointer (some ⟨w.heap.size, 0, none⟩)]) ∧ w.alloc (.cells #[.slice A n c] 69) = w' := by
  go_enter Tryz.func83, Tryz.ntmps83
  go_wp2
  go_ret
  exact ⟨rfl, rfl⟩
end Go.Proofs.YtbkfkdiadeaooaaGreat

namespace Go.Proofs.YtbkfkdiadeaooaaGreat

/-- 128 to the n -/
def pw (n : Nat) : Int := 2 ^ (7 * n)
theorem pw_succ (n : Nat) : pw (n + 1) = 128 * pw n := by
  unfold pw
  rw [show 7 * (n + 1) = 7 * n + 7 from by omega, Int.pow_add]
  omega
theorem pw_pos (n : Nat) : 0 < pw n := by unfold pw; exact Int.pow_pos (by omega)
theorem pw_zero : pw 0 = 1 := rfl

/-- do n bytes say the number? b: it may be below 0 -/
def fit (b : Bool) (x : Int) (n : Nat) : Prop := 10 ≤ n ∨ (if b = true then -(64 * pw (n - 1)) ≤ x ∧ x < 64 * pw (n - 1) else x < pw n)
instance (b : Bool) (x : Int) (n : Nat) : Decidable (fit b x n) := by unfold fit; infer_instance
def rng (b : Bool) (x : Int) : Prop := if b = true then -9223372036854775808 ≤ x ∧ x < 9223372036854775808 else 0 ≤ x ∧ x < 18446744073709551616
theorem fit_u {x : Int} {n : Nat} : fit false x n ↔ 10 ≤ n ∨ x < pw n := by simp [fit]
theorem fit_s {x : Int} {n : Nat} : fit true x n ↔ 10 ≤ n ∨ (-(64 * pw (n - 1)) ≤ x ∧ x < 64 * pw (n - 1)) := by simp [fit]
theorem pw_mono {m n : Nat} (h : m ≤ n) : pw m ≤ pw n := by
  obtain ⟨k, rfl⟩ := Nat.exists_eq_add_of_le h
  induction k with
  | zero => exact Int.le_refl _
  | succ k ih =>
    have := ih (by omega)
    have := pw_pos (m + k)
    rw [← Nat.add_assoc, pw_succ]; omega
def lsz (b : Bool) (x : Int) : Nat → Nat → Nat
  | 0, n => n
  | k + 1, n => if fit b x n then n else lsz b x k (n + 1)
/-- the least count of bytes that say it -/
def size (b : Bool) (x : Int) : Nat := lsz b x 9 1

theorem lsz_spec (b : Bool) (x : Int) : ∀ k n, n + k = 10 → n ≤ lsz b x k n ∧ lsz b x k n ≤ 10 ∧ fit b x (lsz b x k n) ∧ ∀ m, n ≤ m → m < lsz b x k n → ¬ fit b x m := by
  intro k
  induction k with
  | zero => intro n h; exact ⟨Nat.le_refl _, by simp [lsz]; omega, .inl (by simp [lsz]; omega), fun m h1 h2 => by simp [lsz] at h2; omega⟩
  | succ k ih =>
    intro n h
    by_cases hf : fit b x n
    · simp only [lsz, if_pos hf]
      exact ⟨Nat.le_refl _, by omega, hf, fun m h1 h2 => by omega⟩
    · simp only [lsz, if_neg hf]
      obtain ⟨h1, h2, h3, h4⟩ := ih (n + 1) (by omega)
      refine ⟨by omega, h2, h3, fun m hm hm2 => ?_⟩
      by_cases e : m = n
      · subst e; exact hf
      · exact h4 m (by omega) hm2
theorem size_pos (b : Bool) (x : Int) : 1 ≤ size b x := (lsz_spec b x 9 1 rfl).1
theorem size_le (b : Bool) (x : Int) : size b x ≤ 10 := (lsz_spec b x 9 1 rfl).2.1
/-- what n bytes of x say -/
def told (b : Bool) (x : Int) (n : Nat) : Int := if n = 10 then x else if b = true then (x + 64 * pw (n - 1)) % pw n - 64 * pw (n - 1) else x % pw n
theorem told_fit {b : Bool} {x : Int} {n : Nat} (hr : rng b x) (h1 : 1 ≤ n) (h2 : n ≤ 10) : told b x n = x ↔ fit b x n := by
  unfold told
  by_cases h : n = 10
  · simp [h, fit]
  · rw [if_neg h]
    obtain ⟨k, rfl⟩ : ∃ k, n = k + 1 := ⟨n - 1, by omega⟩
    have hp := pw_succ k
    have hq := pw_pos k
    cases b
    · simp only [rng, Bool.false_eq_true, if_false] at hr
      rw [fit_u]
      simp only [Bool.false_eq_true, if_false]
      constructor
      · intro e
        have := Int.emod_lt_of_pos x (pw_pos (k + 1))
        exact .inr (by omega)
      · rintro (e | e)
        · omega
        · exact Int.emod_eq_of_lt hr.1 e
    · rw [fit_s]
      simp only [if_true, Nat.add_sub_cancel]
      constructor
      · intro e
        have h3 := Int.emod_lt_of_pos (x + 64 * pw k) (pw_pos (k + 1))
        have h4 := Int.emod_nonneg (x + 64 * pw k) (show pw (k + 1) ≠ 0 by omega)
        exact .inr (by omega)
      · rintro (e | e)
        · omega
        · rw [Int.emod_eq_of_lt (by omega) (by omega)]; omega

/-- a digit -/
def dgt (x : Int) (i : Nat) : Int := x / pw i % 128
theorem dgt_lt (x : Int) (i : Nat) : 0 ≤ dgt x i ∧ dgt x i < 128 := by unfold dgt; omega
/-- byte i of n -/
def eb (x : Int) (n i : Nat) : UInt8 := UInt8.ofNat ((dgt x i).toNat + if i + 1 < n then 128 else 0)
theorem eb_last (x : Int) (n i : Nat) (h : n ≤ i + 1) : ((eb x n i).toNat : Int) = dgt x i := by
  have := dgt_lt x i
  unfold eb; rw [if_neg (by omega)]; simp; omega
theorem eb_more (x : Int) (n i : Nat) (h : i + 1 < n) : ((eb x n i).toNat : Int) = dgt x i + 128 := by
  have := dgt_lt x i
  unfold eb; rw [if_pos h]; simp; omega
/-- n bytes of a number -/
def enc (x : Int) (n : Nat) : List UInt8 := (List.range n).map (eb x n)
theorem enc_len (x : Int) (n : Nat) : (enc x n).length = n := by simp [enc]
theorem enc_get (x : Int) (n i : Nat) (h : i < (enc x n).length) : (enc x n)[i] = eb x n i := by simp [enc]
/-- its own bytes -/
def nB (b : Bool) (x : Int) : List UInt8 := enc x (size b x)
theorem nB_len (b : Bool) (x : Int) : (nB b x).length = size b x := enc_len _ _

theorem dgt_succ (x : Int) (i : Nat) : dgt x (i + 1) = dgt (x / 128) i := by
  have := pw_pos i
  unfold dgt
  rw [pw_succ, Int.ediv_ediv_of_nonneg (by omega)]
theorem enc_cons (x : Int) (n : Nat) : enc x (n + 1) = UInt8.ofNat ((x % 128).toNat + if 0 < n then 128 else 0) :: enc (x / 128) n := by
  have e0 : dgt x 0 = x % 128 := by simp [dgt, pw_zero]
  unfold enc
  rw [List.range_succ_eq_map, List.map_cons, List.map_map]
  congr 1
  · unfold eb; rw [e0]; simp
  · apply List.map_congr_left
    intro i _
    simp only [Function.comp, eb, dgt_succ]
    congr 2
    simp

/-- digits together -/
def sm : List UInt8 → Int
  | [] => 0
  | c :: r => (c.toNat : Int) % 128 + 128 * sm r
theorem sm_bound : ∀ l : List UInt8, 0 ≤ sm l ∧ sm l < pw l.length
  | [] => by simp [sm, pw_zero]
  | c :: r => by
    have := sm_bound r
    have hp := pw_succ r.length
    simp only [sm, List.length_cons]
    omega
theorem sm_append : ∀ (l m : List UInt8), sm (l ++ m) = sm l + pw l.length * sm m
  | [], m => by simp [sm, pw_zero]
  | c :: r, m => by
    rw [List.cons_append, sm, sm, sm_append r m, List.length_cons, pw_succ, Int.mul_assoc]
    generalize pw r.length * sm m = z
    omega
theorem mod_128 (x p : Int) (hp : 0 < p) : x % (128 * p) = x % 128 + 128 * (x / 128 % p) := by
  have h1 := Int.emod_add_mul_ediv (x / 128) p
  have h2 := Int.emod_nonneg (x / 128) (show p ≠ 0 by omega)
  have h3 := Int.emod_lt_of_pos (x / 128) hp
  have e : x = (x % 128 + 128 * (x / 128 % p)) + 128 * p * (x / 128 / p) := by
    rw [Int.mul_assoc]
    generalize p * (x / 128 / p) = z at *
    omega
  have : x % (128 * p) = ((x % 128 + 128 * (x / 128 % p)) + 128 * p * (x / 128 / p)) % (128 * p) := by rw [← e]
  rw [this, Int.add_mul_emod_self_left]
  exact Int.emod_eq_of_lt (by omega) (by omega)
theorem sm_enc (n : Nat) : ∀ x : Int, sm (enc x n) = x % pw n := by
  induction n with
  | zero => intro x; simp [enc, sm, pw_zero]
  | succ n ih =>
    intro x
    have hx : ((UInt8.ofNat ((x % 128).toNat + if 0 < n then 128 else 0)).toNat : Int) % 128 = x % 128 := by
      split <;> simp <;> omega
    rw [enc_cons, sm, ih, hx, pw_succ, mod_128 x (pw n) (pw_pos n)]

/-- the number of so many digits, s together -/
def val (b : Bool) (s : Int) (n : Nat) : Int :=
  if b = true then (if n < 10 then (if s < 64 * pw (n - 1) then s else s - pw n) else (if s % 18446744073709551616 < 9223372036854775808 then s % 18446744073709551616 else s % 18446744073709551616 - 18446744073709551616)) else s % 18446744073709551616

theorem pw_9 : pw 9 = 9223372036854775808 := by decide
theorem pw_10 : pw 10 = 1180591620717411303424 := by decide
theorem pw_lt9 {n : Nat} (h : n ≤ 9) : pw n ≤ 9223372036854775808 := by rw [← pw_9]; exact pw_mono h

theorem val_rng {b : Bool} {s : Int} {n : Nat} (h0 : 0 ≤ s) (h1 : s < pw n) (hn : 1 ≤ n) (hn2 : n ≤ 10) : rng b (val b s n) := by
  unfold val rng
  cases b
  · simp; omega
  · simp only [if_true]
    split
    · obtain ⟨k, rfl⟩ : ∃ k, n = k + 1 := ⟨n - 1, by omega⟩
      have hp := pw_succ k
      have := pw_lt9 (show k + 1 ≤ 9 by omega)
      simp only [Nat.add_sub_cancel]
      split <;> omega
    · split <;> omega

end Go.Proofs.YtbkfkdiadeaooaaGreat

namespace Go.Proofs.YtbkfkdiadeaooaaGreat

/-- byte j -/
def by_ (r : List UInt8) (j : Nat) : Nat := (r.getD j 0).toNat
theorem by_lt (r : List UInt8) (j : Nat) : by_ r j < 256 := (r.getD j 0).toNat_lt
theorem by_none (r : List UInt8) (j : Nat) (h : r.length ≤ j) : by_ r j = 0 := by unfold by_; rw [List.getD_eq_getElem?_getD, List.getElem?_eq_none h]; rfl
theorem by_get (r : List UInt8) (j : Nat) (h : j < r.length) : by_ r j = r[j].toNat := by simp [by_, h]
theorem by_zero (c : UInt8) (r : List UInt8) : by_ (c :: r) 0 = c.toNat := rfl
theorem by_succ (c : UInt8) (r : List UInt8) (j : Nat) : by_ (c :: r) (j + 1) = by_ r j := rfl

/-- how many bytes there are up to the first one below 128; 0: none of the first k is -/
def lg : List UInt8 → Nat → Nat
  | _, 0 => 0
  | [], _ => 0
  | c :: r, k + 1 => if c.toNat < 128 then 1 else if lg r k = 0 then 0 else lg r k + 1

theorem lg_is : ∀ (k : Nat) (r : List UInt8) (n : Nat), 1 ≤ n → n ≤ k → n ≤ r.length → by_ r (n - 1) < 128 → (∀ j, j < n - 1 → 128 ≤ by_ r j) → lg r k = n
  | 0, _, n, h1, h2, _, _, _ => by omega
  | k + 1, [], n, h1, _, h3, _, _ => by simp at h3; omega
  | k + 1, c :: r, n, h1, h2, h3, h4, h5 => by
    unfold lg
    by_cases hn : n = 1
    · subst hn
      rw [if_pos (by simpa [by_zero] using h4)]
    · obtain ⟨m, rfl⟩ : ∃ m, n = m + 2 := ⟨n - 2, by omega⟩
      have h0 := h5 0 (by omega)
      rw [by_zero] at h0
      rw [if_neg (by omega)]
      have := lg_is k r (m + 1) (by omega) (by omega) (by simpa using h3) (by simpa [by_succ] using h4) (fun j hj => by have := h5 (j + 1) (by omega); rwa [by_succ] at this)
      rw [this, if_neg (by omega)]
theorem lg_none : ∀ (k : Nat) (r : List UInt8), (∀ j, j < k → j < r.length → 128 ≤ by_ r j) → lg r k = 0
  | 0, r, _ => by cases r <;> rfl
  | k + 1, [], _ => rfl
  | k + 1, c :: r, h => by
    unfold lg
    have h0 := h 0 (by omega) (by simp)
    rw [by_zero] at h0
    rw [if_neg (by omega), lg_none k r (fun j hj hl => by have := h (j + 1) (by omega) (by simpa using hl); rwa [by_succ] at this)]
    rfl
theorem lg_has : ∀ (k : Nat) (r : List UInt8), lg r k ≠ 0 → lg r k ≤ k ∧ lg r k ≤ r.length ∧ by_ r (lg r k - 1) < 128 ∧ ∀ j, j < lg r k - 1 → 128 ≤ by_ r j
  | 0, r, h => by cases r <;> exact absurd rfl h
  | k + 1, [], h => absurd rfl h
  | k + 1, c :: r, h => by
    unfold lg at h ⊢
    by_cases hc : c.toNat < 128
    · rw [if_pos hc]
      exact ⟨by omega, by simp, by simpa [by_zero] using hc, fun j hj => by omega⟩
    · rw [if_neg hc] at h ⊢
      by_cases h0 : lg r k = 0
      · rw [if_pos h0] at h; exact absurd rfl h
      · rw [if_neg h0]
        obtain ⟨h1, h2, h3, h4⟩ := lg_has k r h0
        refine ⟨by omega, by simpa using h2, ?_, fun j hj => ?_⟩
        · obtain ⟨m, hm⟩ : ∃ m, lg r k = m + 1 := ⟨lg r k - 1, by omega⟩
          rw [hm] at h3 ⊢
          simpa [by_succ] using h3
        · rcases j with _ | j
          · rw [by_zero]; omega
          · rw [by_succ]; exact h4 j (by omega)

theorem sm_inj : ∀ (l m : List UInt8), l.length = m.length → (∀ j, by_ l j < 128 ↔ by_ m j < 128) → sm l = sm m → l = m
  | [], [], _, _, _ => rfl
  | [], _ :: _, h, _, _ => by simp at h
  | _ :: _, [], h, _, _ => by simp at h
  | c :: r, d :: q, h, hf, hs => by
    have h0 := hf 0
    rw [by_zero, by_zero] at h0
    simp only [sm] at hs
    have hc := c.toNat_lt
    have hd := d.toNat_lt
    have e : c.toNat = d.toNat := by omega
    have := sm_inj r q (by simpa using h) (fun j => by have := hf (j + 1); rwa [by_succ, by_succ] at this) (by omega)
    rw [this, UInt8.toNat_inj.1 e]

theorem sm_take_succ (r : List UInt8) (k : Nat) (h : k < r.length) : sm (r.take (k + 1)) = sm (r.take k) + pw k * ((by_ r k : Int) % 128) := by
  rw [List.take_succ_eq_append_getElem h, sm_append, by_get r k h]
  simp [sm, show min k r.length = k by omega]
theorem sm_top (r : List UInt8) (k : Nat) (h : k < r.length) (hb : by_ r k < 128) : sm (r.take (k + 1)) / pw k = by_ r k := by
  have hp := pw_pos k
  have hs := sm_bound (r.take k)
  rw [List.length_take, show min k r.length = k by omega] at hs
  rw [sm_take_succ r k h, Int.add_mul_ediv_left _ _ (by omega), Int.ediv_eq_zero_of_lt hs.1 hs.2]
  omega

/-- what n bytes told are, is the number of the digits -/
theorem told_val {b : Bool} {s : Int} {n : Nat} (h0 : 0 ≤ s) (h1 : s < pw n) (hn : 1 ≤ n) (hn2 : n ≤ 9) : told b s n = val b s n := by
  obtain ⟨k, rfl⟩ : ∃ k, n = k + 1 := ⟨n - 1, by omega⟩
  have hp := pw_succ k
  have hq := pw_pos k
  have h9 := pw_lt9 (show k + 1 ≤ 9 by omega)
  unfold told val
  rw [if_neg (by omega)]
  cases b
  · simp only [Bool.false_eq_true, if_false]
    rw [Int.emod_eq_of_lt h0 h1]; omega
  · simp only [if_true, Nat.add_sub_cancel]
    rw [if_pos (by omega)]
    split
    · rw [Int.emod_eq_of_lt (by omega) (by omega)]; omega
    · have e : (s + 64 * pw k) % pw (k + 1) = s + 64 * pw k - pw (k + 1) := by
        have := Int.add_emod_right (s + 64 * pw k - pw (k + 1)) (pw (k + 1))
        rw [Int.sub_add_cancel] at this
        rw [this]; exact Int.emod_eq_of_lt (by omega) (by omega)
      rw [e]; omega

theorem val_back {b : Bool} {s : Int} {n : Nat} (h0 : 0 ≤ s) (h1 : s < pw n) (hn : 1 ≤ n) (hn2 : n ≤ 10) (hd : dgt (val b s n) (n - 1) = s / pw (n - 1)) : val b s n % pw n = s := by
  obtain ⟨k, rfl⟩ : ∃ k, n = k + 1 := ⟨n - 1, by omega⟩
  have hp := pw_succ k
  have hq := pw_pos k
  by_cases hk : k < 9
  · have h9 := pw_lt9 (show k + 1 ≤ 9 by omega)
    unfold val
    cases b
    · simp only [Bool.false_eq_true, if_false]
      rw [Int.emod_eq_of_lt (by omega) (show s < 18446744073709551616 by omega), Int.emod_eq_of_lt h0 h1]
    · simp only [if_true, Nat.add_sub_cancel]
      rw [if_pos (by omega)]
      split
      · exact Int.emod_eq_of_lt h0 h1
      · have := Int.add_emod_right (s - pw (k + 1)) (pw (k + 1))
        rw [Int.sub_add_cancel] at this
        rw [← this]; exact Int.emod_eq_of_lt h0 h1
  · have : k = 9 := by omega
    subst this
    simp only [Nat.add_sub_cancel, dgt, pw_9] at hd
    rw [pw_10] at *
    unfold val at *
    cases b
    · simp only [Bool.false_eq_true, if_false] at *
      omega
    · simp only [if_true] at *
      rw [if_neg (by omega)] at *
      split at hd
      · rw [if_pos (by assumption)]; omega
      · rw [if_neg (by assumption)]; omega

/-- the number that stands at the head of bytes, if its own do -/
def hv (b : Bool) (r : List UInt8) : Int := val b (sm (r.take (lg r 10))) (lg r 10)
def good (b : Bool) (r : List UInt8) : Prop := lg r 10 ≠ 0 ∧ nB b (hv b r) <+: r
instance (b : Bool) (r : List UInt8) : Decidable (good b r) := by unfold good; infer_instance

theorem enc_flags (x : Int) (n j : Nat) : by_ (enc x n) j < 128 ↔ n ≤ j + 1 := by
  by_cases h : j < n
  · rw [by_get _ _ (by rw [enc_len]; exact h), enc_get]
    have := dgt_lt x j
    by_cases e : j + 1 < n
    · have := eb_more x n j e
      omega
    · have := eb_last x n j (by omega)
      omega
  · rw [by_none _ _ (by rw [enc_len]; omega)]
    omega

theorem by_prefix {l r : List UInt8} (h : l <+: r) {j : Nat} (hj : j < l.length) : by_ r j = by_ l j := by
  obtain ⟨t, rfl⟩ := h
  rw [by_get _ _ hj, by_get _ _ (by simp; omega), List.getElem_append_left hj]

theorem lg_nB {b : Bool} {x : Int} {r : List UInt8} (h : nB b x <+: r) : lg r 10 = size b x := by
  have h1 := size_pos b x
  have h2 := size_le b x
  have hl := nB_len b x
  have hle := h.length_le
  refine lg_is 10 r _ h1 h2 (by omega) ?_ (fun j hj => ?_)
  · rw [by_prefix h (by omega)]
    exact (enc_flags x _ _).2 (by omega)
  · rw [by_prefix h (by omega)]
    have := enc_flags x (size b x) j
    unfold nB; omega

theorem by_take (r : List UInt8) (n j : Nat) (h : j < n) : by_ (r.take n) j = by_ r j := by
  simp [by_, h]

theorem good_iff {b : Bool} {r : List UInt8} {n : Nat} (hn : lg r 10 = n) (h0 : n ≠ 0) : good b r ↔ size b (val b (sm (r.take n)) n) = n ∧ dgt (val b (sm (r.take n)) n) (n - 1) = by_ r (n - 1) := by
  obtain ⟨h1, h2, h3, h4⟩ := lg_has 10 r (by omega)
  rw [hn] at h1 h2 h3 h4
  have hs := sm_bound (r.take n)
  rw [List.length_take, show min n r.length = n by omega] at hs
  constructor
  · rintro ⟨_, hp⟩
    unfold hv at hp
    rw [hn] at hp
    have e := lg_nB hp
    rw [hn] at e
    refine ⟨e.symm, ?_⟩
    rw [by_prefix hp (by rw [nB_len, ← e]; omega)]
    unfold nB
    rw [← e, by_get _ _ (by rw [enc_len]; omega), enc_get]
    exact (eb_last _ _ _ (by omega)).symm
  · rintro ⟨e, hd⟩
    refine ⟨by omega, ?_⟩
    unfold hv nB
    rw [hn, e]
    have ht := sm_top r (n - 1) (by omega) h3
    rw [show n - 1 + 1 = n by omega] at ht
    have hm := val_back (b := b) hs.1 hs.2 (by omega) h1 (by rw [ht]; exact hd)
    have : enc (val b (sm (r.take n)) n) n = r.take n := by
      refine sm_inj _ _ (by rw [enc_len]; simp; omega) (fun j => ?_) (by rw [sm_enc, hm])
      rw [enc_flags]
      by_cases hj : j < n
      · rw [by_take _ _ _ hj]
        by_cases e : j = n - 1
        · subst e; omega
        · have := h4 j (by omega); omega
      · rw [by_none _ _ (by simp; omega)]
        omega
    rw [this]
    exact List.take_prefix _ _

theorem good_take {b : Bool} {r : List UInt8} (h : good b r) : r.take (lg r 10) = nB b (hv b r) := by
  have e := lg_nB h.2
  rw [e, ← nB_len b (hv b r)]
  exact (List.prefix_iff_eq_take.1 h.2).symm
/-- what is read: the error, the number, the place behind it -/
def rdE (b : Bool) (l : List UInt8) (i : Int) : Int := if i < 0 ∨ (l.length : Int) < i then 1 else if good b (l.drop i.toNat) then 0 else 5
def rdX (b : Bool) (l : List UInt8) (i : Int) : Int := if rdE b l i = 0 then hv b (l.drop i.toNat) else 0
def rdN (b : Bool) (l : List UInt8) (i : Int) : Int := if rdE b l i = 0 then i + lg (l.drop i.toNat) 10 else 0

theorem rd_arg {b : Bool} {l : List UInt8} {i : Int} (h : i < 0 ∨ (l.length : Int) < i) : rdE b l i = 1 ∧ rdX b l i = 0 ∧ rdN b l i = 0 := by
  have e : rdE b l i = 1 := by unfold rdE; rw [if_pos h]
  simp [rdX, rdN, e]
theorem rd_form {b : Bool} {l : List UInt8} {k : Nat} (h : k ≤ l.length) (hg : ¬ good b (l.drop k)) : rdE b l k = 5 ∧ rdX b l k = 0 ∧ rdN b l k = 0 := by
  have e : rdE b l k = 5 := by unfold rdE; rw [if_neg (by omega), if_neg (by simpa using hg)]
  simp [rdX, rdN, e]
theorem rd_ok {b : Bool} {l : List UInt8} {k : Nat} (h : k ≤ l.length) (hg : good b (l.drop k)) : rdE b l k = 0 ∧ rdX b l k = hv b (l.drop k) ∧ rdN b l k = k + lg (l.drop k) 10 := by
  have e : rdE b l k = 0 := by unfold rdE; rw [if_neg (by omega), if_pos (by simpa using hg)]
  simp [rdX, rdN, e]

end Go.Proofs.YtbkfkdiadeaooaaGreat
