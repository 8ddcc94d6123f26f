/-
  Merged for a claim: R3L, R3Q, R2A, O1Q, O1B, R3P, R2B, R2C, R2D, R3U.
-/
import Derived.Test.YtdnpoeegefkoiaaGreatFJ3
import Derived.Test.YtdnpoeegefkoiaaGreatFR3B1
import Derived.Test.YtdnpoeegefkoiaaGreatFR3B2
import Derived.Test.YtdnpoeegefkoiaaGreatFR3B3
import Derived.Test.YtdnpoeegefkoiaaGreatFR3B4
import Derived.Test.YtdnpoeegefkoiaaGreatFJ4
import Derived.Test.YtdnpoeegefkoiaaGreatFJ1
import Derived.Test.YtdnpoeegefkoiaaGreatFJ0
import Derived.Below
import Derived.Test.YtdnpoeegefkoiaaGreatFR3B
import Derived.Test.YtdnpoeegefkoiaaGreatFJ2
import Derived.Test.YtdnpoeegefkoiaaGreatFI3M
import Derived.Deep.RegionHeld3
namespace Go.Proofs.YtdnpoeegefkoiaaGreat
open Go.RowKit

def lenS (l : List UInt8) (p : Pt) (s : Ins × Int) : Option (Ins × Int) := if getE p l s.2 = 0 then some (getI p s.1 l s.2, getN p l s.2) else none
def lenP (l : List UInt8) : List Pt → Ins × Int → Option (Ins × Int)
  | [], s => some s
  | p :: L, s => (lenS l p s).bind (lenP l L)
theorem lenP_append (l : List UInt8) : ∀ (L M : List Pt) (s : Ins × Int), lenP l (L ++ M) s = (lenP l L s).bind (lenP l M)
  | [], M, s => rfl
  | p :: L, M, s => by
    simp only [List.cons_append, lenP]
    cases lenS l p s with
    | none => rfl
    | some z => exact lenP_append l L M z
theorem lenP_take {l : List UInt8} {L : List Pt} {j : Nat} {p : Pt} {s0 s : Ins × Int} (h : L[j]? = some p) (hs : lenP l (L.take j) s0 = some s) : lenP l (L.take (j + 1)) s0 = lenS l p s := by
  rw [take_snoc h, lenP_append, hs]
  show (lenS l p s).bind (lenP l []) = _
  cases lenS l p s <;> rfl
theorem lenP_none {l : List UInt8} {L : List Pt} {k : Nat} {s0 : Ins × Int} (h : lenP l (L.take k) s0 = none) : lenP l L s0 = none := by
  rw [← List.take_append_drop k L, lenP_append, h]
  rfl
/-- what is got with each part looked at, is got leniently -/
theorem run_len (l : List UInt8) : ∀ (L : List Pt) (s r : Ins × Int), runP l L s = some r → lenP l L s = some r
  | [], _, _, h => h
  | p :: L, s, r, h => by
    have h' : (stepP l p s).bind (runP l L) = some r := h
    show (lenS l p s).bind (lenP l L) = some r
    by_cases hs : getE p l s.2 = 0 ∧ fitsP p (getI p s.1 l s.2) = true
    · rw [stepP, if_pos hs] at h'
      rw [lenS, if_pos hs.1]
      exact run_len l L _ r h'
    · rw [stepP, if_neg hs] at h'
      cases h'
theorem len_keeps (l : List UInt8) : ∀ (L : List Pt) (s r : Ins × Int), lenP l L s = some r → (r.1.k = s.1.k ∧ dropAll L r.1 = dropAll L s.1) ∧ ∀ q, (∀ p ∈ L, aside q p = true) → fitsP q r.1 = fitsP q s.1
  | [], s, r, h => by
    cases h
    exact ⟨⟨rfl, rfl⟩, fun _ _ => rfl⟩
  | p :: L, s, r, h => by
    have h' : (lenS l p s).bind (lenP l L) = some r := h
    by_cases hs : getE p l s.2 = 0
    · rw [lenS, if_pos hs] at h'
      obtain ⟨⟨e1, e2⟩, e3⟩ := len_keeps l L _ r h'
      refine ⟨⟨by rw [e1, get_k], ?_⟩, fun q hq => ?_⟩
      · rw [dropAll_cons, dropAll_comm, e2, ← dropAll_comm, drop_get, ← dropAll_cons]
      · rw [e3 q (fun p' hp' => hq p' (List.mem_cons_of_mem _ hp')), fits_far (hq p List.mem_cons_self)]
    · rw [lenS, if_neg hs] at h'
      cases h'
/-- what is got leniently, and fits, is got -/
theorem len_run (l : List UInt8) : ∀ (L : List Pt) (s r : Ins × Int), Asides L → lenP l L s = some r → (∀ p ∈ L, fitsP p r.1 = true) → runP l L s = some r
  | [], _, _, _, h, _ => h
  | p :: L, s, r, ha, h, hf => by
    have ha' := List.pairwise_cons.1 ha
    have h' : (lenS l p s).bind (lenP l L) = some r := h
    show (stepP l p s).bind (runP l L) = some r
    by_cases hs : getE p l s.2 = 0
    · rw [lenS, if_pos hs] at h'
      have hk := (len_keeps l L _ r h').2 p ha'.1
      rw [stepP, if_pos ⟨hs, by rw [← hk]; exact hf p List.mem_cons_self⟩]
      exact len_run l L _ r ha'.2 h' (fun q hq => hf q (List.mem_cons_of_mem _ hq))
    · rw [lenS, if_neg hs] at h'
      cases h'

/-- the document's answer where the kind is one, and the parts are there -/
theorem len_right {l : List UInt8} {K x : Int} {i : Ins} {n : Int} (_hK : isK K = true) (h : lenP l (ptsOf K) (insOf K, x) = some (i, n)) (hr : rightB i = true) : runP l (ptsOf K) (insOf K, x) = some (i, n) := by
  have hk : i.k = K := (len_keeps l _ _ _ h).1.1
  have := (right_parts hr).2.1
  rw [hk] at this
  exact len_run l _ _ _ (ptsOf_asides K) h this
theorem len_wrong {l : List UInt8} {K x : Int} {i : Ins} {n : Int} (hK : isK K = true) (h : lenP l (ptsOf K) (insOf K, x) = some (i, n)) (hr : rightB i = false) (h0 : (insOf K).Rng) (hx : ∃ k : Nat, x = k ∧ k ≤ l.length) : runP l (ptsOf K) (insOf K, x) = none := by
  cases hg : runP l (ptsOf K) (insOf K, x) with
  | none => rfl
  | some r =>
    have h2 := run_len l _ _ _ hg
    rw [h] at h2
    cases h2
    obtain ⟨_, _, _, hk, _, hf, _, _, _, hd⟩ := run_got l _ _ i _ n (ptsOf_asides K) h0 hx hg
    have hk' : i.k = K := hk
    have : rightB i = true := by
      unfold rightB
      rw [hk', hK, hd, dropAll_insOf]
      simp only [Bool.true_and, Bool.and_eq_true, List.all_eq_true, decide_eq_true_eq]
      exact ⟨hf, rfl⟩
    rw [this] at hr
    cases hr
theorem len_fail {l : List UInt8} {K x : Int} (h : lenP l (ptsOf K) (insOf K, x) = none) : runP l (ptsOf K) (insOf K, x) = none := by
  cases hg : runP l (ptsOf K) (insOf K, x) with
  | none => rfl
  | some r => rw [run_len l _ _ _ hg] at h; cases h
theorem lenP_cons {l : List UInt8} {p : Pt} {L : List Pt} {s r : Ins × Int} (h : lenP l (p :: L) s = some r) : getE p l s.2 = 0 ∧ lenP l L (getI p s.1 l s.2, getN p l s.2) = some r := by
  have h' : (lenS l p s).bind (lenP l L) = some r := h
  by_cases hs : getE p l s.2 = 0
  · rw [lenS, if_pos hs] at h'
    exact ⟨hs, h'⟩
  · rw [lenS, if_neg hs] at h'
    cases h'
theorem plX_rng (l : List UInt8) (x : Int) : 0 ≤ plX l x ∧ plX l x < 16777216 := by
  by_cases h : stV l.length x 3 = 0
  · obtain ⟨k, rfl, hk⟩ := place_in h
    obtain ⟨_, e, _⟩ := place_at hk
    rw [e]
    have := l[k].toNat_lt
    have := l[k + 1].toNat_lt
    have := l[k + 2].toNat_lt
    omega
  · simp [plX, h]

end Go.Proofs.YtdnpoeegefkoiaaGreat

namespace Go.Proofs.YtdnpoeegefkoiaaGreat
open Go.RowKit

theorem ox1 (l : List UInt8) (x : Int) : 0 ≤ oneX l x / 16 := by have := oneX_u8 l x; omega
theorem ox2 (l : List UInt8) (x : Int) : oneX l x / 16 < 16 := by have := oneX_u8 l x; omega
theorem ox3 (l : List UInt8) (x : Int) : 0 ≤ oneX l x % 16 := by have := oneX_u8 l x; omega
theorem ox4 (l : List UInt8) (x : Int) : oneX l x % 16 < 16 := by have := oneX_u8 l x; omega

def RightsR (i : Ins) : Prop := ∀ w, Calls Tryz.prog 31 #[iv i] w (RR i w)
theorem rgot_1 {l : List UInt8} {x n : Int} {i : Ins} (h : lenP l (ptsOf 1) (insOf 1, x) = some (i, n)) : RightsR i := by
  intro w
  have h : lenP l [] (insOf 1, x) = some (i, n) := h
  cases h
  exact refRight_1 w 
theorem rgot_2 {l : List UInt8} {x n : Int} {i : Ins} (h : lenP l (ptsOf 2) (insOf 2, x) = some (i, n)) : RightsR i := by
  intro w
  have h : lenP l [.reg, .num] (insOf 2, x) = some (i, n) := h
  have h := (lenP_cons h).2
  have h := (lenP_cons h).2
  cases h
  exact refRight_2 _ _ w ((oneX_u8 l _).1)
theorem rgot_3 {l : List UInt8} {x n : Int} {i : Ins} (h : lenP l (ptsOf 3) (insOf 3, x) = some (i, n)) : RightsR i := by
  intro w
  have h : lenP l [.both] (insOf 3, x) = some (i, n) := h
  have h := (lenP_cons h).2
  cases h
  exact refRight_3 _ _ w (ox1 l _) (ox2 l _) (ox3 l _) (ox4 l _)
theorem rgot_4 {l : List UInt8} {x n : Int} {i : Ins} (h : lenP l (ptsOf 4) (insOf 4, x) = some (i, n)) : RightsR i := by
  intro w
  have h : lenP l [.op, .both, .third] (insOf 4, x) = some (i, n) := h
  have h := (lenP_cons h).2
  have h := (lenP_cons h).2
  have h := (lenP_cons h).2
  cases h
  exact refRight_4 _ _ _ _ w ((oneX_u8 l _).1) ((oneX_u8 l _).2) (ox1 l _) (ox2 l _) (ox3 l _) (ox4 l _) ((oneX_u8 l _).1)
theorem rgot_5 {l : List UInt8} {x n : Int} {i : Ins} (h : lenP l (ptsOf 5) (insOf 5, x) = some (i, n)) : RightsR i := by
  intro w
  have h : lenP l [.op, .both] (insOf 5, x) = some (i, n) := h
  have h := (lenP_cons h).2
  have h := (lenP_cons h).2
  cases h
  exact refRight_5 _ _ _ w ((oneX_u8 l _).1) ((oneX_u8 l _).2) (ox1 l _) (ox2 l _) (ox3 l _) (ox4 l _)
theorem rgot_6 {l : List UInt8} {x n : Int} {i : Ins} (h : lenP l (ptsOf 6) (insOf 6, x) = some (i, n)) : RightsR i := by
  intro w
  have h : lenP l [.both, .num] (insOf 6, x) = some (i, n) := h
  have h := (lenP_cons h).2
  have h := (lenP_cons h).2
  cases h
  exact refRight_6 _ _ _ w (ox1 l _) (ox2 l _) (ox3 l _) (ox4 l _)
theorem rgot_7 {l : List UInt8} {x n : Int} {i : Ins} (h : lenP l (ptsOf 7) (insOf 7, x) = some (i, n)) : RightsR i := by
  intro w
  have h : lenP l [.both, .num] (insOf 7, x) = some (i, n) := h
  have h := (lenP_cons h).2
  have h := (lenP_cons h).2
  cases h
  exact refRight_7 _ _ _ w (ox1 l _) (ox2 l _) (ox3 l _) (ox4 l _)
theorem rgot_8 {l : List UInt8} {x n : Int} {i : Ins} (h : lenP l (ptsOf 8) (insOf 8, x) = some (i, n)) : RightsR i := by
  intro w
  have h : lenP l [.both, .third, .num, .many] (insOf 8, x) = some (i, n) := h
  have h := (lenP_cons h).2
  have h := (lenP_cons h).2
  have h := (lenP_cons h).2
  have h := (lenP_cons h).2
  cases h
  exact refRight_8 _ _ _ _ _ w (ox1 l _) (ox2 l _) (ox3 l _) (ox4 l _) ((oneX_u8 l _).1)
theorem rgot_9 {l : List UInt8} {x n : Int} {i : Ins} (h : lenP l (ptsOf 9) (insOf 9, x) = some (i, n)) : RightsR i := by
  intro w
  have h : lenP l [.both, .third, .num, .many] (insOf 9, x) = some (i, n) := h
  have h := (lenP_cons h).2
  have h := (lenP_cons h).2
  have h := (lenP_cons h).2
  have h := (lenP_cons h).2
  cases h
  exact refRight_9 _ _ _ _ _ w (ox1 l _) (ox2 l _) (ox3 l _) (ox4 l _) ((oneX_u8 l _).1)
theorem rgot_10 {l : List UInt8} {x n : Int} {i : Ins} (h : lenP l (ptsOf 10) (insOf 10, x) = some (i, n)) : RightsR i := by
  intro w
  have h : lenP l [.to] (insOf 10, x) = some (i, n) := h
  have h := (lenP_cons h).2
  cases h
  exact refRight_10 _ w ((plX_rng l _).1) ((plX_rng l _).2)
theorem rgot_11 {l : List UInt8} {x n : Int} {i : Ins} (h : lenP l (ptsOf 11) (insOf 11, x) = some (i, n)) : RightsR i := by
  intro w
  have h : lenP l [.reg, .to] (insOf 11, x) = some (i, n) := h
  have h := (lenP_cons h).2
  have h := (lenP_cons h).2
  cases h
  exact refRight_11 _ _ w ((oneX_u8 l _).1) ((plX_rng l _).1) ((plX_rng l _).2)
theorem rgot_12 {l : List UInt8} {x n : Int} {i : Ins} (h : lenP l (ptsOf 12) (insOf 12, x) = some (i, n)) : RightsR i := by
  intro w
  have h : lenP l [.to] (insOf 12, x) = some (i, n) := h
  have h := (lenP_cons h).2
  cases h
  exact refRight_12 _ w ((plX_rng l _).1) ((plX_rng l _).2)
theorem rgot_13 {l : List UInt8} {x n : Int} {i : Ins} (h : lenP l (ptsOf 13) (insOf 13, x) = some (i, n)) : RightsR i := by
  intro w
  have h : lenP l [] (insOf 13, x) = some (i, n) := h
  cases h
  exact refRight_13 w 
theorem rgot_14 {l : List UInt8} {x n : Int} {i : Ins} (h : lenP l (ptsOf 14) (insOf 14, x) = some (i, n)) : RightsR i := by
  intro w
  have h : lenP l [.num] (insOf 14, x) = some (i, n) := h
  have h := (lenP_cons h).2
  cases h
  exact refRight_14 _ w 
theorem rgot_15 {l : List UInt8} {x n : Int} {i : Ins} (h : lenP l (ptsOf 15) (insOf 15, x) = some (i, n)) : RightsR i := by
  intro w
  have h : lenP l [.reg] (insOf 15, x) = some (i, n) := h
  have h := (lenP_cons h).2
  cases h
  exact refRight_15 _ w ((oneX_u8 l _).1)
theorem rgot_16 {l : List UInt8} {x n : Int} {i : Ins} (h : lenP l (ptsOf 16) (insOf 16, x) = some (i, n)) : RightsR i := by
  intro w
  have h : lenP l [.reg] (insOf 16, x) = some (i, n) := h
  have h := (lenP_cons h).2
  cases h
  exact refRight_16 _ w ((oneX_u8 l _).1)
theorem rgot_17 {l : List UInt8} {x n : Int} {i : Ins} (h : lenP l (ptsOf 17) (insOf 17, x) = some (i, n)) : RightsR i := by
  intro w
  have h : lenP l [.reg] (insOf 17, x) = some (i, n) := h
  have h := (lenP_cons h).2
  cases h
  exact refRight_17 _ w ((oneX_u8 l _).1)
theorem rgot_18 {l : List UInt8} {x n : Int} {i : Ins} (h : lenP l (ptsOf 18) (insOf 18, x) = some (i, n)) : RightsR i := by
  intro w
  have h : lenP l [.how] (insOf 18, x) = some (i, n) := h
  have h := (lenP_cons h).2
  cases h
  exact refRight_18 _ w ((oneX_u8 l _).1)
theorem rgot {l : List UInt8} {K x n : Int} {i : Ins} (hK : isK K = true) (h : lenP l (ptsOf K) (insOf K, x) = some (i, n)) : RightsR i := by
  have hk : 1 ≤ K ∧ K ≤ 18 := of_decide_eq_true hK
  have : K = 1 ∨ K = 2 ∨ K = 3 ∨ K = 4 ∨ K = 5 ∨ K = 6 ∨ K = 7 ∨ K = 8 ∨ K = 9 ∨ K = 10 ∨ K = 11 ∨ K = 12 ∨ K = 13 ∨ K = 14 ∨ K = 15 ∨ K = 16 ∨ K = 17 ∨ K = 18 := by omega
  rcases this with rfl | rfl | rfl | rfl | rfl | rfl | rfl | rfl | rfl | rfl | rfl | rfl | rfl | rfl | rfl | rfl | rfl | rfl
  · exact rgot_1 h
  · exact rgot_2 h
  · exact rgot_3 h
  · exact rgot_4 h
  · exact rgot_5 h
  · exact rgot_6 h
  · exact rgot_7 h
  · exact rgot_8 h
  · exact rgot_9 h
  · exact rgot_10 h
  · exact rgot_11 h
  · exact rgot_12 h
  · exact rgot_13 h
  · exact rgot_14 h
  · exact rgot_15 h
  · exact rgot_16 h
  · exact rgot_17 h
  · exact rgot_18 h

set_option maxRecDepth 100000 in
set_option maxHeartbeats 1000000 in
theorem rnone {K : Int} (k0 : 0 ≤ K) (k1 : K < 256) (hK : isK K = false) : RightsR (insOf K) := by
  intro w
  have HQ := Lib.hid (show rightB (insOf K) = false by simp [rightB, insOf, hK])
  have HP := Lib.hid (fun w => parts_at (k := K) (s := sOf K) (b := false) k0 k1 rfl hK w)
  have HI := Lib.hid (show InsAt (w.alloc (.cells (ic (insOf K)) 53)) w.heap.size (insOf K) from heap_alloc_new _ _)
  have HB := Lib.hid (below_box w (.cells (ic (insOf K)) 53))
  unfold ic insOf at HI HB
  unfold iv ic insOf
  go_enter Tryz.func31, Tryz.ntmps31
  go_wp2_with fail
  refine (HP.out _).mono ?_
  rintro e w1 ⟨rfl, hb1⟩
  have hi1 := HI.out.below hb1 (by simp)
  obtain ⟨⟨c0, c1, c2, c3, c4, c5, c6⟩, _⟩ := ins_cells hi1
  have HB1 := Lib.hid (HB.out.trans (hb1.mono (by simp)))
  clear hb1 hi1 HI HB HP
  go_wp2_with fail
  go_quiet (fail)
  go_wp2_with fail
  go_ret
  have hq := HQ.out
  unfold insOf at hq
  exact ⟨by rw [hq]; rfl, HB1.out.trans (below_draws nq)⟩

end Go.Proofs.YtdnpoeegefkoiaaGreat

namespace Go.Proofs.YtdnpoeegefkoiaaGreat
open Go.RowKit

theorem ret_bool {a b : Bool} (h : a = b) : Ending.returned (.bool a) = .returned (.bool b) := by rw [h]
theorem shlU (n : Nat) (h : n ≤ 9) : IntKind.u64.wrap (2 ^ (7 * n)) = pw n := by
  have := pw_pos n
  have := pw_lt9 h
  show IntKind.u64.wrap (pw n) = pw n
  rw [IntKind.wrap_u64]; omega
theorem shlS (n : Nat) (h1 : 1 ≤ n) (h : n ≤ 9) : wrap64 (2 ^ (7 * n - 1)) = 64 * pw (n - 1) := by
  obtain ⟨k, rfl⟩ : ∃ k, n = k + 1 := ⟨n - 1, by omega⟩
  have h3 := pw_pos k
  have h2 := pw_lt9 h
  rw [pw_succ] at h2
  have e : (2 : Int) ^ (7 * (k + 1) - 1) = 64 * pw k := by
    rw [show 7 * (k + 1) - 1 = 7 * k + 6 by omega, Int.pow_add]
    show pw k * 64 = _
    omega
  rw [e, Nat.add_sub_cancel]
  unfold wrap64; omega
theorem shlN (n : Nat) (h1 : 1 ≤ n) (h : n ≤ 9) : wrap64 (-wrap64 (2 ^ (7 * n - 1))) = -(64 * pw (n - 1)) := by
  rw [shlS n h1 h]
  obtain ⟨k, rfl⟩ : ∃ k, n = k + 1 := ⟨n - 1, by omega⟩
  have h3 := pw_pos k
  have h2 := pw_lt9 h
  rw [pw_succ] at h2
  rw [Nat.add_sub_cancel]
  unfold wrap64; omega

set_option maxHeartbeats 400000 in
theorem fitsU_any (x : Int) (n : Nat) (w : World) (_h0 : 0 ≤ x) (_h1 : x < 18446744073709551616) (hn : 1 ≤ n) (hn2 : n ≤ 10) :
    Calls Tryz.prog 51 #[.int .u64 x, .int .i64 n] w fun e w' => e = .returned (.bool (decide (fit false x n))) ∧ w = w' := by
  by_cases h : n = 10
  · subst h
    go_enter Tryz.func51, Tryz.ntmps51
    go_wp2
    go_ret
    exact ⟨by simp [fit], rfl⟩
  · have hn3 : n ≤ 9 := by omega
    go_enter Tryz.func51, Tryz.ntmps51
    go_wp2
    go_ret
    refine ⟨ret_bool ?_, rfl⟩
    rw [shlU n hn3, Bool.eq_iff_iff]
    simp only [Bool.or_eq_true, decide_eq_true_eq, fit_u]
    omega
set_option maxHeartbeats 400000 in
theorem fitsS_any (x : Int) (n : Nat) (w : World) (_h0 : -9223372036854775808 ≤ x) (_h1 : x < 9223372036854775808) (hn : 1 ≤ n) (hn2 : n ≤ 10) :
    Calls Tryz.prog 49 #[.int .i64 x, .int .i64 n] w fun e w' => e = .returned (.bool (decide (fit true x n))) ∧ w = w' := by
  by_cases h : n = 10
  · subst h
    go_enter Tryz.func49, Tryz.ntmps49
    go_wp2
    go_ret
    exact ⟨by simp [fit], rfl⟩
  · have hn3 : n ≤ 9 := by omega
    go_enter Tryz.func49, Tryz.ntmps49
    go_wp2
    all_goals
      rename_i hx
      rw [shlN n hn hn3] at hx
      go_ret
      refine ⟨ret_bool ?_, rfl⟩
      try rw [shlS n hn hn3]
      rw [Bool.eq_iff_iff]
      simp only [decide_eq_true_eq, fit_s, Bool.false_eq_true]
      first | omega | (exact ⟨fun h => h.elim, fun h => by omega⟩)

theorem dig_mod (x : Int) (i : Nat) : x / pw i % 18446744073709551616 % 128 = dgt x i := by unfold dgt; omega
theorem div_next (x : Int) (i : Nat) : x / pw (i + 1) = x / pw i / 128 := by
  have := pw_pos i
  rw [pw_succ, Int.mul_comm, Int.ediv_ediv_of_nonneg (by omega)]
theorem next_u {x : Int} (h0 : 0 ≤ x) (h1 : x < 18446744073709551616) (i : Nat) : x / pw i % 18446744073709551616 / 128 = x / pw (i + 1) % 18446744073709551616 := by
  rw [div_next]
  have h2 := Int.ediv_nonneg h0 (show 0 ≤ pw i by have := pw_pos i; omega)
  have h3 : x / pw i ≤ x := Int.ediv_le_self _ h0
  generalize x / pw i = y at *
  omega
theorem orSign (y : Int) (h0 : 0 ≤ y) (h1 : y < 144115188075855872) : bits .or .u64 y 18302628885633695744 = y + 18302628885633695744 := by
  show IntKind.u64.wrap ((BitVec.ofInt 64 y ||| BitVec.ofInt 64 18302628885633695744).toNat : Int) = _
  obtain ⟨n, rfl⟩ := Int.eq_ofNat_of_zero_le h0
  have := or_ofInt n 127 57 (by omega)
  rw [show ((2 ^ 57 * 127 : Nat) : Int) = 18302628885633695744 from by decide] at this
  rw [this, wrapU_toNat, IntKind.wrap_u64]
  omega
theorem div_neg {x : Int} (h0 : -9223372036854775808 ≤ x) (h1 : x < 0) (i : Nat) : -9223372036854775808 ≤ x / pw i ∧ x / pw i < 0 := by
  have hp := pw_pos i
  refine ⟨?_, Int.ediv_lt_of_lt_mul hp (by omega)⟩
  rw [Int.le_ediv_iff_mul_le hp]
  have : -9223372036854775808 * pw i ≤ -9223372036854775808 * 1 := by omega
  omega
theorem next_s {x : Int} (h0 : -9223372036854775808 ≤ x) (h1 : x < 0) (i : Nat) : bits .or .u64 (x / pw i % 18446744073709551616 / 128) 18302628885633695744 = x / pw (i + 1) % 18446744073709551616 := by
  have h := div_neg h0 h1 i
  rw [div_next]
  generalize x / pw i = y at *
  rw [orSign _ (by omega) (by omega)]
  omega

/-- what digits makes of a number, with its sign -/
def sgn (b : Bool) (x : Int) : Bool := b && decide (x < 0)
theorem next_any {b : Bool} {x : Int} (hr : rng b x) (hs : sgn b x = false) (i : Nat) (hb : b = true → 0 ≤ x) : x / pw i % 18446744073709551616 / 128 = x / pw (i + 1) % 18446744073709551616 := by
  cases b
  · exact next_u hr.1 hr.2 i
  · have h0 := hb rfl
    have h2 : x < 9223372036854775808 := hr.2
    exact next_u h0 (by omega) i

theorem byte_u8 (w : World) (z : Int) (h0 : 0 ≤ z) (h1 : z < 256) : Lies (w.alloc (.cells #[.int .u8 z] 5)) (w.alloc (.cells #[.int .u8 z] 5)).heap.size (some ⟨w.heap.size, 0, none⟩) [UInt8.ofNat z.toNat] :=
  lies_lit w 5 _ _ (by
    have h : ((UInt8.ofNat z.toNat).toNat : Int) = z := by simp; omega
    simp only [List.map_cons, List.map_nil, b8, h])

set_option maxRecDepth 100000 in
set_option maxHeartbeats 2000000 in
theorem digits_pos (A : Option Addr) (c : Nat) (l : List UInt8) (x : Int) (n : Nat) (w : World) (_hc : A = none → c = 0) (h : Lies w w.heap.size A l) (hn : l.length ≤ 1099511627776) (h0 : 0 ≤ x) (hn2 : n ≤ 10) (hx1 : x < 18446744073709551616) :
    Calls Tryz.prog 50 #[.slice A l.length c, .int .u64 x, .bool false, .int .i64 n] w (Made w (l ++ enc x n)) := by
  have HCB := Lib.hid (copyBytes_any A c l w hn h)
  go_enter Tryz.func50, Tryz.ntmps50
  go_wp2_with (go_at_call 7; refine HCB.out.mono ?_; rintro e w' ⟨v, rfl, ho, hb⟩)
  have hq : Hid (Own w' w.heap.size v (l ++ (List.range 0).map (eb x n))) := show Own _ _ _ _ by simpa using ho
  have HB := Lib.hid hb
  clear ho hb
  go_loopw [1, 9, 10] (fun z v i wr => ∃ k : Nat, k ≤ n ∧ i = .int .i64 k ∧ z = .int .u64 (x / pw k % 18446744073709551616) ∧ Hid (Own wr w.heap.size v (l ++ (List.range k).map (eb x n))) ∧ Hid (Below w.heap.size w wr)) (fun _ _ i _ => n - (intOf i).toNat)
  case atStart => exact ⟨0, by omega, rfl, by rw [pw_zero]; congr 1; omega, hq, HB⟩
  case round =>
    obtain ⟨k, hk, rfl, rfl, hq, hb⟩ := hrel
    have hz := hb.out.size
    by_cases hlt : k < n
    · have hd := dig_mod x k
      have hnx := next_u h0 hx1 k
      have hd2 := dgt_lt x k
      have hy0 : 0 ≤ x / pw k % 18446744073709551616 := by omega
      have hy1 : x / pw k % 18446744073709551616 < 18446744073709551616 := by omega
      have HN := Lib.hid hnx
      have HD := Lib.hid hd
      clear hnx hd
      generalize x / pw k % 18446744073709551616 = y at *
      by_cases hlast : k + 1 < n
      · have he : UInt8.ofNat (y % 128 + 128).toNat = eb x n k := by
          rw [HD.out]; unfold eb; rw [if_pos hlast]; congr 1; omega
        have HE := Lib.hid (byte_u8 wr (y % 128 + 128) (by omega) (by omega))
        rw [he] at HE
        have HE' := Lib.hid HE.out
        clear HE he
        go_wp2_with (first
          | (at_builtin
             refine app_slice _ rfl (.tmp 32) (.tmp 35) rfl w.heap.size _ _ rfl (hq.out.alloc _) (some ⟨wr.heap.size, 0, none⟩) 1 _ [eb x n k] rfl (by simp) HE'.out (by simp; omega) (by simp; omega) ?_
             intro v3 w3 ho3 hg3
             have hb3 := below_grown (hb.out.alloc hz _) hg3 (hq.out.alloc _) (by simp; omega)
             rw [enc_part] at ho3
             clear hg3))
        go_roundw
        case rel => exact ⟨k + 1, by omega, by go_num, by rw [← HN.out], ho3, hb3⟩
        case measure => simp [intOf]; omega
      · have he : UInt8.ofNat (y % 128).toNat = eb x n k := by
          rw [HD.out]; unfold eb; rw [if_neg hlast]; congr 1
        have HE := Lib.hid (byte_u8 wr (y % 128) (by omega) (by omega))
        rw [he] at HE
        have HE' := Lib.hid HE.out
        clear HE he
        go_wp2_with (first
          | (at_builtin
             refine app_slice _ rfl (.tmp 32) (.tmp 35) rfl w.heap.size _ _ rfl (hq.out.alloc _) (some ⟨wr.heap.size, 0, none⟩) 1 _ [eb x n k] rfl (by simp) HE'.out (by simp; omega) (by simp; omega) ?_
             intro v3 w3 ho3 hg3
             have hb3 := below_grown (hb.out.alloc hz _) hg3 (hq.out.alloc _) (by simp; omega)
             rw [enc_part] at ho3
             clear hg3))
        go_roundw
        case rel => exact ⟨k + 1, by omega, by go_num, by rw [← HN.out], ho3, hb3⟩
        case measure => simp [intOf]; omega
    · obtain rfl : k = n := by omega
      go_wp2
      go_ret
      exact ⟨_, rfl, hq, hb⟩

set_option maxRecDepth 100000 in
set_option maxHeartbeats 2000000 in
theorem digits_neg (A : Option Addr) (c : Nat) (l : List UInt8) (x : Int) (n : Nat) (w : World) (_hc : A = none → c = 0) (h : Lies w w.heap.size A l) (hn : l.length ≤ 1099511627776) (h0 : -9223372036854775808 ≤ x) (hn2 : n ≤ 10) (hx1 : x < 0) :
    Calls Tryz.prog 50 #[.slice A l.length c, .int .u64 (x % 18446744073709551616), .bool true, .int .i64 n] w (Made w (l ++ enc x n)) := by
  have HCB := Lib.hid (copyBytes_any A c l w hn h)
  go_enter Tryz.func50, Tryz.ntmps50
  go_wp2_with (go_at_call 7; refine HCB.out.mono ?_; rintro e w' ⟨v, rfl, ho, hb⟩)
  have hq : Hid (Own w' w.heap.size v (l ++ (List.range 0).map (eb x n))) := show Own _ _ _ _ by simpa using ho
  have HB := Lib.hid hb
  clear ho hb
  go_loopw [1, 9, 10] (fun z v i wr => ∃ k : Nat, k ≤ n ∧ i = .int .i64 k ∧ z = .int .u64 (x / pw k % 18446744073709551616) ∧ Hid (Own wr w.heap.size v (l ++ (List.range k).map (eb x n))) ∧ Hid (Below w.heap.size w wr)) (fun _ _ i _ => n - (intOf i).toNat)
  case atStart => exact ⟨0, by omega, rfl, by rw [pw_zero, Int.ediv_one], hq, HB⟩
  case round =>
    obtain ⟨k, hk, rfl, rfl, hq, hb⟩ := hrel
    have hz := hb.out.size
    by_cases hlt : k < n
    · have hd := dig_mod x k
      have hnx := next_s h0 hx1 k
      have hd2 := dgt_lt x k
      have hy0 : 0 ≤ x / pw k % 18446744073709551616 := by omega
      have hy1 : x / pw k % 18446744073709551616 < 18446744073709551616 := by omega
      have HN := Lib.hid hnx
      have HD := Lib.hid hd
      clear hnx hd
      generalize x / pw k % 18446744073709551616 = y at *
      by_cases hlast : k + 1 < n
      · have he : UInt8.ofNat (y % 128 + 128).toNat = eb x n k := by
          rw [HD.out]; unfold eb; rw [if_pos hlast]; congr 1; omega
        have HE := Lib.hid (byte_u8 wr (y % 128 + 128) (by omega) (by omega))
        rw [he] at HE
        have HE' := Lib.hid HE.out
        clear HE he
        go_wp2_with (first
          | (at_builtin
             refine app_slice _ rfl (.tmp 32) (.tmp 35) rfl w.heap.size _ _ rfl (hq.out.alloc _) (some ⟨wr.heap.size, 0, none⟩) 1 _ [eb x n k] rfl (by simp) HE'.out (by simp; omega) (by simp; omega) ?_
             intro v3 w3 ho3 hg3
             have hb3 := below_grown (hb.out.alloc hz _) hg3 (hq.out.alloc _) (by simp; omega)
             rw [enc_part] at ho3
             clear hg3))
        go_roundw
        case rel => exact ⟨k + 1, by omega, by go_num, by rw [← HN.out], ho3, hb3⟩
        case measure => simp [intOf]; omega
      · have he : UInt8.ofNat (y % 128).toNat = eb x n k := by
          rw [HD.out]; unfold eb; rw [if_neg hlast]; congr 1
        have HE := Lib.hid (byte_u8 wr (y % 128) (by omega) (by omega))
        rw [he] at HE
        have HE' := Lib.hid HE.out
        clear HE he
        go_wp2_with (first
          | (at_builtin
             refine app_slice _ rfl (.tmp 32) (.tmp 35) rfl w.heap.size _ _ rfl (hq.out.alloc _) (some ⟨wr.heap.size, 0, none⟩) 1 _ [eb x n k] rfl (by simp) HE'.out (by simp; omega) (by simp; omega) ?_
             intro v3 w3 ho3 hg3
             have hb3 := below_grown (hb.out.alloc hz _) hg3 (hq.out.alloc _) (by simp; omega)
             rw [enc_part] at ho3
             clear hg3))
        go_roundw
        case rel => exact ⟨k + 1, by omega, by go_num, by rw [← HN.out], ho3, hb3⟩
        case measure => simp [intOf]; omega
    · obtain rfl : k = n := by omega
      go_wp2
      go_ret
      exact ⟨_, rfl, hq, hb⟩


set_option maxHeartbeats 1000000 in
theorem refPutU_any (A : Option Addr) (c : Nat) (l : List UInt8) (x : Int) (w : World) (hc : A = none → c = 0) (h : Lies w w.heap.size A l) (hn : l.length ≤ 1099511627776) (h0 : 0 ≤ x) (h1 : x < 18446744073709551616) :
    Calls Tryz.prog 35 #[.slice A l.length c, .int .u64 x] w (Made w (l ++ nB false x)) := by
  go_enter Tryz.func35, Tryz.ntmps35
  go_wp2
  go_loop [5] (fun n => ∃ k : Nat, 1 ≤ k ∧ k ≤ 10 ∧ n = .int .i64 k ∧ Hid (lsz false x (10 - k) k = size false x)) (fun n => 10 - (intOf n).toNat)
  case atStart => exact ⟨1, by omega, by omega, rfl, rfl⟩
  case round =>
    obtain ⟨k, hk1, hk2, rfl, hl⟩ := hrel
    have hf := fitsU_any x k w h0 h1 hk1 hk2
    by_cases hfit : fit false x k
    · have HD := Lib.hid (digits_pos A c l x k w hc h hn h0 hk2 h1)
      have e := lsz_yes hk2 hfit hl.out
      have HS := Lib.hid (show nB false x = enc x k by unfold nB; rw [e])
      rw [decide_eq_true hfit] at hf
      have HF := Lib.hid hf
      clear hf hfit e hl h
      go_wp2_with (first | (go_at_call 51; refine HF.out.mono ?_; rintro e w' ⟨rfl, rfl⟩) | (go_at_call 50; refine HD.out.mono ?_; rintro e w' ⟨v, rfl, ho, hb⟩))
      go_ret
      exact ⟨v, rfl, by rw [HS.out]; exact ho, hb⟩
    · obtain ⟨hk3, he⟩ := lsz_no hk2 hfit hl.out
      have HS := Lib.hid he
      rw [decide_eq_false hfit] at hf
      have HF := Lib.hid hf
      clear hf hfit he hl
      go_wp2_with (go_at_call 51; refine HF.out.mono ?_; rintro e w' ⟨rfl, rfl⟩)
      go_round
      case rel => exact ⟨k + 1, by omega, hk3, by go_num, HS⟩
      case measure => simp [intOf]; omega
set_option maxHeartbeats 1000000 in
theorem refPutS_any (A : Option Addr) (c : Nat) (l : List UInt8) (x : Int) (w : World) (hc : A = none → c = 0) (h : Lies w w.heap.size A l) (hn : l.length ≤ 1099511627776) (h0 : -9223372036854775808 ≤ x) (h1 : x < 9223372036854775808) :
    Calls Tryz.prog 34 #[.slice A l.length c, .int .i64 x] w (Made w (l ++ nB true x)) := by
  go_enter Tryz.func34, Tryz.ntmps34
  go_wp2
  go_loop [5] (fun n => ∃ k : Nat, 1 ≤ k ∧ k ≤ 10 ∧ n = .int .i64 k ∧ Hid (lsz true x (10 - k) k = size true x)) (fun n => 10 - (intOf n).toNat)
  case atStart => exact ⟨1, by omega, by omega, rfl, rfl⟩
  case round =>
    obtain ⟨k, hk1, hk2, rfl, hl⟩ := hrel
    have hf := fitsS_any x k w h0 h1 hk1 hk2
    by_cases hfit : fit true x k
    · have e := lsz_yes hk2 hfit hl.out
      have HS := Lib.hid (show nB true x = enc x k by unfold nB; rw [e])
      rw [decide_eq_true hfit] at hf
      have HF := Lib.hid hf
      by_cases hneg : x < 0
      · have hdn := digits_neg A c l x k w hc h hn h0 hk2 hneg
        rw [← IntKind.wrap_u64] at hdn
        have HD := Lib.hid hdn
        clear hdn hf hfit e hl h
        go_wp2_with (first | (go_at_call 49; refine HF.out.mono ?_; rintro e w' ⟨rfl, rfl⟩) | (go_at_call 50; refine HD.out.mono ?_; rintro e w' ⟨v, rfl, ho, hb⟩))
        go_ret
        exact ⟨v, rfl, by rw [HS.out]; exact ho, hb⟩
      · have HD := Lib.hid (digits_pos A c l x k w hc h hn (by omega) hk2 (by omega))
        have bn : decide (x < 0) = false := by simp; omega
        clear hf hfit e hl h
        go_wp2_with (first | (go_at_call 49; refine HF.out.mono ?_; rintro e w' ⟨rfl, rfl⟩) | (go_at_call 50; refine HD.out.mono ?_; rintro e w' ⟨v, rfl, ho, hb⟩))
        go_ret
        exact ⟨v, rfl, by rw [HS.out]; exact ho, hb⟩
    · obtain ⟨hk3, he⟩ := lsz_no hk2 hfit hl.out
      have HS := Lib.hid he
      rw [decide_eq_false hfit] at hf
      have HF := Lib.hid hf
      clear hf hfit he hl
      go_wp2_with (go_at_call 49; refine HF.out.mono ?_; rintro e w' ⟨rfl, rfl⟩)
      go_round
      case rel => exact ⟨k + 1, by omega, hk3, by go_num, HS⟩
      case measure => simp [intOf]; omega

end Go.Proofs.YtdnpoeegefkoiaaGreat

namespace Go.Proofs.YtdnpoeegefkoiaaGreat
open Go.RowKit

theorem own_empty (w : World) : Own (w.alloc (.cells #[] 5)) w.heap.size (.slice (some ⟨w.heap.size, 0, none⟩) 0 0) [] := by
  have h := blk_lit w [] #[] rfl
  have := Own.of h (Nat.le_refl _) 0 (Nat.zero_le _) (by simp [maxLen])
  simpa using this

theorem plB_lies5 (w : World) (k : Nat) (hk : k < 16777216) : Lies (w.alloc (.cells #[.int .u8 ((k : Int) / 65536), .int .u8 ((k : Int) / 256 % 256), .int .u8 ((k : Int) % 256)] 5))
    (w.alloc (.cells #[.int .u8 ((k : Int) / 65536), .int .u8 ((k : Int) / 256 % 256), .int .u8 ((k : Int) % 256)] 5)).heap.size (some ⟨w.heap.size, 0, none⟩) (plB k) :=
  lies_lit w 5 (plB k) _ (by rw [plB_val k hk])

set_option maxHeartbeats 400000 in
theorem refPutPlace_any (A : Option Addr) (c : Nat) (l : List UInt8) (n : Int) (w : World) (hc : A = none → c = 0) (h : Lies w w.heap.size A l) (hn : l.length ≤ 1099511627776) :
    Calls Tryz.prog 36 #[.slice A l.length c, .int .i64 n] w (PutR w (ppL l n) (ppE n)) := by
  by_cases hi : 0 ≤ n ∧ n < 16777216
  · obtain ⟨k, rfl⟩ : ∃ k : Nat, n = k := ⟨n.toNat, by omega⟩
    have hk : k < 16777216 := by omega
    rw [(pp_good (l := l) hk).1, (pp_good (l := l) hk).2]
    have HC := Lib.hid hc
    have t1 : decide ((k : Int) < 0) = false := by simp
    have t2 : decide ((16777216 : Int) ≤ (k : Int)) = false := by simp; omega
    have ho0 := own_empty w
    have hb0 : Below w.heap.size w (w.alloc (.cells #[] 5)) := (Below.refl _ _).alloc (Nat.le_refl _) _
    clear hc hi
    go_enter Tryz.func36, Tryz.ntmps36
    go_wp2_with (first
      | (at_builtin
         refine app_slice _ rfl (.tmp 12) (.tmp 13) rfl w.heap.size _ [] rfl ho0 A c w.heap.size l rfl HC.out (h.below hb0) (by simp; omega) hb0.size ?_
         intro v1 w1 ho1 hg1
         have hb1 := below_grown hb0 hg1 ho0 hb0.size
         clear hg1)
      | (at_builtin
         refine app_slice _ rfl (.tmp 14) (.tmp 25) rfl w.heap.size v1 ([] ++ l) rfl (ho1.alloc _) (some ⟨w1.heap.size, 0, none⟩) 3 _ (plB k) rfl (by simp) (plB_lies5 w1 k hk) (by simp [plB]; omega) (Nat.le_trans hb1.size (by simp)) ?_
         intro v2 w2 ho2 hg2
         have hb2 := below_grown (hb1.alloc hb1.size _) hg2 (ho1.alloc _) (Nat.le_trans hb1.size (by simp))
         clear hg2))
    go_ret2
    exact ⟨v2, rfl, by simpa using ho2, hb2⟩
  · rw [(pp_bad (l := l) hi).1, (pp_bad (l := l) hi).2]
    by_cases h1 : 0 ≤ n
    · have h2 : ¬ n < 16777216 := by omega
      clear hi
      go_enter Tryz.func36, Tryz.ntmps36
      go_wp2
      go_ret2
      exact ⟨_, rfl, Own.nil _ _, Below.refl _ _⟩
    · clear hi
      go_enter Tryz.func36, Tryz.ntmps36
      go_wp2
      go_ret2
      exact ⟨_, rfl, Own.nil _ _, Below.refl _ _⟩

end Go.Proofs.YtdnpoeegefkoiaaGreat

namespace Go.Proofs.YtdnpoeegefkoiaaGreat
open Go.RowKit

theorem pair_is (h l k : Int) (k0 : 0 ≤ k) (k1 : k < 256) (e1 : k / 16 = h) (e2 : k % 16 = l) : k = pairV h l ∧ pairB h l = true := by
  have hb : pairB h l = true := by simp [pairB]; omega
  refine ⟨?_, hb⟩
  simp only [pairV, hb, if_true]; omega

theorem pair_not (h l : Int) (k : Nat) (hk : pairB h l = true → (k : Int) ≤ h * 16 + l) (n : ¬ ((k : Int) / 16 = h ∧ (k : Int) % 16 = l)) : pairB h l = true → ((k + 1 : Nat) : Int) ≤ h * 16 + l := by
  intro hb
  have := hk hb
  simp [pairB] at hb
  omega

theorem pair_end (h l : Int) (k : Nat) (k0 : 256 ≤ k) (hk : pairB h l = true → (k : Int) ≤ h * 16 + l) : pairB h l = false ∧ pairV h l = 0 := by
  have hb : pairB h l = false := by
    rcases hq : pairB h l with _ | _
    · rfl
    · have := hk hq
      simp [pairB] at hq
      omega
  exact ⟨hb, by simp [pairV, hb]⟩

theorem pair_ret {h l : Int} {v : Int} {b : Bool} (hv : v = pairV h l) (hb : b = pairB h l) :
    Ending.returned (.tuple #[.int .u8 v, .bool b]) = .returned (.tuple #[.int .u8 (pairV h l), .bool (pairB h l)]) := by rw [hv, hb]

set_option maxRecDepth 100000 in
set_option maxHeartbeats 400000 in
theorem refPair_any (h l : Int) (w : World) :
    Calls Tryz.prog 33 #[.int .i64 h, .int .i64 l] w fun e w' => e = .returned (.tuple #[.int .u8 (pairV h l), .bool (pairB h l)]) ∧ w = w' := by
  go_enter Tryz.func33, Tryz.ntmps33
  go_wp2
  go_loop [6] (fun x => ∃ k : Nat, k ≤ 256 ∧ x = .int .i64 k ∧ Hid (pairB h l = true → (k : Int) ≤ h * 16 + l)) (fun x => 256 - (intOf x).toNat)
  case atStart => exact ⟨0, by omega, rfl, fun hb => by simp [pairB] at hb; omega⟩
  case round =>
    obtain ⟨k, hk, rfl, hh⟩ := hrel
    by_cases hlt : k < 256
    · by_cases e1 : (k : Int) / 16 = h
      · by_cases e2 : (k : Int) % 16 = l
        · have E1 : Hid _ := e1
          have E2 : Hid _ := e2
          have b1 : ((k : Int) / 16 == h) = true := by simp [e1]
          have b2 : ((k : Int) % 16 == l) = true := by simp [e2]
          clear e1 e2
          go_wp2
          go_ret2
          have := pair_is h l k (by omega) (by omega) E1 E2
          exact ⟨pair_ret (by omega) this.2.symm, rfl⟩
        · have hn := Lib.hid (pair_not h l k hh (fun x => e2 x.2))
          have E1 : Hid _ := e1
          have b1 : ((k : Int) / 16 == h) = true := by simp [e1]
          have b2 : ((k : Int) % 16 == l) = false := by simp [e2]
          clear e1 e2
          go_wp2
          go_round
          case rel => exact ⟨k + 1, by omega, by go_num, hn⟩
          case measure => simp [intOf]; omega
      · have hn := Lib.hid (pair_not h l k hh (fun x => e1 x.1))
        have b1 : ((k : Int) / 16 == h) = false := by simp [e1]
        clear e1
        go_wp2
        go_round
        case rel => exact ⟨k + 1, by omega, by go_num, hn⟩
        case measure => simp [intOf]; omega
    · go_wp2
      go_ret2
      have := pair_end h l k (by omega) hh
      exact ⟨pair_ret this.2.symm this.1.symm, rfl⟩

end Go.Proofs.YtdnpoeegefkoiaaGreat

namespace Go.Proofs.YtdnpoeegefkoiaaGreat
open Go.RowKit

def ltrZ : Pt → Int
  | .op => 111
  | .reg => 114
  | .both => 97
  | .third => 116
  | .num => 110
  | .many => 109
  | .to => 106
  | .how => 107
theorem ltr_Z (p : Pt) : ((ltr p).toNat : Int) = ltrZ p := by cases p <;> rfl
theorem index_ltr {k : Int} {q : Nat} {p : Pt} (h : (ptsOf k)[q]? = some p) (w : World) : (Instr.index 9 (.string (strL (sOf k))) (.int .i64 q)).run Tryz.prog w = .ok (.int .u8 (ltrZ p)) w := by
  obtain ⟨hq, e⟩ := List.getElem?_eq_some_iff.1 h
  have hq' : q < (sOf k).length := by simpa [sOf] using hq
  rw [index_str (sOf k) q hq' w]
  have : (sOf k)[q] = ltr p := by simp [sOf, e]
  rw [this, ltr_Z]
theorem pts_len (k : Int) : (ptsOf k).length ≤ 4 := by
  unfold ptsOf
  repeat' split
  all_goals simp
theorem str_pts (k : Int) : (strL (sOf k)).size = (ptsOf k).length := by rw [str_len]; simp [sOf]

/-- what Put holds between its parts -/
def PutI (i : Ins) (w : World) (q : Nat) (v : Value) (wr : World) : Prop :=
  Own wr (w.heap.size + 1) v (ownP i ((ptsOf i.k).take q)) ∧ InsAt wr w.heap.size i ∧ Below w.heap.size w wr
theorem puti_step {i : Ins} {w wr w' : World} {q : Nat} {v v' : Value} {p : Pt} (hp : (ptsOf i.k)[q]? = some p) (hI : PutI i w q v wr)
    (ho : Own w' (w.heap.size + 1) v' (ownP i ((ptsOf i.k).take q) ++ bytesP p i)) (hb : Below (w.heap.size + 1) wr w') : PutI i w (q + 1) v' w' := by
  refine ⟨?_, hI.2.1.below hb (by omega), hI.2.2.trans (hb.mono (by omega))⟩
  rw [take_snoc hp, ownP_snoc]
  exact ho
theorem puti_made {i : Ins} {w wr w' : World} {q : Nat} {v v' : Value} {p : Pt} {l : List UInt8} (hp : (ptsOf i.k)[q]? = some p) (hI : PutI i w q v wr)
    (hl : l = ownP i ((ptsOf i.k).take q) ++ bytesP p i) (ho : Own w' wr.heap.size v' l) (hb : Below wr.heap.size wr w') : PutI i w (q + 1) v' w' := by
  have := hI.2.1.lt
  subst hl
  exact puti_step hp hI (ho.base (by omega)) (hb.mono (by omega))
theorem puti_len {i : Ins} {w wr : World} {q : Nat} {v : Value} (_hI : PutI i w q v wr) : (ownP i ((ptsOf i.k).take q)).length ≤ 41 := by
  have h1 := ownP_len i ((ptsOf i.k).take q)
  have h2 := pts_len i.k
  have h3 : ((ptsOf i.k).take q).length ≤ (ptsOf i.k).length := by simp only [List.length_take]; omega
  omega
theorem pair_in {r s : Int} (h : 0 ≤ r ∧ r < 16 ∧ 0 ≤ s ∧ s < 16) (w : World) :
    Calls Tryz.prog 33 #[.int .i64 r, .int .i64 s] w fun e w' => e = .returned (.tuple #[.int .u8 (r * 16 + s), .bool true]) ∧ w = w' := by
  have h2 := refPair_any r s w
  have hb : pairB r s = true := by simp [pairB]; omega
  have hv : pairV r s = r * 16 + s := by simp [pairV, hb]
  rw [hv, hb] at h2
  exact h2

set_option maxRecDepth 100000 in
set_option maxHeartbeats 1000000 in
theorem refPut_any (i : Ins) (w : World) (hr : i.Rng) (hb : rightB i = true) (hR : ∀ w, Calls Tryz.prog 31 #[iv i] w fun e w' => e = .returned (.bool true) ∧ Below w.heap.size w w') :
    Calls Tryz.prog 22 #[.slice none 0 0, iv i] w (Made w (ownB i)) := by
  have hp := right_parts hb
  have HF := Lib.hid hp.2.1
  have HO := Lib.hid (show ownB i = ownP i (ptsOf i.k) by simp [ownB, ownP, hb])
  have HRG := Lib.hid hr
  have k0 := hr.k0
  have k1 := hr.k1
  have HB0 := Lib.hid (below_box w (.cells (ic i) 53))
  have HI0 := Lib.hid (show InsAt (w.alloc (.cells (ic i) 53)) w.heap.size i from heap_alloc_new w _)
  have HR := Lib.hid hR
  have HC := Lib.hid (copyBytes_any none 0 [] (w.alloc (.cells (ic i) 53)) (by simp) (Lies.empty _ _ _))
  have HP := Lib.hid (fun w => refParts_any i.k w k0 k1)
  have hl := str_pts i.k
  have h4 := pts_len i.k
  clear hr hb hR hp
  unfold iv ic at HR
  unfold PartsR3 at HP
  unfold ic at HI0 HB0 HC
  unfold iv ic
  go_enter Tryz.func22, Tryz.ntmps22
  go_wp2_with fail
  refine HC.out.mono ?_
  rintro e w1 ⟨v1, rfl, ho1, hb1⟩
  have hi1 := HI0.out.below hb1 (by simp)
  have HO1 := Lib.hid (show Own w1 (w.heap.size + 1) v1 [] from ho1.base (by simp))
  have HB1 := Lib.hid (HB0.out.trans (hb1.mono (by simp)))
  obtain ⟨⟨c0, c1, c2, c3, c4, c5, c6⟩, _⟩ := ins_cells hi1
  have HI1 := Lib.hid hi1
  clear hb1 hi1 ho1 HC HI0 HB0
  go_wp2_with fail
  refine (HR.out _).mono ?_
  rintro e w2 ⟨rfl, hb2⟩
  have HO2 := Lib.hid (HO1.out.below hb2)
  have HI2 := Lib.hid (HI1.out.below hb2 HI1.out.lt)
  have HB2 := Lib.hid (HB1.out.trans (hb2.mono (by have := HI1.out.lt; omega)))
  clear c0 c1 c2 c3 c4 c5 c6 HO1 HB1 HI1 hb2 HR
  obtain ⟨⟨c0, c1, c2, c3, c4, c5, c6⟩, _⟩ := ins_cells HI2.out
  have hz2 := HI2.out.lt
  have HE := Lib.hid (byte_u8 w2 i.k k0 k1)
  go_wp2_with (at_builtin; refine app_slice _ rfl (.tmp 17) (.tmp 20) rfl (w.heap.size + 1) v1 [] rfl (HO2.out.alloc _) (some ⟨w2.heap.size, 0, none⟩) 1 _ [UInt8.ofNat i.k.toNat] rfl (by simp) HE.out (by simp) (by simp; omega) ?_; intro v3 w3 ho3 hg3; have HO3 := Lib.hid ho3; have HB3 := Lib.hid (below_grown ((Below.refl (w.heap.size + 1) w2).alloc (by omega) _) hg3 (HO2.out.alloc _) (by simp; omega)); have hi3 := HI2.out.below HB3.out (by omega); obtain ⟨⟨d0, d1, d2, d3, d4, d5, d6⟩, _⟩ := ins_cells hi3; have HI3 := Lib.hid hi3; clear hi3 ho3 hg3 c0 c1 c2 c3 c4 c5 c6 HE)
  refine (HP.out _).mono ?_
  rintro e w4 ⟨rfl, hb4⟩
  have HI4 : Hid (PutI i w 0 v3 w4) := ⟨HO3.out.below hb4, HI3.out.below hb4 HI3.out.lt, (HB2.out.trans (HB3.out.mono (by omega))).trans (hb4.mono (by have := HI3.out.lt; omega))⟩
  clear d0 d1 d2 d3 d4 d5 d6 HO2 HI2 HB2 HO3 HI3 HB3 hb4 HP hz2
  go_wp2_with fail
  go_loopw [5, 8] (fun v j wr => ∃ q : Nat, q ≤ (ptsOf i.k).length ∧ j = .int .i64 q ∧ Hid (PutI i w q v wr)) (fun _ j _ => (ptsOf i.k).length - (intOf j).toNat)
  case atStart => exact ⟨0, by omega, rfl, HI4⟩
  case round =>
    obtain ⟨q, hq, rfl, hI⟩ := hrel
    by_cases hlt : q < (ptsOf i.k).length
    · obtain ⟨p, hp⟩ : ∃ p, (ptsOf i.k)[q]? = some p := ⟨_, List.getElem?_eq_getElem hlt⟩
      have hfit := HF.out p (List.mem_of_getElem? hp)
      have hix := index_ltr hp
      have hlen := puti_len hI.out
      have HIp := Lib.hid hp
      have ho := Lib.hid hI.out.1
      have hz := hI.out.2.1.lt
      obtain ⟨⟨c0, c1, c2, c3, c4, c5, c6⟩, _⟩ := ins_cells hI.out.2.1
      clear hp HI4
      cases p
      case op =>
        have HE := Lib.hid (byte_u8 wr i.o HRG.out.o0 HRG.out.o1)
        simp only [ltrZ] at hix
        clear hfit
        go_wp2_with (at_builtin; refine app_slice _ rfl (.tmp 39) (.tmp 42) rfl (w.heap.size + 1) _ _ rfl (ho.out.alloc _) (some ⟨wr.heap.size, 0, none⟩) 1 _ [UInt8.ofNat i.o.toNat] rfl (by simp) HE.out (by simp; omega) (by simp; omega) ?_; intro v3 w3 ho3 hg3; have HN := Lib.hid (puti_step HIp.out hI.out ho3 (below_grown ((Below.refl (w.heap.size + 1) wr).alloc (by omega) _) hg3 (ho.out.alloc _) (by simp; omega))); clear hg3 ho3)
        go_roundw
        case rel => exact ⟨q + 1, by omega, by go_num, HN⟩
        case measure => simp [intOf]; omega
      case reg =>
        have hf : 0 ≤ i.r ∧ i.r < 16 := of_decide_eq_true hfit
        have HE := Lib.hid (byte_u8 wr i.r (by omega) (by omega))
        simp only [ltrZ] at hix
        clear hfit
        go_wp2_with (at_builtin; refine app_slice _ rfl (.tmp 46) (.tmp 50) rfl (w.heap.size + 1) _ _ rfl (ho.out.alloc _) (some ⟨wr.heap.size, 0, none⟩) 1 _ [UInt8.ofNat i.r.toNat] rfl (by simp) HE.out (by simp; omega) (by simp; omega) ?_; intro v3 w3 ho3 hg3; have HN := Lib.hid (puti_step HIp.out hI.out ho3 (below_grown ((Below.refl (w.heap.size + 1) wr).alloc (by omega) _) hg3 (ho.out.alloc _) (by simp; omega))); clear hg3 ho3)
        go_roundw
        case rel => exact ⟨q + 1, by omega, by go_num, HN⟩
        case measure => simp [intOf]; omega
      case both =>
        have hf : (0 ≤ i.r ∧ i.r < 16) ∧ (0 ≤ i.s ∧ i.s < 16) := by simpa [fitsP, isR] using hfit
        have HE := Lib.hid (byte_u8 wr (i.r * 16 + i.s) (by omega) (by omega))
        have HPr := Lib.hid (pair_in (r := i.r) (s := i.s) (by omega))
        simp only [ltrZ] at hix
        clear hfit
        go_wp2_with (first
          | (go_at_call 33; refine (HPr.out _).mono ?_; rintro e w' ⟨rfl, rfl⟩)
          | (at_builtin; refine app_slice _ rfl (.tmp 62) (.tmp 64) rfl (w.heap.size + 1) _ _ rfl (ho.out.alloc _) (some ⟨wr.heap.size, 0, none⟩) 1 _ [UInt8.ofNat (i.r * 16 + i.s).toNat] rfl (by simp) HE.out (by simp; omega) (by simp; omega) ?_; intro v3 w3 ho3 hg3; have HN := Lib.hid (puti_step HIp.out hI.out ho3 (below_grown ((Below.refl (w.heap.size + 1) wr).alloc (by omega) _) hg3 (ho.out.alloc _) (by simp; omega))); clear hg3 ho3))
        go_roundw
        case rel => exact ⟨q + 1, by omega, by go_num, HN⟩
        case measure => simp [intOf]; omega
      case third =>
        have hf : 0 ≤ i.t ∧ i.t < 16 := of_decide_eq_true hfit
        have HE := Lib.hid (byte_u8 wr i.t (by omega) (by omega))
        simp only [ltrZ] at hix
        clear hfit
        go_wp2_with (at_builtin; refine app_slice _ rfl (.tmp 68) (.tmp 72) rfl (w.heap.size + 1) _ _ rfl (ho.out.alloc _) (some ⟨wr.heap.size, 0, none⟩) 1 _ [UInt8.ofNat i.t.toNat] rfl (by simp) HE.out (by simp; omega) (by simp; omega) ?_; intro v3 w3 ho3 hg3; have HN := Lib.hid (puti_step HIp.out hI.out ho3 (below_grown ((Below.refl (w.heap.size + 1) wr).alloc (by omega) _) hg3 (ho.out.alloc _) (by simp; omega))); clear hg3 ho3)
        go_roundw
        case rel => exact ⟨q + 1, by omega, by go_num, HN⟩
        case measure => simp [intOf]; omega
      case num =>
        simp only [ltrZ] at hix
        clear hfit
        obtain ⟨A, c, rfl, _, hc, hL⟩ := ho.out.form
        have HM := Lib.hid (refPutS_any A c _ i.n wr hc hL (by omega) HRG.out.n0 HRG.out.n1)
        clear hc hL
        go_wp2_with fail
        refine HM.out.mono ?_
        rintro e w5 ⟨v5, rfl, ho5, hb5⟩
        have HN := Lib.hid (puti_made HIp.out hI.out rfl ho5 hb5)
        clear ho5 hb5 HM c0 c1 c2 c3 c4 c5 c6
        go_wp2_with fail
        go_roundw
        case rel => exact ⟨q + 1, by omega, by go_num, HN⟩
        case measure => simp [intOf]; omega
      case many =>
        have hf : 1 ≤ i.m ∧ i.m ≤ 65536 := of_decide_eq_true hfit
        simp only [ltrZ] at hix
        clear hfit
        obtain ⟨A, c, rfl, _, hc, hL⟩ := ho.out.form
        have HM := Lib.hid (refPutU_any A c _ i.m wr hc hL (by omega) (by omega) (by omega))
        clear hc hL
        go_wp2_with fail
        refine HM.out.mono ?_
        rintro e w5 ⟨v5, rfl, ho5, hb5⟩
        have HN := Lib.hid (puti_made HIp.out hI.out rfl ho5 hb5)
        clear ho5 hb5 HM c0 c1 c2 c3 c4 c5 c6
        go_wp2_with fail
        go_roundw
        case rel => exact ⟨q + 1, by omega, by go_num, HN⟩
        case measure => simp [intOf]; omega
      case to =>
        have hf : 0 ≤ i.n ∧ i.n < 16777216 := of_decide_eq_true hfit
        simp only [ltrZ] at hix
        clear hfit
        obtain ⟨A, c, rfl, _, hc, hL⟩ := ho.out.form
        have HM := Lib.hid (refPutPlace_any A c _ i.n wr hc hL (by omega))
        have HL := Lib.hid (show ppL (ownP i ((ptsOf i.k).take q)) i.n = ownP i ((ptsOf i.k).take q) ++ bytesP .to i by simp only [ppL, if_pos hf, bytesP])
        clear hc hL
        go_wp2_with fail
        refine HM.out.mono ?_
        rintro e w5 ⟨v5, rfl, ho5, hb5⟩
        have HN := Lib.hid (puti_made HIp.out hI.out HL.out ho5 hb5)
        clear ho5 hb5 HM HL c0 c1 c2 c3 c4 c5 c6
        go_wp2_with fail
        go_roundw
        case rel => exact ⟨q + 1, by omega, by go_num, HN⟩
        case measure => simp [intOf]; omega
      case how =>
        have hf : 2 ≤ i.n ∧ i.n ≤ 4 := of_decide_eq_true hfit
        have HE := Lib.hid (byte_u8 wr i.n (by omega) (by omega))
        simp only [ltrZ] at hix
        clear hfit
        go_wp2_with (at_builtin; refine app_slice _ rfl (.tmp 98) (.tmp 102) rfl (w.heap.size + 1) _ _ rfl (ho.out.alloc _) (some ⟨wr.heap.size, 0, none⟩) 1 _ [UInt8.ofNat i.n.toNat] rfl (by simp) HE.out (by simp; omega) (by simp; omega) ?_; intro v3 w3 ho3 hg3; have HN := Lib.hid (puti_step HIp.out hI.out ho3 (below_grown ((Below.refl (w.heap.size + 1) wr).alloc (by omega) _) hg3 (ho.out.alloc _) (by simp; omega))); clear hg3 ho3)
        go_roundw
        case rel => exact ⟨q + 1, by omega, by go_num, HN⟩
        case measure => simp [intOf]; omega
    · have hI' := Lib.hid hI.out.1
      have hB' := Lib.hid hI.out.2.2
      rw [List.take_of_length_le (by omega)] at hI'
      clear hI HI4
      go_wp2_with fail
      go_ret
      exact ⟨_, rfl, by rw [HO.out]; exact hI'.out.base (by omega), hB'.out⟩

end Go.Proofs.YtdnpoeegefkoiaaGreat

namespace Go.Proofs.YtdnpoeegefkoiaaGreat
open Go.RowKit

set_option maxRecDepth 100000 in
set_option maxHeartbeats 1000000 in
theorem long_any (A : Option Addr) (c : Nat) (l : List UInt8) (k : Nat) (w : World) (B : Nat) (hn : l.length ≤ 1099511627776) (h : Lies w B A l) (hk : k ≤ l.length) :
    Calls Tryz.prog 64 #[.slice A l.length c, .int .i64 k] w fun e w' => e = .returned (.int .i64 (lg (l.drop k) 10)) ∧ w = w' := by
  go_enter Tryz.func64, Tryz.ntmps64
  go_wp2
  go_loop [5] (fun q => ∃ j : Nat, j ≤ 10 ∧ k + j ≤ l.length ∧ q = .int .i64 j ∧ Hid (∀ m, m < j → 128 ≤ by_ (l.drop k) m)) (fun q => 10 - (intOf q).toNat)
  case atStart => exact ⟨0, by omega, by omega, rfl, fun m hm => by omega⟩
  case round =>
    obtain ⟨j, hj, hkj, rfl, hm⟩ := hrel
    by_cases hj10 : j < 10
    · by_cases hjl : k + j < l.length
      · obtain ⟨g, o, rfl, hg, hc⟩ := h.by_ hjl
        obtain ⟨q, hq⟩ : ∃ q, q = by_ (l.drop k) j := ⟨_, rfl⟩
        have hq2 := by_lt (l.drop k) j
        rw [← hq] at hc hq2
        have hi : (k : Int) + (j : Int) < l.length := by omega
        by_cases hmore : q < 128
        · have HR := Lib.hid (show lg (l.drop k) 10 = j + 1 from lg_is 10 _ (j + 1) (by omega) (by omega) (by simp; omega) (by simp; omega) (fun m h => hm.out m (by omega)))
          clear hq
          go_wp2
          go_ret
          exact ⟨by rw [HR.out]; rfl, rfl⟩
        · have hm2 : Hid (∀ m, m < j + 1 → 128 ≤ by_ (l.drop k) m) := fun m h => by
            by_cases e : m = j
            · subst e; omega
            · exact hm.out m (by omega)
          clear hq hm
          go_wp2
          go_round
          case rel => exact ⟨j + 1, by omega, by omega, by go_num, hm2⟩
          case measure => simp [intOf]; omega
      · have HR := Lib.hid (show lg (l.drop k) 10 = 0 from lg_none 10 _ fun m h1 h2 => hm.out m (by simp at h2; omega))
        have hi : ¬ (k : Int) + (j : Int) < l.length := by omega
        go_wp2
        go_ret
        exact ⟨by rw [HR.out]; rfl, rfl⟩
    · have HR := Lib.hid (show lg (l.drop k) 10 = 0 from lg_none 10 _ fun m h1 h2 => hm.out m (by omega))
      go_wp2
      go_ret
      exact ⟨by rw [HR.out]; rfl, rfl⟩

/-- the digits from place j on, of n -/
def smT (r : List UInt8) (n j : Nat) : Int := sm ((r.take n).drop j)
theorem smT_end (r : List UInt8) (n : Nat) : smT r n n = 0 := by
  unfold smT; rw [List.drop_of_length_le (by simp; omega)]; rfl
theorem smT_step (r : List UInt8) (n j : Nat) (h : j < n) (hl : n ≤ r.length) : smT r n j = (by_ r j : Int) % 128 + 128 * smT r n (j + 1) := by
  unfold smT
  have hj : j < (r.take n).length := by simp; omega
  rw [List.drop_eq_getElem_cons hj, sm, ← by_get _ _ hj, by_take _ _ _ h]
theorem smT_zero (r : List UInt8) (n : Nat) : smT r n 0 = sm (r.take n) := by simp [smT]

set_option maxRecDepth 100000 in
set_option maxHeartbeats 1000000 in
theorem sum_any (A : Option Addr) (c : Nat) (l : List UInt8) (k n : Nat) (w : World) (B : Nat) (hn : l.length ≤ 1099511627776) (h : Lies w B A l) (hk : k + n ≤ l.length) :
    Calls Tryz.prog 65 #[.slice A l.length c, .int .i64 k, .int .i64 n] w fun e w' => e = .returned (.int .u64 (sm ((l.drop k).take n) % 18446744073709551616)) ∧ w = w' := by
  go_enter Tryz.func65, Tryz.ntmps65
  go_wp2
  go_loop [7, 8] (fun x i => ∃ (j : Nat) (z : Int), j ≤ n ∧ i = .int .i64 ((j : Int) - 1) ∧ x = .int .u64 z ∧ 0 ≤ z ∧ z < 18446744073709551616 ∧ Hid (z = smT (l.drop k) n j % 18446744073709551616)) (fun _ i => (intOf i + 1).toNat)
  case atStart => exact ⟨n, 0, by omega, rfl, rfl, by omega, by omega, by rw [smT_end]; rfl⟩
  case round =>
    obtain ⟨j, z, hj, rfl, rfl, hz0, hz1, hz⟩ := hrel
    by_cases hj0 : 0 < j
    · obtain ⟨m, rfl⟩ : ∃ m, j = m + 1 := ⟨j - 1, by omega⟩
      obtain ⟨g, o, rfl, hg, hc⟩ := h.by_ (show k + m < l.length by omega)
      obtain ⟨q, hq⟩ : ∃ q, q = by_ (l.drop k) m := ⟨_, rfl⟩
      have hq2 := by_lt (l.drop k) m
      have hst := smT_step (l.drop k) n m (by omega) (by simp; omega)
      rw [← hq] at hc hq2 hst
      have HZ := Lib.hid (show IntKind.u64.wrap (IntKind.u64.wrap (128 * z) + (q : Int) % 128) = smT (l.drop k) n m % 18446744073709551616 by
        have := hz.out; rw [hst, IntKind.wrap_u64, IntKind.wrap_u64]; omega)
      have HR := Lib.hid (wk_rng false (IntKind.u64.wrap (128 * z) + (q : Int) % 128))
      clear hq hst hz
      go_wp2
      go_round
      case rel => exact ⟨m, _, by omega, rfl, rfl, HR.out.1, HR.out.2, HZ⟩
      case measure => simp [intOf]
    · obtain rfl : j = 0 := by omega
      have HZ := Lib.hid hz.out
      clear hz
      go_wp2
      go_ret
      exact ⟨by rw [← smT_zero, ← HZ.out]; rfl, rfl⟩

theorem prefix_of {l r : List UInt8} (hl : l.length ≤ r.length) (h : ∀ m, m < l.length → by_ l m = by_ r m) : l <+: r := by
  rw [List.prefix_iff_eq_take]
  apply List.ext_getElem
  · simp; omega
  · intro i h1 h2
    have := h i h1
    rw [by_get _ _ h1, by_get _ _ (by omega)] at this
    simp [UInt8.toNat_inj.1 this]
def StandsR (b : Bool) (w : World) (e : Ending) (w' : World) : Prop := e = .returned (.bool b) ∧ Below w.heap.size w w'

set_option maxRecDepth 100000 in
set_option maxHeartbeats 1000000 in
theorem refStands_any (A A2 : Option Addr) (c c2 : Nat) (l l2 : List UInt8) (k : Nat) (w : World) (hn : l.length ≤ 1099511627776) (hn2 : l2.length ≤ 1099511627776) (h : Lies w w.heap.size A l) (h2 : Lies w w.heap.size A2 l2) (hk : k ≤ l.length) :
    Calls Tryz.prog 66 #[.slice A l.length c, .int .i64 k, .slice A2 l2.length c2] w (StandsR (decide (l2 <+: l.drop k)) w) := by
  by_cases hlen : k + l2.length ≤ l.length
  · have hi : ¬ (l.length : Int) - (k : Int) < l2.length := by omega
    go_enter Tryz.func66, Tryz.ntmps66
    go_wp2
    go_loopw [7] (fun q wr => ∃ j : Nat, j ≤ l2.length ∧ q = .int .i64 j ∧ Hid (∀ m, m < j → by_ l2 m = by_ (l.drop k) m) ∧ Hid (Below w.heap.size w wr)) (fun q _ => l2.length - (intOf q).toNat)
    case atStart => exact ⟨0, by omega, rfl, fun m hm => by omega, Below.refl _ _⟩
    case round =>
      obtain ⟨j, hj, rfl, hm, hb⟩ := hrel
      by_cases hjl : j < l2.length
      · obtain ⟨g, o, rfl, hg, hc⟩ := (h.below hb.out).by_ (show k + j < l.length by omega)
        obtain ⟨g2, o2, rfl, hg2, hc2⟩ := (h2.below hb.out).by_ (k := 0) (show 0 + j < l2.length by omega)
        simp only [List.drop_zero, Nat.zero_add] at hc2
        obtain ⟨q, hq⟩ : ∃ q, q = by_ (l.drop k) j := ⟨_, rfl⟩
        obtain ⟨p, hp⟩ : ∃ p, p = by_ l2 j := ⟨_, rfl⟩
        rw [← hq] at hc
        rw [← hp] at hc2
        have hkj0 : IntKind.i64.wrap ((k : Int) + (j : Int)) = (k : Int) + (j : Int) := by rw [IntKind.wrap_i64]; omega
        have hkj1 : ((k : Int) + (j : Int)).toNat = k + j := by omega
        have hkj2 : (0 : Int) ≤ (k : Int) + (j : Int) := by omega
        have hkj3 : k + j < l.length := by omega
        by_cases heq : p = q
        · have hm2 : Hid (∀ m, m < j + 1 → by_ l2 m = by_ (l.drop k) m) := fun m h => by
            by_cases e : m = j
            · subst e; omega
            · exact hm.out m (by omega)
          subst heq
          have b : ((p : Int) != (p : Int)) = false := by simp
          clear hq hp hm
          go_wp2_with fail
          go_quiet (fail)
          have hb2 := hb.out.trans (below_draws (B := w.heap.size) (w := wr) nq)
          clear hkj0 hkj1
          go_wp2
          go_roundw
          case rel => exact ⟨j + 1, by omega, by go_num, hm2, hb2⟩
          case measure => simp [intOf]; omega
        · have HR := Lib.hid (show decide (l2 <+: l.drop k) = false by
            rw [decide_eq_false_iff_not]; intro hpre; have := by_prefix hpre hjl; omega)
          have b : ((q : Int) != (p : Int)) = true := by rw [bne_iff_ne]; omega
          clear hq hp hm heq
          go_wp2_with fail
          go_quiet (fail)
          have hb2 := hb.out.trans (below_draws (B := w.heap.size) (w := wr) nq)
          clear hkj0 hkj1
          go_wp2
          go_ret
          exact ⟨by rw [HR.out]; rfl, hb2⟩
      · have HR := Lib.hid (show decide (l2 <+: l.drop k) = true by
          rw [decide_eq_true_eq]; exact prefix_of (by simp; omega) (fun m h => hm.out m (by omega)))
        go_wp2
        go_ret
        exact ⟨by rw [HR.out]; rfl, hb⟩
  · have hi : (l.length : Int) - (k : Int) < l2.length := by omega
    have HR := Lib.hid (show decide (l2 <+: l.drop k) = false by
      rw [decide_eq_false_iff_not]; intro hp; have := hp.length_le; simp at this; omega)
    go_enter Tryz.func66, Tryz.ntmps66
    go_wp2
    go_ret
    exact ⟨by rw [HR.out]; rfl, Below.refl _ _⟩
end Go.Proofs.YtdnpoeegefkoiaaGreat

namespace Go.Proofs.YtdnpoeegefkoiaaGreat
open Go.RowKit

def RdR (b : Bool) (kd : IntKind) (l : List UInt8) (i : Int) (w : World) (e : Ending) (w' : World) : Prop :=
  e = .returned (.tuple #[.int kd (rdX b l i), .int .i64 (rdN b l i), .int .i64 (rdE b l i)]) ∧ Below w.heap.size w w'

theorem lg_le (r : List UInt8) : lg r 10 ≤ r.length := by
  by_cases h : lg r 10 = 0
  · omega
  · exact (lg_has 10 r h).2.1
theorem sm_take_bound (r : List UInt8) : 0 ≤ sm (r.take (lg r 10)) ∧ sm (r.take (lg r 10)) < pw (lg r 10) := by
  have h := sm_bound (r.take (lg r 10))
  rwa [List.length_take, Nat.min_eq_left (lg_le r)] at h

set_option maxRecDepth 100000 in
set_option maxHeartbeats 1000000 in
theorem refU_any (A : Option Addr) (c : Nat) (l : List UInt8) (i : Int) (w : World) (hn : l.length ≤ 1099511627776) (h : Lies w w.heap.size A l) :
    Calls Tryz.prog 42 #[.slice A l.length c, .int .i64 i] w (RdR false .u64 l i w) := by
  by_cases hi : i < 0 ∨ (l.length : Int) < i
  · have RR := Lib.hid (rd_arg (b := false) hi)
    rcases hi with h1 | h1
    · go_enter Tryz.func42, Tryz.ntmps42
      go_wp2
      go_ret3
      exact ⟨by rw [RR.out.1, RR.out.2.1, RR.out.2.2]; rfl, Below.refl _ _⟩
    · have h2 : ¬ i < 0 := by omega
      go_enter Tryz.func42, Tryz.ntmps42
      go_wp2
      go_ret3
      exact ⟨by rw [RR.out.1, RR.out.2.1, RR.out.2.2]; rfl, Below.refl _ _⟩
  · obtain ⟨k, rfl⟩ : ∃ k : Nat, i = k := ⟨i.toNat, by omega⟩
    have hk : k ≤ l.length := by omega
    clear hi
    have hlong := long_any A c l k w w.heap.size hn h hk
    have hle := lg_le (l.drop k)
    have hsum := sum_any A c l k (lg (l.drop k) 10) w w.heap.size hn h (by simp at hle; omega)
    have hb := sm_take_bound (l.drop k)
    have hX : hv false (l.drop k) = sm ((l.drop k).take (lg (l.drop k) 10)) % 18446744073709551616 := by simp [hv, val]
    rw [← hX] at hsum
    have hx0 : 0 ≤ hv false (l.drop k) := by rw [hX]; omega
    have hx1 : hv false (l.drop k) < 18446744073709551616 := by rw [hX]; omega
    have hok := rd_ok (b := false) (l := l) (k := k) hk
    have hbad := rd_form (b := false) (l := l) (k := k) hk
    have hgd : good false (l.drop k) ↔ lg (l.drop k) 10 ≠ 0 ∧ nB false (hv false (l.drop k)) <+: l.drop k := Iff.rfl
    have hlen : lg (l.drop k) 10 ≤ 10 := by
      by_cases h0 : lg (l.drop k) 10 = 0
      · omega
      · exact (lg_has 10 _ h0).1
    clear hX hb hle
    generalize lg (l.drop k) 10 = n at *
    generalize hv false (l.drop k) = x at *
    have HL := Lib.hid hlong
    have HS := Lib.hid hsum
    clear hlong hsum
    by_cases h0 : n = 0
    · have RR := Lib.hid (hbad (fun g => (hgd.1 g).1 h0))
      have h00 : (n : Int) ≤ 0 := by omega
      clear hok hbad hgd h0
      go_enter Tryz.func42, Tryz.ntmps42
      go_wp2_with (first | (go_at_call 64; refine HL.out.mono ?_; rintro e w' ⟨rfl, rfl⟩) | (go_at_call 65; refine HS.out.mono ?_; rintro e w' ⟨rfl, rfl⟩))
      go_ret3
      exact ⟨by rw [RR.out.1, RR.out.2.1, RR.out.2.2]; rfl, Below.refl _ _⟩
    · have hn0 : 0 < (n : Int) := by omega
      have HOK := Lib.hid hok
      have HBAD := Lib.hid hbad
      have HGD := Lib.hid hgd
      have HN0 := Lib.hid h0
      clear hok hbad hgd h0
      go_enter Tryz.func42, Tryz.ntmps42
      go_wp2_with (first | (go_at_call 64; refine HL.out.mono ?_; rintro e w' ⟨rfl, rfl⟩) | (go_at_call 65; refine HS.out.mono ?_; rintro e w' ⟨rfl, rfl⟩))
      refine (refPutU_any none 0 [] x _ (fun _ => rfl) (Lies.empty _ _ _) (by simp) hx0 hx1).mono ?_
      rintro e w1 ⟨v, rfl, ho, hb⟩
      obtain ⟨A2, c2, rfl, _, _, hL2⟩ := ho.form
      rw [List.nil_append] at hL2
      go_wp2_with fail
      refine (refStands_any A A2 c c2 l (nB false x) k _ hn (by rw [nB_len]; have := size_le false x; omega) ((h.below hb).more hb.size) hL2 hk).mono ?_
      rintro e w2 ⟨rfl, hb2⟩
      have HB := Lib.hid (hb.trans (hb2.mono hb.size))
      clear hb hb2 ho hL2
      by_cases hp : nB false x <+: l.drop k
      · have RR := Lib.hid (HOK.out (HGD.out.2 ⟨HN0.out, hp⟩))
        rw [decide_eq_true hp]
        clear hp
        go_wp2
        go_ret3
        exact ⟨by rw [RR.out.1, RR.out.2.1, RR.out.2.2]; rfl, HB⟩
      · have RR := Lib.hid (HBAD.out (fun g => hp (HGD.out.1 g).2))
        rw [decide_eq_false hp]
        clear hp
        go_wp2
        go_ret3
        exact ⟨by rw [RR.out.1, RR.out.2.1, RR.out.2.2]; rfl, HB⟩
end Go.Proofs.YtdnpoeegefkoiaaGreat

namespace Go.Proofs.YtdnpoeegefkoiaaGreat
open Go.RowKit

set_option maxRecDepth 100000 in
set_option maxHeartbeats 1000000 in
theorem refS_any (A : Option Addr) (c : Nat) (l : List UInt8) (i : Int) (w : World) (hn : l.length ≤ 1099511627776) (h : Lies w w.heap.size A l) :
    Calls Tryz.prog 41 #[.slice A l.length c, .int .i64 i] w (RdR true .i64 l i w) := by
  by_cases hi : i < 0 ∨ (l.length : Int) < i
  · have RR := Lib.hid (rd_arg (b := true) hi)
    rcases hi with h1 | h1
    · go_enter Tryz.func41, Tryz.ntmps41
      go_wp2
      go_ret3
      exact ⟨by rw [RR.out.1, RR.out.2.1, RR.out.2.2]; rfl, Below.refl _ _⟩
    · have h2 : ¬ i < 0 := by omega
      go_enter Tryz.func41, Tryz.ntmps41
      go_wp2
      go_ret3
      exact ⟨by rw [RR.out.1, RR.out.2.1, RR.out.2.2]; rfl, Below.refl _ _⟩
  · obtain ⟨k, rfl⟩ : ∃ k : Nat, i = k := ⟨i.toNat, by omega⟩
    have hk : k ≤ l.length := by omega
    clear hi
    have hlong := long_any A c l k w w.heap.size hn h hk
    have hle := lg_le (l.drop k)
    have hsum := sum_any A c l k (lg (l.drop k) 10) w w.heap.size hn h (by simp at hle; omega)
    have hb := sm_take_bound (l.drop k)
    have hok := rd_ok (b := true) (l := l) (k := k) hk
    have hbad := rd_form (b := true) (l := l) (k := k) hk
    have hgd : good true (l.drop k) ↔ lg (l.drop k) 10 ≠ 0 ∧ nB true (hv true (l.drop k)) <+: l.drop k := Iff.rfl
    by_cases h0 : lg (l.drop k) 10 = 0
    · have RR := Lib.hid (hbad (fun g => (hgd.1 g).1 h0))
      rw [h0] at hlong
      have HL := Lib.hid hlong
      clear hok hbad hgd h0 hlong hsum hb hle
      go_enter Tryz.func41, Tryz.ntmps41
      go_wp2_with (first | (go_at_call 64; refine HL.out.mono ?_; rintro e w' ⟨rfl, rfl⟩))
      go_ret3
      exact ⟨by rw [RR.out.1, RR.out.2.1, RR.out.2.2]; rfl, Below.refl _ _⟩
    · obtain ⟨h10, hll, hlt, _⟩ := lg_has 10 (l.drop k) h0
      have hv_ : hv true (l.drop k) = val true (sm ((l.drop k).take (lg (l.drop k) 10))) (lg (l.drop k) 10) := rfl
      have hrg := val_rng (b := true) hb.1 hb.2 (by omega) h10
      have htop := sm_top (l.drop k) (lg (l.drop k) 10 - 1) (by omega) hlt
      rw [show lg (l.drop k) 10 - 1 + 1 = lg (l.drop k) 10 by omega] at htop
      rw [← hv_] at hrg
      have hkl : k + lg (l.drop k) 10 ≤ l.length := by simp at hle; omega
      generalize sm ((l.drop k).take (lg (l.drop k) 10)) = s at *
      generalize lg (l.drop k) 10 = n at *
      generalize hv true (l.drop k) = x at *
      obtain ⟨j, rfl⟩ : ∃ j, n = j + 1 := ⟨n - 1, by omega⟩
      rw [Nat.add_sub_cancel] at htop hlt
      obtain ⟨g, o, rfl, hg, hc⟩ := h.by_ (show k + j < l.length by omega)
      generalize by_ (l.drop k) j = q at *
      have HL := Lib.hid hlong
      have HS := Lib.hid hsum
      have HOK := Lib.hid hok
      have HBAD := Lib.hid hbad
      have HGD := Lib.hid hgd
      have hp := pw_succ j
      have hpp := pw_pos j
      have hi1 : (k : Int) + ((j + 1 : Nat) : Int) - 1 = k + j := by omega
      clear hlong hsum hok hbad hgd h0
      by_cases hneg : 64 ≤ q ∧ j < 9
      · have HY := Lib.hid (show wrap64 (IntKind.u64.wrap (s % 18446744073709551616 - IntKind.u64.wrap (2 ^ (7 * (j + 1))))) = x by
          have h9 := pw_lt9 (show j + 1 ≤ 9 by omega)
          rw [shlU (j + 1) (by omega), IntKind.wrap_u64, hv_]; unfold val wrap64; simp only [if_true, Nat.add_sub_cancel]
          have hlow : ¬ s < 64 * pw j := by
            have := Int.emod_add_mul_ediv s (pw j)
            have h1 := Int.emod_nonneg s (show pw j ≠ 0 by omega)
            have h2 : pw j * 64 ≤ pw j * (s / pw j) := Int.mul_le_mul_of_nonneg_left (by rw [htop]; omega) (by omega)
            omega
          rw [if_pos (by omega), if_neg hlow]; omega)
        have hn1 := hneg.1
        have hn2 := hneg.2
        clear hv_ htop hp hpp hb hneg
        go_enter Tryz.func41, Tryz.ntmps41
        go_wp2_with (first | (go_at_call 64; refine HL.out.mono ?_; rintro e w' ⟨rfl, rfl⟩) | (go_at_call 65; refine HS.out.mono ?_; rintro e w' ⟨rfl, rfl⟩))
        all_goals
          rw [HY.out]
          refine (refPutS_any none 0 [] x _ (fun _ => rfl) (Lies.empty _ _ _) (by simp) hrg.1 hrg.2).mono ?_
          rintro e w1 ⟨v, rfl, ho, hb⟩
          obtain ⟨A2, c2, rfl, _, _, hL2⟩ := ho.form
          rw [List.nil_append] at hL2
          go_wp2_with fail
          refine (refStands_any _ A2 c c2 l (nB true x) k _ hn (by rw [nB_len]; have := size_le true x; omega) ((h.below hb).more hb.size) hL2 hk).mono ?_
          rintro e w2 ⟨rfl, hb2⟩
          have HB := Lib.hid (hb.trans (hb2.mono hb.size))
          clear hb hb2 ho hL2
          by_cases hp : nB true x <+: l.drop k
          · have RR := Lib.hid (HOK.out (HGD.out.2 ⟨by omega, hp⟩))
            rw [decide_eq_true hp]
            clear hp
            go_wp2
            go_ret3
            exact ⟨by rw [RR.out.1, RR.out.2.1, RR.out.2.2, ← HY.out]; rfl, HB⟩
          · have RR := Lib.hid (HBAD.out (fun g => hp (HGD.out.1 g).2))
            rw [decide_eq_false hp]
            clear hp
            go_wp2
            go_ret3
            exact ⟨by rw [RR.out.1, RR.out.2.1, RR.out.2.2]; rfl, HB⟩
      · have HY := Lib.hid (show wrap64 (s % 18446744073709551616) = x by
          rw [hv_]; unfold val wrap64; simp only [if_true, Nat.add_sub_cancel]
          by_cases hj : j < 9
          · have h9 := pw_lt9 (show j + 1 ≤ 9 by omega)
            have hlow : s < 64 * pw j := by
              have := Int.emod_add_mul_ediv s (pw j)
              have h1 := Int.emod_lt_of_pos s hpp
              have h2 : pw j * (s / pw j) ≤ pw j * 63 := Int.mul_le_mul_of_nonneg_left (by rw [htop]; omega) (by omega)
              omega
            rw [if_pos (by omega), if_pos hlow]; omega
          · rw [if_neg (by omega)]; split <;> omega)
        clear hv_ htop hp hpp hb
        go_enter Tryz.func41, Tryz.ntmps41
        go_wp2_with (first | (go_at_call 64; refine HL.out.mono ?_; rintro e w' ⟨rfl, rfl⟩) | (go_at_call 65; refine HS.out.mono ?_; rintro e w' ⟨rfl, rfl⟩))
        all_goals
          rw [HY.out]
          refine (refPutS_any none 0 [] x _ (fun _ => rfl) (Lies.empty _ _ _) (by simp) hrg.1 hrg.2).mono ?_
          rintro e w1 ⟨v, rfl, ho, hb⟩
          obtain ⟨A2, c2, rfl, _, _, hL2⟩ := ho.form
          rw [List.nil_append] at hL2
          go_wp2_with fail
          refine (refStands_any _ A2 c c2 l (nB true x) k _ hn (by rw [nB_len]; have := size_le true x; omega) ((h.below hb).more hb.size) hL2 hk).mono ?_
          rintro e w2 ⟨rfl, hb2⟩
          have HB := Lib.hid (hb.trans (hb2.mono hb.size))
          clear hb hb2 ho hL2
          by_cases hp : nB true x <+: l.drop k
          · have RR := Lib.hid (HOK.out (HGD.out.2 ⟨by omega, hp⟩))
            rw [decide_eq_true hp]
            clear hp
            go_wp2
            go_ret3
            exact ⟨by rw [RR.out.1, RR.out.2.1, RR.out.2.2, ← HY.out]; rfl, HB⟩
          · have RR := Lib.hid (HBAD.out (fun g => hp (HGD.out.1 g).2))
            rw [decide_eq_false hp]
            clear hp
            go_wp2
            go_ret3
            exact ⟨by rw [RR.out.1, RR.out.2.1, RR.out.2.2]; rfl, HB⟩
end Go.Proofs.YtdnpoeegefkoiaaGreat

namespace Go.Proofs.YtdnpoeegefkoiaaGreat
open Go.RowKit

section
variable {w : World} {g : Nat} {i : Ins} (h : InsAt w g i) (z : Int)
include h
theorem set_o : InsAt (w.setCell ⟨g, 1, none⟩ (.int .u8 z)) g { i with o := z } := by unfold InsAt ic at *; simp [World.setCell, Array.getElem?_modify, h]
theorem set_r : InsAt (w.setCell ⟨g, 2, none⟩ (.int .i64 z)) g { i with r := z } := by unfold InsAt ic at *; simp [World.setCell, Array.getElem?_modify, h]
theorem set_s : InsAt (w.setCell ⟨g, 3, none⟩ (.int .i64 z)) g { i with s := z } := by unfold InsAt ic at *; simp [World.setCell, Array.getElem?_modify, h]
theorem set_t : InsAt (w.setCell ⟨g, 4, none⟩ (.int .i64 z)) g { i with t := z } := by unfold InsAt ic at *; simp [World.setCell, Array.getElem?_modify, h]
theorem set_n : InsAt (w.setCell ⟨g, 5, none⟩ (.int .i64 z)) g { i with n := z } := by unfold InsAt ic at *; simp [World.setCell, Array.getElem?_modify, h]
theorem set_m : InsAt (w.setCell ⟨g, 6, none⟩ (.int .i64 z)) g { i with m := z } := by unfold InsAt ic at *; simp [World.setCell, Array.getElem?_modify, h]
end

theorem lies_sub {w : World} {B g o k : Nat} {l P : List UInt8} (h : Lies w B (some ⟨g, o, none⟩) l) (hp : P <+: l.drop k) : Lies w B (some ⟨g, o + k, none⟩) P := by
  intro hP
  have hle := hp.length_le
  rw [List.length_drop] at hle
  obtain ⟨g', o', e, hg, hc⟩ := h (by omega)
  cases e
  refine ⟨g, o + k, rfl, hg, fun j hj => ?_⟩
  obtain ⟨t, ht⟩ := hp
  have hb := hc (k + j) (by omega)
  have e : l[k + j]'(by omega) = P[j] := by
    have h1 : (l.drop k)[j]? = P[j]? := by rw [← ht, List.getElem?_append_left hj]
    rw [List.getElem?_drop, List.getElem?_eq_getElem (show k + j < l.length by omega), List.getElem?_eq_getElem hj] at h1
    exact Option.some.inj h1
  rw [e] at hb
  rw [Nat.add_assoc]
  exact hb

/-- with a place that there is, and a first byte, what Get comes to -/
theorem got_yes {l : List UInt8} {k : Nat} {i : Ins} {n : Int} (hk : k < l.length) (h : lenP l (ptsOf (oneX l k)) (insOf (oneX l k), (k : Int) + 1) = some (i, n)) (hr : rightB i = true) :
    gI l k = i ∧ gN l k = n ∧ gE l k = 0 ∧ i.Rng ∧ ownB i <+: l.drop k ∧ n = ((k + (ownB i).length : Nat) : Int) := by
  obtain ⟨e1, e2, e3⟩ := one_at hk
  have hik : i.k = oneX l k := (len_keeps l _ _ _ h).1.1
  have hK : isK (oneX l k) = true := by rw [← hik]; exact (right_parts hr).1
  have hg : gR l k = some (i, n) := by
    unfold gR
    rw [if_pos ⟨e1, hK⟩, e3]
    exact len_right hK h hr
  obtain ⟨f1, f2⟩ := gI_some hg
  have f3 : gE l k = 0 := by simp [gE, e1, hg]
  obtain ⟨k', g1, _, g3, _, g5, g6⟩ := get_got f3
  have : k' = k := by omega
  subst this
  rw [f1] at g3 g5 g6
  rw [f2] at g6
  exact ⟨f1, f2, f3, g3, g5, g6⟩
theorem got_no {l : List UInt8} {k : Nat} (hk : k < l.length) (hg : gR l k = none) : gI l k = insOf 0 ∧ gN l k = 0 ∧ gE l k = 5 :=
  get_none hg (by unfold gE; rw [if_pos (one_at hk).1])
theorem got_wrong {l : List UInt8} {k : Nat} {i : Ins} {n : Int} (hk : k < l.length) (h : lenP l (ptsOf (oneX l k)) (insOf (oneX l k), (k : Int) + 1) = some (i, n)) (hr : rightB i = false) : gI l k = insOf 0 ∧ gN l k = 0 ∧ gE l k = 5 := by
  obtain ⟨e1, e2, e3⟩ := one_at hk
  have hu := oneX_u8 l k
  refine got_no hk ?_
  unfold gR
  by_cases hK : isK (oneX l k) = true
  · rw [if_pos ⟨e1, hK⟩, e3]
    exact len_wrong hK h hr (insOf_rng hu.1 hu.2) ⟨k + 1, by omega, by omega⟩
  · rw [if_neg (fun q => hK q.2)]
theorem got_fail {l : List UInt8} {k : Nat} (hk : k < l.length) (h : lenP l (ptsOf (oneX l k)) (insOf (oneX l k), (k : Int) + 1) = none) : gI l k = insOf 0 ∧ gN l k = 0 ∧ gE l k = 5 := by
  obtain ⟨e1, e2, e3⟩ := one_at hk
  refine got_no hk ?_
  unfold gR
  rw [e3, len_fail h, ite_self]
theorem got_right {l : List UInt8} {k : Nat} {i : Ins} {n : Int} (h : lenP l (ptsOf (oneX l k)) (insOf (oneX l k), (k : Int) + 1) = some (i, n)) : RightsR i := by
  have hu := oneX_u8 l k
  rcases hK : isK (oneX l k) with _ | _
  · have hp : ptsOf (oneX l k) = [] := by
      have : ¬ (1 ≤ oneX l k ∧ oneX l k ≤ 18) := of_decide_eq_false hK
      unfold ptsOf
      repeat (first | rw [if_neg (by omega)] | rfl)
    rw [hp] at h
    cases h
    exact rnone hu.1 hu.2 hK
  · exact rgot hK h

/-- what Get holds between its parts -/
def GotI (l : List UInt8) (K x0 : Int) (w : World) (q : Nat) (y : Int) (wr : World) : Prop :=
  ∃ i, lenP l ((ptsOf K).take q) (insOf K, x0) = some (i, y) ∧ InsAt wr (w.heap.size + 1 + 1) i ∧ InsAt wr w.heap.size (insOf 0) ∧ InsAt wr (w.heap.size + 1) (insOf 0) ∧ Below w.heap.size w wr
theorem goti_step {l : List UInt8} {K x0 y : Int} {w wr : World} {q : Nat} {i : Ins} {p : Pt} (hp : (ptsOf K)[q]? = some p) (h1 : lenP l ((ptsOf K).take q) (insOf K, x0) = some (i, y))
    (h3 : InsAt wr w.heap.size (insOf 0)) (h4 : InsAt wr (w.heap.size + 1) (insOf 0)) (h5 : Below w.heap.size w wr) (he : getE p l y = 0) (W : World)
    (hg : wr.grownBy W (some (w.heap.size + 1 + 1))) (hi : InsAt W (w.heap.size + 1 + 1) (getI p i l y)) : GotI l K x0 w (q + 1) (getN p l y) W := by
  refine ⟨getI p i l y, ?_, hi, h3.kept hg (by simp <;> omega), h4.kept hg (by simp <;> omega), h5.grown hg h5.size (fun k e => by cases e; omega)⟩
  rw [lenP_take hp h1, lenS, if_pos he]
theorem goti_fail {l : List UInt8} {K x0 y : Int} {q : Nat} {i : Ins} {p : Pt} (hp : (ptsOf K)[q]? = some p) (h1 : lenP l ((ptsOf K).take q) (insOf K, x0) = some (i, y))
    (he : ¬ getE p l y = 0) : lenP l (ptsOf K) (insOf K, x0) = none :=
  lenP_none (k := q + 1) (by rw [lenP_take hp h1, lenS, if_neg he])
theorem got_out {w wr W : World} {i : Ins} (h3 : InsAt wr w.heap.size (insOf 0)) (h5 : Below w.heap.size w wr) (hg : wr.grownBy W (some (w.heap.size + 1 + 1))) :
    InsAt (put7 W w.heap.size i) w.heap.size i ∧ Below w.heap.size w (put7 W w.heap.size i) :=
  ⟨put7_at (h3.kept hg (by simp <;> omega)) i, below_ins (h5.grown hg h5.size (fun k e => by cases e; omega)) (Nat.le_refl _) _ _ _ _ _ _ _⟩
def Cells0 (w : World) (g : Nat) : Prop := w.cell? ⟨g, 0, none⟩ = some (.int .u8 0) ∧ w.cell? ⟨g, 1, none⟩ = some (.int .u8 0) ∧ w.cell? ⟨g, 2, none⟩ = some (.int .i64 0) ∧ w.cell? ⟨g, 3, none⟩ = some (.int .i64 0) ∧ w.cell? ⟨g, 4, none⟩ = some (.int .i64 0) ∧ w.cell? ⟨g, 5, none⟩ = some (.int .i64 0) ∧ w.cell? ⟨g, 6, none⟩ = some (.int .i64 0)
theorem cells0 {w : World} {g : Nat} (h : InsAt w g (insOf 0)) : Cells0 w g := (ins_cells (show w.heap[g]? = some (.cells #[.int .u8 0, .int .u8 0, .int .i64 0, .int .i64 0, .int .i64 0, .int .i64 0, .int .i64 0] 53 (0, 0)) from h)).1
theorem three (w : World) (a b c : Obj) : (((w.alloc a).alloc b).alloc c).heap[w.heap.size]? = some a ∧ (((w.alloc a).alloc b).alloc c).heap[w.heap.size + 1]? = some b ∧ (((w.alloc a).alloc b).alloc c).heap[w.heap.size + 1 + 1]? = some c :=
  ⟨hk2 w a b c, by have := hk1 (w.alloc a) b c; rwa [show (w.alloc a).heap.size = w.heap.size + 1 from by simp] at this, by have := hk0 ((w.alloc a).alloc b) c; rwa [show ((w.alloc a).alloc b).heap.size = w.heap.size + 1 + 1 from by simp] at this⟩
theorem below3 (w : World) (a b c : Obj) : Below w.heap.size w (((w.alloc a).alloc b).alloc c) := (below_box2 w _ _).alloc (by simp; omega) _

end Go.Proofs.YtdnpoeegefkoiaaGreat
