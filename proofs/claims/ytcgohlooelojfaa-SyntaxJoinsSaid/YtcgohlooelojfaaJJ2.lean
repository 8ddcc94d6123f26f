/-
  Merged for a claim: GB, TKA.
-/
import Derived.Test.YtcgohlooelojfaaJGA
import Derived.Lib.ParseIntB
namespace Go.Proofs.Ytcgohlooelojfaa
open Go Go.RowKit

def CAt (w : World) (g : Nat) (e : TypeId) (cs : List Value) : Prop := w.heap[g]? = some (.cells cs.toArray e (0, 0))
theorem CAt.lt {w : World} {g : Nat} {e : TypeId} {cs : List Value} (h : CAt w g e cs) : g < w.heap.size := (Array.getElem?_eq_some_iff.1 h).1
theorem CAt.below {B : Nat} {w w' : World} {g : Nat} {e : TypeId} {cs : List Value} (h : CAt w g e cs) (hb : Below B w w') (hg : g < B) : CAt w' g e cs := (hb.block g hg).trans h
theorem CAt.cell {w : World} {g : Nat} {e : TypeId} {cs : List Value} (h : CAt w g e cs) {j : Nat} (hj : j < cs.length) : w.cell? ⟨g, j, none⟩ = some cs[j] := by
  unfold CAt at h
  simp [World.cell?, h, hj]
theorem CAt.frozen {w : World} {g : Nat} {e : TypeId} {cs : List Value} (h : CAt w g e cs) (j : Nat) : w.frozen? ⟨g, j, none⟩ = false := by
  unfold CAt at h
  simp [World.frozen?, h]
theorem CAt.set {w : World} {g : Nat} {e : TypeId} {cs : List Value} (h : CAt w g e cs) (j : Nat) (u : Value) : CAt (w.setCell ⟨g, j, none⟩ u) g e (cs.set j u) := by
  unfold CAt at h ⊢
  simp only [World.setCell, Array.getElem?_modify, h]
  simp
theorem CAt.other {w : World} {g : Nat} {e : TypeId} {cs : List Value} (h : CAt w g e cs) {p : Addr} (hp : g ≠ p.block) (u : Value) : CAt (w.setCell p u) g e cs := (Below.heap_setCell w p u g hp).trans h
end Go.Proofs.Ytcgohlooelojfaa

namespace Go.Proofs.Ytcgohlooelojfaa
open Go

def blI (x : Int) : Bool := decide (x = 32 ∨ x = 9 ∨ x = 13 ∨ x = 10)
def leI (x : Int) : Bool := decide ((97 ≤ x ∧ x ≤ 122) ∨ (65 ≤ x ∧ x ≤ 90) ∨ x = 95)
def diI (x : Int) : Bool := decide (48 ≤ x ∧ x ≤ 57)
def tBl (c : UInt8) : Bool := blI (c.toNat : Int)
def tLe (c : UInt8) : Bool := leI (c.toNat : Int)
def tDi (c : UInt8) : Bool := diI (c.toNat : Int)
def tLd (c : UInt8) : Bool := tLe c || tDi c
/-- how many line ends -/
def nl (l : List UInt8) : Nat := l.count 10
theorem nl_nil : nl [] = 0 := rfl
theorem nl_cons (c : UInt8) (l : List UInt8) : nl (c :: l) = nl l + if c = 10 then 1 else 0 := by
  unfold nl
  rw [List.count_cons]
  simp
theorem nl_append (a b : List UInt8) : nl (a ++ b) = nl a + nl b := List.count_append

/-- without the blanks ahead; true: from within a remark -/
def sk : Bool → List UInt8 → List UInt8
  | _, [] => []
  | true, c :: r => if c = 10 then sk false r else sk true r
  | false, c :: r => if tBl c then sk false r else if c = 47 ∧ r.head? = some 47 then sk true r else c :: r
theorem sk_suffix (m : Bool) (l : List UInt8) : ∃ u, l = u ++ sk m l := by
  induction l generalizing m with
  | nil => exact ⟨[], by cases m <;> rfl⟩
  | cons c r ih =>
    obtain ⟨u, hu⟩ := ih true
    obtain ⟨v, hv⟩ := ih false
    cases m with
    | true =>
      simp only [sk]
      split
      · exact ⟨c :: v, by rw [List.cons_append, ← hv]⟩
      · exact ⟨c :: u, by rw [List.cons_append, ← hu]⟩
    | false =>
      simp only [sk]
      split
      · exact ⟨c :: v, by rw [List.cons_append, ← hv]⟩
      · split
        · exact ⟨c :: u, by rw [List.cons_append, ← hu]⟩
        · exact ⟨[], rfl⟩
theorem sk_len (m : Bool) (l : List UInt8) : (sk m l).length ≤ l.length := by
  obtain ⟨u, hu⟩ := sk_suffix m l
  have := congrArg List.length hu
  rw [List.length_append] at this
  omega
theorem sk_nl (m : Bool) (l : List UInt8) : nl (sk m l) ≤ nl l := by
  obtain ⟨u, hu⟩ := sk_suffix m l
  have := congrArg nl hu
  rw [nl_append] at this
  omega
/-- do two / stand ahead? -/
def rem (l : List UInt8) : Bool := [47, 47].isPrefixOf l
/-- the names that are words -/
def wordsL : List (List UInt8) := [[116, 121, 112, 101], [115, 116, 114, 117, 99, 116], [102, 117, 110, 99], [118, 97, 114], [105, 102], [101, 108, 115, 101], [102, 111, 114], [114, 101, 116, 117, 114, 110], [112, 114, 105, 110, 116], [105, 110, 112, 117, 116], [105, 110, 116], [98, 111, 111, 108], [116, 114, 117, 101], [102, 97, 108, 115, 101]]
/-- the signs of two bytes, and of one -/
def sigs2 : List (List UInt8) := [[38, 38], [124, 124], [61, 61], [33, 61], [60, 61], [62, 61]]
def sigs1 : List (List UInt8) := [[40], [41], [123], [125], [91], [93], [44], [59], [46], [61], [43], [45], [42], [47], [37], [60], [62], [33]]
def sign (l : List UInt8) : List UInt8 := if l.take 2 ∈ sigs2 then l.take 2 else if l.take 1 ∈ sigs1 then l.take 1 else []
/-- what digits come to -/
def val (l : List UInt8) : Nat := l.foldl (fun a c => 10 * a + (c.toNat - 48)) 0
/-- the token with which bytes begin: its kind, its bytes, its number -/
def tok1 : List UInt8 → Option (Int × List UInt8 × Int)
  | [] => none
  | c :: r =>
    if tLe c then
      if 24 < ((c :: r).takeWhile tLd).length then none
      else some (if (c :: r).takeWhile tLd ∈ wordsL then 3 else 1, (c :: r).takeWhile tLd, 0)
    else if tDi c then
      if ((c :: r).dropWhile tDi).head?.any tLe = true ∨ (c = 48 ∧ ((c :: r).takeWhile tDi).length ≠ 1) ∨ 9223372036854775808 ≤ val ((c :: r).takeWhile tDi) then none
      else some (2, (c :: r).takeWhile tDi, (val ((c :: r).takeWhile tDi) : Int))
    else if sign (c :: r) = [] then none else some (4, sign (c :: r), 0)

theorem bl_cases {b : UInt8} (h : tBl b = true) : tLe b = false ∧ tDi b = false ∧ tLd b = false := by
  unfold tBl blI at h
  have h := of_decide_eq_true h
  have h1 : tLe b = false := decide_eq_false (by omega)
  have h2 : tDi b = false := decide_eq_false (by omega)
  exact ⟨h1, h2, by simp [tLd, h1, h2]⟩
theorem sigs2_len : ∀ s ∈ sigs2, s.length = 2 := by decide
theorem sigs1_len : ∀ s ∈ sigs1, s.length = 1 := by decide
theorem take_all (p : UInt8 → Bool) (l : List UInt8) : ∀ x ∈ l.takeWhile p, p x = true := by
  intro x hx
  have h := List.all_takeWhile (p := p) (l := l)
  exact List.all_eq_true.1 h x hx
theorem take_self (p : UInt8 → Bool) {l : List UInt8} (h : ∀ x ∈ l, p x = true) : l.takeWhile p = l := by
  induction l with
  | nil => rfl
  | cons c r ih => rw [List.takeWhile_cons, if_pos (h c (by simp)), ih fun x hx => h x (List.mem_cons_of_mem _ hx)]
theorem drop_self (p : UInt8 → Bool) {l : List UInt8} (h : ∀ x ∈ l, p x = true) : l.dropWhile p = [] := by
  induction l with
  | nil => rfl
  | cons c r ih => rw [List.dropWhile_cons, if_pos (h c (by simp)), ih fun x hx => h x (List.mem_cons_of_mem _ hx)]
/-- what is true of a token that bytes begin with -/
structure TokOk (kd : Int) (s : List UInt8) (nu : Int) : Prop where
  ne : s ≠ []
  self : tok1 s = some (kd, s, nu)
  kind : ((kd = 1 ∨ kd = 3) ∧ (∀ x ∈ s, tLd x = true) ∧ s.head?.any tDi = false ∧ nu = 0 ∧ s.length ≤ 24) ∨ (kd = 2 ∧ (∀ x ∈ s, tDi x = true) ∧ nu = (val s : Int) ∧ val s < 9223372036854775808) ∨ (kd = 4 ∧ s.head?.any tLd = false ∧ s.length ≤ 2 ∧ nu = 0 ∧ (∀ x ∈ s, tBl x = false) ∧ (s.head? = some 47 → s = [47]))
theorem tok1_ok {l : List UInt8} {kd : Int} {s : List UInt8} {nu : Int} (h : tok1 l = some (kd, s, nu)) : TokOk kd s nu ∧ l = s ++ l.drop s.length := by
  rcases l with _ | ⟨c, r⟩
  · cases h
  have hp : ∀ p : UInt8 → Bool, c :: r = (c :: r).takeWhile p ++ (c :: r).drop ((c :: r).takeWhile p).length := by
    intro p
    have e := List.takeWhile_append_dropWhile (p := p) (l := c :: r)
    have e2 : (c :: r).drop ((c :: r).takeWhile p).length = (c :: r).dropWhile p := by
      conv => lhs; arg 2; rw [← e]
      rw [List.drop_left]
    rw [e2, e]
  simp only [tok1] at h
  split at h
  · rename_i h1
    split at h
    · cases h
    · rename_i h2
      injection h with h
      injection h with h3 h
      injection h with h4 h5
      have hc : (c :: r).takeWhile tLd = c :: r.takeWhile tLd := by rw [List.takeWhile_cons, if_pos (by simp [tLd, h1])]
      have ha : ∀ x ∈ s, tLd x = true := by rw [← h4]; exact take_all tLd _
      have hs : s = c :: r.takeWhile tLd := by rw [← h4, hc]
      have hd : tDi c = false := by
        unfold tLe leI at h1
        have h1 := of_decide_eq_true h1
        exact decide_eq_false (by omega)
      refine ⟨⟨by rw [hs]; simp, ?_, .inl ⟨?_, ha, by rw [hs]; simp [hd], h5.symm, by rw [← h4]; omega⟩⟩, by rw [← h4]; exact hp tLd⟩
      · have e1 := take_self tLd ha
        rw [hs] at e1 ⊢
        simp only [tok1, h1, if_true]
        rw [e1, ← hs]
        rw [h4] at h2 h3
        rw [if_neg h2, h3, h5]
      · rw [← h3]
        split
        · exact .inr rfl
        · exact .inl rfl
  · rename_i h1
    split at h
    · rename_i h2
      split at h
      · cases h
      · rename_i h6
        injection h with h
        injection h with h3 h
        injection h with h4 h5
        have hc : (c :: r).takeWhile tDi = c :: r.takeWhile tDi := by rw [List.takeWhile_cons, if_pos h2]
        have ha : ∀ x ∈ s, tDi x = true := by rw [← h4]; exact take_all tDi _
        have hs : s = c :: r.takeWhile tDi := by rw [← h4, hc]
        rw [h4] at h5 h6
        have hv : val s < 9223372036854775808 := Nat.lt_of_not_le fun q => h6 (.inr (.inr q))
        refine ⟨⟨by rw [hs]; simp, ?_, .inr (.inl ⟨h3.symm, ha, h5.symm, hv⟩)⟩, by rw [← h4]; exact hp tDi⟩
        have e1 := take_self tDi ha
        have e2 := drop_self tDi ha
        rw [hs] at e1 e2 ⊢
        simp only [tok1, h1, h2, if_true]
        rw [e1, e2, ← hs]
        have h7 : ¬ (c = 48 ∧ s.length ≠ 1) := fun q => h6 (.inr (.inl q))
        rw [if_neg (by simp), if_neg (by rintro (q | q | q); · simp at q
                                         · exact h7 q
                                         · omega), ← h3, h5]
    · rename_i h2
      split at h
      · cases h
      · rename_i h6
        injection h with h
        injection h with h3 h
        injection h with h4 h5
        have hnl : tLd c = false := by simp only [Bool.not_eq_true] at h1 h2; simp [tLd, h1, h2]
        have key : s = (c :: r).take s.length ∧ s ≠ [] ∧ sign s = s ∧ s.length ≤ 2 ∧ s.head? = some c ∧ (∀ x ∈ s, tBl x = false) ∧ (c = 47 → s = [47]) := by
          rw [← h4]
          unfold sign at h6 ⊢
          split
          · rename_i h7
            have hl := sigs2_len _ h7
            have hb : ∀ s ∈ sigs2, (∀ x ∈ s, tBl x = false) ∧ s.head? ≠ some 47 := by decide
            rw [hl]
            refine ⟨rfl, fun e => (by rw [e] at hl; cases hl), by rw [List.take_take, Nat.min_self, if_pos h7], Nat.le_refl _, by simp, (hb _ h7).1, fun e => absurd (by simp [e]) (hb _ h7).2⟩
          · rename_i h7
            rw [if_neg h7] at h6
            split
            · rename_i h8
              have hl := sigs1_len _ h8
              have hb : ∀ s ∈ sigs1, (∀ x ∈ s, tBl x = false) := by decide
              rw [hl]
              refine ⟨rfl, fun e => (by rw [e] at hl; cases hl), ?_, by omega, by simp, hb _ h8, fun e => by simp [e]⟩
              have h9 : ([c] : List UInt8) ∉ sigs2 := fun h => by have := sigs2_len _ h; simp at this
              have h10 : (c :: r).take 1 = [c] := rfl
              rw [h10] at h8 ⊢
              have t3 : ([c] : List UInt8).take 2 = [c] := rfl
              have t4 : ([c] : List UInt8).take 1 = [c] := rfl
              rw [t3, t4, if_neg h9, if_pos h8]
            · rename_i h8
              rw [if_neg h8] at h6
              exact absurd rfl h6
        obtain ⟨k1, k2, k3, k4, k5, k6, k7⟩ := key
        have k8 : c :: r = s ++ (c :: r).drop s.length := by
          have := List.take_append_drop s.length (c :: r)
          rw [← k1] at this
          exact this.symm
        refine ⟨⟨k2, ?_, .inr (.inr ⟨h3.symm, by rw [k5]; simpa using hnl, k4, h5.symm, k6, fun e => k7 (by rw [k5] at e; injection e)⟩)⟩, k8⟩
        rcases hs : s with _ | ⟨d, q⟩
        · exact absurd hs k2
        rw [hs] at k3 k5 k2
        injection k5 with k5
        subst k5
        simp only [tok1, h1, h2]
        rw [if_neg (by simp), if_neg (by simp), k3, if_neg k2, ← h3, ← h5]

/-- a token: its kind, its bytes, its number, its line -/
structure Tk where
  kd : Int
  tx : List UInt8
  nu : Int
  ln : Nat
def consT (t : Tk) : Except Nat (List Tk) → Except Nat (List Tk)
  | .error e => .error e
  | .ok ts => .ok (t :: ts)
def appT (a : List Tk) : Except Nat (List Tk) → Except Nat (List Tk)
  | .error e => .error e
  | .ok ts => .ok (a ++ ts)
theorem appT_cons (a : List Tk) (t : Tk) (e : Except Nat (List Tk)) : appT a (consT t e) = appT (a ++ [t]) e := by
  cases e
  · rfl
  · simp [appT, consT]
/-- the tokens of bytes without blanks ahead, of a source of so many lines -/
def scanR (N : Nat) : Nat → List UInt8 → Except Nat (List Tk)
  | _, [] => .ok []
  | 0, _ :: _ => .ok []
  | n + 1, c :: r => match tok1 (c :: r) with
    | none => .error (N - nl (c :: r))
    | some (kd, s, nu) => consT ⟨kd, s, nu, N - nl (c :: r)⟩ (scanR N n (sk false ((c :: r).drop s.length)))
theorem scanR_fuel (N : Nat) : ∀ (n m : Nat) (l : List UInt8), l.length ≤ n → l.length ≤ m → scanR N n l = scanR N m l
  | n, m, [], _, _ => by rw [scanR, scanR]
  | 0, _, c :: r, h, _ => by simp at h
  | _, 0, c :: r, _, h => by simp at h
  | n + 1, m + 1, c :: r, h1, h2 => by
    simp only [scanR]
    rcases h : tok1 (c :: r) with _ | ⟨kd, s, nu⟩
    · rfl
    · have hne : 1 ≤ s.length := List.length_pos_iff.2 (tok1_ok h).1.ne
      have := sk_len false ((c :: r).drop s.length)
      rw [List.length_drop] at this
      simp only
      rw [scanR_fuel N n m _ (by simp only [List.length_cons] at *; omega) (by simp only [List.length_cons] at *; omega)]
def scanS (N : Nat) (l : List UInt8) : Except Nat (List Tk) := scanR N l.length l
theorem scanS_nil (N : Nat) : scanS N [] = .ok [] := rfl
theorem scanS_none (N : Nat) {l : List UInt8} (hl : l ≠ []) (h : tok1 l = none) : scanS N l = .error (N - nl l) := by
  rcases l with _ | ⟨c, r⟩
  · exact absurd rfl hl
  · unfold scanS
    rw [List.length_cons, scanR, h]
theorem scanS_some (N : Nat) {l : List UInt8} {kd : Int} {s : List UInt8} {nu : Int} (h : tok1 l = some (kd, s, nu)) : scanS N l = consT ⟨kd, s, nu, N - nl l⟩ (scanS N (sk false (l.drop s.length))) := by
  rcases l with _ | ⟨c, r⟩
  · cases h
  · unfold scanS
    rw [List.length_cons, scanR, h]
    simp only
    have hne : 1 ≤ s.length := List.length_pos_iff.2 (tok1_ok h).1.ne
    have := sk_len false ((c :: r).drop s.length)
    rw [List.length_drop, List.length_cons] at this
    rw [scanR_fuel N r.length _ _ (by omega) (Nat.le_refl _)]
/-- the tokens of a source, or the line in which there is none -/
def scanP (l : List UInt8) : Except Nat (List Tk) := scanS (1 + nl l) (sk false l)
end Go.Proofs.Ytcgohlooelojfaa
