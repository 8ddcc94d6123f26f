/-
  Merged for a claim: SYB.
-/
import Derived.Test.YtcgohlooelojfaaJJ0
namespace Go.Proofs.Ytcgohlooelojfaa
open Go

/-- an expression that waits for its last part -/
inductive Ha where
  | un (op : List UInt8)
  | par
  | elem (nm : List UInt8)
  | bin (op : List UInt8) (x : Ex) (b : Nat)
namespace Ha
def fin : Ha → Ex → Ex
  | .un op, y => eUn op y
  | .par, y => y
  | .elem nm, y => eElem nm y
  | .bin op x _, y => eBin op x y
def b : Ha → Nat
  | .un _ => 6
  | .par => 0
  | .elem _ => 0
  | .bin _ _ b => b
/-- the sign that ends it -/
def en : Ha → List UInt8
  | .par => [41]
  | .elem _ => [93]
  | _ => []
/-- is it whole there? -/
def ends (h : Ha) (u : List To) : Bool := if h.en = [] then decide (bndU u ≤ h.b) else isS h.en u
/-- the tokens behind its end -/
def rest (h : Ha) (u : List To) : List To := if h.en = [] then u else u.tail
end Ha
def topB (o : List Ha) : Nat := match o with
  | [] => 0
  | h :: _ => h.b
/-- an expression goes to the halves that are whole with it -/
def endsL : List Ha → Ex → List To → Ex × List Ha × List To
  | [], x, u => (x, [], u)
  | h :: o, x, u => if h.ends u = true then endsL o (h.fin x) (h.rest u) else (x, h :: o, u)
def mach : Nat → List Ha → List To → R Ex
  | 0, _, _ => .out
  | n + 1, o, u =>
    if isU u = true then mach n (.un (hd u).tx :: o) u.tail
    else if isS [40] u = true then mach n (.par :: o) u.tail
    else if isE u = true then mach n (.elem (hd u).tx :: o) u.tail.tail
    else (leafP u).bind fun x v =>
      if bndU (endsL o x v).2.2 = 0 then (if (endsL o x v).2.1 = [] then .ok (endsL o x v).1 (endsL o x v).2.2 else .bad (endsL o x v).2.2)
      else mach n (.bin (hd (endsL o x v).2.2).tx (endsL o x v).1 (bndU (endsL o x v).2.2) :: (endsL o x v).2.1) (endsL o x v).2.2.tail
theorem rest_len (h : Ha) (u : List To) : (h.rest u).length ≤ u.length := by
  unfold Ha.rest
  split
  · exact Nat.le_refl _
  · simp
theorem endsL_len (o : List Ha) : ∀ (x : Ex) (u : List To), (endsL o x u).2.2.length ≤ u.length := by
  induction o with
  | nil => exact fun _ _ => Nat.le_refl _
  | cons h o ih =>
    intro x u
    unfold endsL
    split
    · exact Nat.le_trans (ih _ _) (rest_len h u)
    · exact Nat.le_refl _
theorem bndU_pos {u : List To} (h : ¬ bndU u = 0) : u ≠ [] := by
  rintro rfl
  exact h rfl
/-- fuel beyond what the tokens ask says nothing -/
theorem mach_more : ∀ (n m : Nat) (o : List Ha) (u : List To), u.length + 1 ≤ n → u.length + 1 ≤ m → mach n o u = mach m o u
  | 0, _, _, _, h, _ => absurd h (by omega)
  | _ + 1, 0, _, _, _, h => absurd h (by omega)
  | n + 1, m + 1, o, u, hn, hm => by
    unfold mach
    split
    · rename_i hu
      have := tail_len (isU_ne hu)
      exact mach_more n m _ _ (by omega) (by omega)
    · split
      · rename_i hu
        have := tail_len (isS_ne hu)
        exact mach_more n m _ _ (by omega) (by omega)
      · split
        · rename_i hu
          have := tail_len (isE_ne hu).1
          have := tail_len (isE_ne hu).2
          exact mach_more n m _ _ (by omega) (by omega)
        · rcases hl : leafP u with ⟨x, v⟩ | v | _
          · rw [R.bind_ok, R.bind_ok]
            split
            · rfl
            · rename_i hb
              have := leafP_len hl
              have := endsL_len o x v
              have := tail_len (bndU_pos hb)
              exact mach_more n m _ _ (by omega) (by omega)
          · rfl
          · rfl
/-- the machine, with enough fuel -/
def M (o : List Ha) (u : List To) : R Ex := mach (u.length + 1) o u
/-- the machine behind an expression -/
def Af (o : List Ha) (x : Ex) (v : List To) : R Ex :=
  if bndU (endsL o x v).2.2 = 0 then (if (endsL o x v).2.1 = [] then .ok (endsL o x v).1 (endsL o x v).2.2 else .bad (endsL o x v).2.2)
  else M (.bin (hd (endsL o x v).2.2).tx (endsL o x v).1 (bndU (endsL o x v).2.2) :: (endsL o x v).2.1) (endsL o x v).2.2.tail
theorem M_eq (o : List Ha) (u : List To) : M o u =
    if isU u = true then M (.un (hd u).tx :: o) u.tail
    else if isS [40] u = true then M (.par :: o) u.tail
    else if isE u = true then M (.elem (hd u).tx :: o) u.tail.tail
    else (leafP u).bind (Af o) := by
  unfold M
  rw [mach]
  split
  · rename_i hu
    have := tail_len (isU_ne hu)
    exact mach_more _ _ _ _ (by omega) (by omega)
  · split
    · rename_i hu
      have := tail_len (isS_ne hu)
      exact mach_more _ _ _ _ (by omega) (by omega)
    · split
      · rename_i hu
        have := tail_len (isE_ne hu).1
        have := tail_len (isE_ne hu).2
        exact mach_more _ _ _ _ (by omega) (by omega)
      · rcases hl : leafP u with ⟨x, v⟩ | v | _
        · rw [R.bind_ok, R.bind_ok]
          unfold Af M
          split
          · rfl
          · rename_i hb
            have := leafP_len hl
            have := endsL_len o x v
            have := tail_len (bndU_pos hb)
            exact mach_more _ _ _ _ (by omega) (by omega)
        · rfl
        · rfl
theorem Af_pop {h : Ha} {o : List Ha} {x : Ex} {v : List To} (he : h.ends v = true) : Af (h :: o) x v = Af o (h.fin x) (h.rest v) := by
  unfold Af
  have e : endsL (h :: o) x v = endsL o (h.fin x) (h.rest v) := by rw [endsL, if_pos he]
  rw [e]
theorem Af_stay {o : List Ha} {x : Ex} {v : List To} (he : ∀ h o', o = h :: o' → h.ends v = false) :
    Af o x v = if bndU v = 0 then (if o = [] then .ok x v else .bad v) else M (.bin (hd v).tx x (bndU v) :: o) v.tail := by
  have e : endsL o x v = (x, o, v) := by
    cases o with
    | nil => rfl
    | cons h o => rw [endsL, if_neg (by rw [he h o rfl]; decide)]
  unfold Af
  rw [e]
theorem bndU_le (u : List To) : bndU u ≤ 5 := by
  unfold bndU bnd
  repeat' split
  all_goals omega
theorem bndU_sign {u : List To} {s : List UInt8} (h : isS s u = true) (hb : bnd s = 0) : bndU u = 0 := by
  cases u with
  | nil => cases h
  | cons t v =>
    unfold isS isT at h
    simp only [Bool.and_eq_true, decide_eq_true_eq] at h
    unfold bndU
    split
    · show bnd t.tx = 0
      rw [h.2]
      exact hb
    · rfl
/-- behind what a level reads there is no sign of that level or of one that binds more -/
theorem lev_next : ∀ n, (∀ k u x v, k ≤ 5 → lev n k u = .ok x v → bndU v ≤ k) ∧ ∀ k y u x v, k < 5 → bndU u ≤ k + 1 → lop n k y u = .ok x v → bndU v ≤ k
  | 0 => ⟨fun k u x v _ h => (by cases h), fun k y u x v _ _ h => (by cases h)⟩
  | n + 1 => by
    obtain ⟨hl, ho⟩ := lev_next n
    refine ⟨fun k u x v hk h => ?_, fun k y u x v hk hu h => ?_⟩
    · unfold lev at h
      split at h
      · have := bndU_le v
        omega
      · obtain ⟨y, w, h1, h2⟩ := bind_is h
        exact ho k y w x v (by omega) (hl _ _ _ _ (by omega) h1) h2
    · unfold lop at h
      split at h
      · obtain ⟨z, w, h1, h2⟩ := bind_is h
        exact ho k _ w x v hk (hl _ _ _ _ (by omega) h1) h2
      · injection h with _ h
        subst h
        omega
/-- the machine comes to what the grammar says -/
theorem mach_lev : ∀ n, (∀ u o, prim n u ≠ .out → M o u = (prim n u).bind (Af o))
    ∧ (∀ k u o, k ≤ 5 → topB o ≤ k → lev n k u ≠ .out → M o u = (lev n k u).bind (Af o))
    ∧ ∀ k x u o, k < 5 → topB o ≤ k → lop n k x u ≠ .out → Af o x u = (lop n k x u).bind (Af o)
  | 0 => ⟨fun u o h => absurd rfl h, fun k u o _ _ h => absurd rfl h, fun k x u o _ _ h => absurd rfl h⟩
  | n + 1 => by
    obtain ⟨hp, hl, ho⟩ := mach_lev n
    refine ⟨fun u o h => ?_, fun k u o hk ht h => ?_, fun k x u o hk ht h => ?_⟩
    · unfold prim at h ⊢
      rw [M_eq]
      split at h
      · rename_i hu
        rw [if_pos hu, if_pos hu, hp _ _ (R.bind_ne h), R.bind_assoc]
        congr 1
        funext x v
        exact Af_pop (h := .un _) (decide_eq_true (show bndU v ≤ 6 by have := bndU_le v; omega))
      · rename_i hu
        rw [if_neg hu, if_neg hu]
        split at h
        · rename_i hs
          rw [if_pos hs, if_pos hs, hl 0 _ _ (by omega) (Nat.le_refl _) (R.bind_ne h), R.bind_assoc]
          rcases hr : lev n 0 u.tail with ⟨x, v⟩ | v | _
          · rw [R.bind_ok, R.bind_ok]
            have hb := (lev_next n).1 _ _ _ _ (by omega) hr
            unfold takeS
            split
            · rename_i hc
              exact Af_pop (h := .par) hc
            · rename_i hc
              rw [Af_stay (fun h o' e => by injection e with e _; subst e; exact Bool.eq_false_iff.2 hc), if_pos (by omega), if_neg (by simp)]
              rfl
          · rfl
          · rfl
        · rename_i hs
          rw [if_neg hs, if_neg hs]
          split at h
          · rename_i he
            rw [if_pos he, if_pos he, hl 0 _ _ (by omega) (Nat.le_refl _) (R.bind_ne h), R.bind_assoc]
            rcases hr : lev n 0 u.tail.tail with ⟨x, v⟩ | v | _
            · rw [R.bind_ok, R.bind_ok]
              have hb := (lev_next n).1 _ _ _ _ (by omega) hr
              unfold takeS
              split
              · rename_i hc
                exact Af_pop (h := .elem _) hc
              · rename_i hc
                rw [Af_stay (fun h o' e => by injection e with e _; subst e; exact Bool.eq_false_iff.2 hc), if_pos (by omega), if_neg (by simp)]
                rfl
            · rfl
            · rfl
          · rename_i he
            rw [if_neg he, if_neg he]
    · unfold lev at h ⊢
      split at h
      · rename_i h5
        rw [if_pos h5]
        exact hp _ _ h
      · rename_i h5
        rw [if_neg h5, hl (k + 1) u o (by omega) (by omega) (R.bind_ne h), R.bind_assoc]
        rcases hr : lev n (k + 1) u with ⟨x, v⟩ | v | _
        · rw [hr] at h
          rw [R.bind_ok, R.bind_ok]
          exact ho k x v o (by omega) ht h
        · rfl
        · rfl
    · unfold lop at h ⊢
      split at h
      · rename_i hb
        rw [if_pos hb, Af_stay, if_neg (by omega), hb, hl (k + 1) _ _ (by omega) (Nat.le_refl _) (R.bind_ne h), R.bind_assoc]
        · rcases hr : lev n (k + 1) u.tail with ⟨y, v⟩ | v | _
          · rw [hr] at h
            rw [R.bind_ok, R.bind_ok, ← ho k _ v o hk ht h]
            have h1 := (lev_next n).1 _ _ _ _ (by omega) hr
            exact Af_pop (h := .bin _ _ _) (decide_eq_true (show bndU v ≤ k + 1 from h1))
          · rfl
          · rfl
        · intro h9 o' e
          subst e
          rcases h9 with op | _ | nm | ⟨op, y, b⟩
          · exact absurd (show 6 ≤ k from ht) (by omega)
          · exact Bool.eq_false_iff.2 fun hc => by have := bndU_sign (s := [41]) hc rfl; omega
          · exact Bool.eq_false_iff.2 fun hc => by have := bndU_sign (s := [93]) hc rfl; omega
          · exact decide_eq_false (show ¬ bndU u ≤ b by have h8 : b ≤ k := ht; omega)
      · rename_i hb
        rw [if_neg hb]
        rfl
/-- an expression's reading, whatever the fuel -/
def exP (u : List To) : R Ex := lev (8 * u.length + 8) 0 u
theorem exP_ne (u : List To) : exP u ≠ .out := ((enough _).2.1 0 u).1 (by omega) (by omega) (by omega)
theorem exP_len {u v : List To} {x : Ex} (h : exP u = .ok x v) : v.length + 1 ≤ u.length := ((enough _).2.1 0 u).2 _ _ h
theorem M_exP (u : List To) : M [] u = exP u := by
  rw [(mach_lev (8 * u.length + 8)).2.1 0 u [] (by omega) (Nat.le_refl _) (exP_ne u)]
  show (exP u).bind _ = exP u
  rcases hr : exP u with ⟨x, v⟩ | v | _
  · rw [R.bind_ok]
    have hb := (lev_next _).1 _ _ _ _ (by omega) hr
    rw [Af_stay (fun h o' e => by cases e), if_pos (by omega), if_pos rfl]
  · rfl
  · rfl
end Go.Proofs.Ytcgohlooelojfaa
