/-
  A list that is right: what is left of it outside of some places, and joined, is right; where its variable is.
-/
import Derived.Test.YtggofdahnbchjaaL7U
namespace Go.Proofs.Ytggofdahnbchjaa
open Go Go.RowKit

/-- right from a place on -/
def okFrom : Int → List Sp → Prop
  | _, [] => True
  | l, x :: xs => okS (l, x) = true ∧ okFrom x.t xs
theorem okFrom_zip : ∀ (xs : List Sp) (l : Int), okFrom l xs ↔ ((l :: xs.map Sp.t).zip xs).all okS = true
  | [], _ => by simp [okFrom]
  | x :: xs, l => by
    have hz : ((l :: (x :: xs).map Sp.t).zip (x :: xs)) = (l, x) :: (x.t :: xs.map Sp.t).zip xs := rfl
    rw [hz, List.all_cons, Bool.and_eq_true, okFrom, okFrom_zip xs x.t]
theorem rightL_iff {xs : List Sp} : rightL xs = true ↔ xs.length ≤ 4000 ∧ okFrom 0 xs := by
  unfold rightL prS
  rw [Bool.and_eq_true, okFrom_zip]
  exact ⟨fun h => ⟨of_decide_eq_true h.1, h.2⟩, fun h => ⟨decide_eq_true h.1, h.2⟩⟩
theorem okFrom_mono {l l' : Int} (h : l' ≤ l) : ∀ {xs : List Sp}, okFrom l xs → okFrom l' xs
  | [], _ => trivial
  | x :: xs, hx => by
    obtain ⟨h1, h2, h3, h4, h5⟩ := okS_iff.1 hx.1
    exact ⟨okS_iff.2 ⟨by dsimp only at *; omega, h2, h3, h4, h5⟩, hx.2⟩

theorem cutS_ok {fr to l : Int} {x : Sp} {ys : List Sp} (hft : fr < to) (hx : okS (l, x) = true) (hy : okFrom x.t ys) : okFrom l (cutS fr to x ++ ys) := by
  obtain ⟨h1, h2, h3, h4, h5⟩ := okS_iff.1 hx
  dsimp only at h1 h2 h3 h4 h5
  unfold cutS
  by_cases ha : x.f < min x.t fr <;> by_cases hb : max x.f to < x.t
  · rw [if_pos ha, if_pos hb]
    exact ⟨okS_iff.2 ⟨h1, ha, by dsimp only; omega, h4, h5⟩, okS_iff.2 ⟨by dsimp only; omega, hb, h3, h4, h5⟩, hy⟩
  · rw [if_pos ha, if_neg hb]
    exact ⟨okS_iff.2 ⟨h1, ha, by dsimp only; omega, h4, h5⟩, okFrom_mono (by dsimp only; omega) hy⟩
  · rw [if_neg ha, if_pos hb]
    exact ⟨okS_iff.2 ⟨by dsimp only; omega, hb, h3, h4, h5⟩, hy⟩
  · rw [if_neg ha, if_neg hb]
    exact okFrom_mono (by omega) hy
theorem cut_ok {fr to : Int} (hft : fr < to) : ∀ {xs : List Sp} {l : Int}, okFrom l xs → okFrom l (xs.flatMap (cutS fr to))
  | [], _, _ => trivial
  | x :: xs, l, h => by
    rw [List.flatMap_cons]
    exact cutS_ok hft h.1 (cut_ok hft h.2)
theorem cut_far {fr to : Int} : ∀ {xs : List Sp} {l : Int}, fr ≤ l → okFrom l xs → (xs.flatMap (cutS fr to)).length ≤ xs.length
  | [], _, _, _ => Nat.le_refl _
  | x :: xs, l, hl, h => by
    obtain ⟨h1, h2, h3, h4, h5⟩ := okS_iff.1 h.1
    dsimp only at h1 h2
    have ih := cut_far (fr := fr) (to := to) (show fr ≤ x.t by omega) h.2
    rw [List.flatMap_cons, List.length_append, List.length_cons]
    have : (cutS fr to x).length ≤ 1 := by
      unfold cutS
      rw [if_neg (show ¬ x.f < min x.t fr by omega)]
      split <;> simp
    omega
theorem cut_len {fr to : Int} (hft : fr < to) : ∀ {xs : List Sp} {l : Int}, okFrom l xs → (xs.flatMap (cutS fr to)).length ≤ xs.length + 1
  | [], _, _ => by simp
  | x :: xs, l, h => by
    obtain ⟨h1, h2, h3, h4, h5⟩ := okS_iff.1 h.1
    dsimp only at h1 h2
    rw [List.flatMap_cons, List.length_append, List.length_cons]
    by_cases hb : max x.f to < x.t
    · have ih := cut_far (fr := fr) (to := to) (show fr ≤ x.t by omega) h.2
      have : (cutS fr to x).length ≤ 2 := by
        unfold cutS
        rw [List.length_append, if_pos hb]
        split <;> simp
      omega
    · have ih := cut_len hft h.2
      have : (cutS fr to x).length ≤ 1 := by
        unfold cutS
        rw [if_neg hb]
        split <;> simp
      omega
theorem cutL_right {fr to : Int} {xs : List Sp} (h : rightL xs = true) (hn : xs.length ≤ 500) : rightL (cutL fr to xs) = true ∧ (cutL fr to xs).length ≤ xs.length + 1 := by
  obtain ⟨h1, h2⟩ := rightL_iff.1 h
  unfold cutL
  split
  · exact ⟨h, by omega⟩
  · have hl := cut_len (show fr < to by omega) h2
    exact ⟨rightL_iff.2 ⟨by omega, cut_ok (by omega) h2⟩, hl⟩

/-- where the first span that has the place says the variable is -/
def fA (pc : Int) (xs : List Sp) : Option (List Lc) := (xs.find? (hasS pc)).map Sp.a
theorem atS_fA (xs : List Sp) (pc : Int) : atS xs pc = (fA pc xs).getD [] := rfl
theorem fA_app (pc : Int) (xs ys : List Sp) : fA pc (xs ++ ys) = (fA pc xs).or (fA pc ys) := by
  unfold fA
  rw [List.find?_append]
  cases xs.find? (hasS pc) <;> rfl
theorem fA_one (pc : Int) (x : Sp) : fA pc [x] = if x.f ≤ pc ∧ pc < x.t then some x.a else none := by
  unfold fA
  by_cases h : x.f ≤ pc ∧ pc < x.t
  · rw [if_pos h, List.find?_cons_of_pos (by unfold hasS; rw [decide_eq_true h.1, decide_eq_true h.2]; rfl)]
    rfl
  · rw [if_neg h, List.find?_cons_of_neg (by unfold hasS; rw [Bool.and_eq_true]; exact fun q => h ⟨of_decide_eq_true q.1, of_decide_eq_true q.2⟩)]
    rfl
theorem fA_nil (pc : Int) : fA pc [] = none := rfl
theorem cutS_in {fr to pc : Int} (x : Sp) (h : fr ≤ pc ∧ pc < to) : fA pc (cutS fr to x) = none := by
  unfold cutS
  rw [fA_app]
  have h1 : fA pc (if x.f < min x.t fr then [{ x with t := min x.t fr }] else []) = none := by
    split
    · rw [fA_one, if_neg (by dsimp only; omega)]
    · rfl
  have h2 : fA pc (if max x.f to < x.t then [{ x with f := max x.f to }] else []) = none := by
    split
    · rw [fA_one, if_neg (by dsimp only; omega)]
    · rfl
  rw [h1, h2]
  rfl
theorem cutS_out {fr to pc : Int} (x : Sp) (hft : fr < to) (h : ¬ (fr ≤ pc ∧ pc < to)) : fA pc (cutS fr to x) = fA pc [x] := by
  unfold cutS
  rw [fA_app, fA_one]
  by_cases hp : pc < fr
  · have h2 : fA pc (if max x.f to < x.t then [{ x with f := max x.f to }] else []) = none := by
      split
      · rw [fA_one, if_neg (by dsimp only; omega)]
      · rfl
    rw [h2, Option.or_none]
    by_cases ha : x.f < min x.t fr
    · rw [if_pos ha, fA_one]
      dsimp only
      by_cases hq : x.f ≤ pc ∧ pc < x.t
      · rw [if_pos hq, if_pos (by omega)]
      · rw [if_neg hq, if_neg (by omega)]
    · rw [if_neg ha, fA_nil, if_neg (by omega)]
  · have h1 : fA pc (if x.f < min x.t fr then [{ x with t := min x.t fr }] else []) = none := by
      split
      · rw [fA_one, if_neg (by dsimp only; omega)]
      · rfl
    rw [h1, Option.none_or]
    by_cases hb : max x.f to < x.t
    · rw [if_pos hb, fA_one]
      dsimp only
      by_cases hq : x.f ≤ pc ∧ pc < x.t
      · rw [if_pos hq, if_pos (by omega)]
      · rw [if_neg hq, if_neg (by omega)]
    · rw [if_neg hb, fA_nil, if_neg (by omega)]
theorem cut_in {fr to pc : Int} (h : fr ≤ pc ∧ pc < to) : ∀ xs : List Sp, fA pc (xs.flatMap (cutS fr to)) = none
  | [] => rfl
  | x :: xs => by rw [List.flatMap_cons, fA_app, cutS_in x h, cut_in h xs]; rfl
theorem cut_out {fr to pc : Int} (hft : fr < to) (h : ¬ (fr ≤ pc ∧ pc < to)) : ∀ xs : List Sp, fA pc (xs.flatMap (cutS fr to)) = fA pc xs
  | [] => rfl
  | x :: xs => by rw [List.flatMap_cons, fA_app, cutS_out x hft h, cut_out hft h xs, ← fA_app]; rfl
theorem cutL_in {fr to pc : Int} (h : fr ≤ pc ∧ pc < to) (xs : List Sp) : atS (cutL fr to xs) pc = [] := by
  unfold cutL
  rw [if_neg (by omega), atS_fA, cut_in h]
  rfl
theorem cutL_out {fr to pc : Int} (h : ¬ (fr ≤ pc ∧ pc < to)) (xs : List Sp) : atS (cutL fr to xs) pc = atS xs pc := by
  unfold cutL
  split
  · rfl
  · rw [atS_fA, cut_out (by omega) h, ← atS_fA]

theorem join_ok : ∀ (xs : List Sp) (l : Int) (now : Sp), okS (l, now) = true → okFrom now.t xs → okFrom l (joinS now xs)
  | [], _, _, h, _ => ⟨h, trivial⟩
  | x :: xs, l, now, h, hx => by
    obtain ⟨h1, h2, h3, h4, h5⟩ := okS_iff.1 h
    obtain ⟨g1, g2, g3, g4, g5⟩ := okS_iff.1 hx.1
    dsimp only at h1 h2 h3 h4 h5 g1 g2 g3 g4 g5
    rw [joinS]
    split
    · exact join_ok xs l { now with t := x.t } (okS_iff.2 ⟨h1, by dsimp only; omega, g3, h4, h5⟩) hx.2
    · exact ⟨h, join_ok xs now.t x hx.1 hx.2⟩
theorem join_at (pc : Int) : ∀ (xs : List Sp) (l : Int) (now : Sp), okS (l, now) = true → okFrom now.t xs → fA pc (joinS now xs) = fA pc (now :: xs)
  | [], _, _, _, _ => rfl
  | x :: xs, l, now, h, hx => by
    obtain ⟨h1, h2, h3, h4, h5⟩ := okS_iff.1 h
    obtain ⟨g1, g2, g3, g4, g5⟩ := okS_iff.1 hx.1
    dsimp only at h1 h2 h3 h4 h5 g1 g2 g3 g4 g5
    rw [joinS]
    split
    · rename_i hm
      rw [join_at pc xs l { now with t := x.t } (okS_iff.2 ⟨h1, by dsimp only; omega, g3, h4, h5⟩) hx.2]
      rw [show ({ now with t := x.t } : Sp) :: xs = [{ now with t := x.t }] ++ xs from rfl, show now :: x :: xs = [now] ++ ([x] ++ xs) from rfl, fA_app, fA_app, fA_app, fA_one, fA_one, fA_one]
      dsimp only
      by_cases hq : now.f ≤ pc ∧ pc < now.t
      · rw [if_pos hq, if_pos (by omega)]
        rfl
      · rw [if_neg hq, Option.none_or]
        by_cases hq2 : x.f ≤ pc ∧ pc < x.t
        · rw [if_pos hq2, if_pos (by omega), hm.2]
        · rw [if_neg hq2, if_neg (by omega)]
    · rw [show now :: joinS x xs = [now] ++ joinS x xs from rfl, show now :: x :: xs = [now] ++ (x :: xs) from rfl, fA_app, fA_app, join_at pc xs now.t x hx.1 hx.2]
theorem join_len : ∀ (xs : List Sp) (now : Sp), (joinS now xs).length ≤ xs.length + 1
  | [], _ => by simp [joinS]
  | x :: xs, now => by
    rw [joinS]
    split
    · have := join_len xs { now with t := x.t }
      simp only [List.length_cons]
      omega
    · have := join_len xs x
      simp only [List.length_cons]
      omega
theorem joinL_right {xs : List Sp} (h : rightL xs = true) : rightL (joinL xs) = true ∧ (joinL xs).length ≤ xs.length ∧ ∀ pc, atS (joinL xs) pc = atS xs pc := by
  obtain ⟨h1, h2⟩ := rightL_iff.1 h
  cases xs with
  | nil => exact ⟨h, Nat.le_refl _, fun _ => rfl⟩
  | cons x xs =>
    have hl := join_len xs x
    rw [List.length_cons] at h1
    refine ⟨rightL_iff.2 ⟨by show (joinS x xs).length ≤ 4000; omega, join_ok xs 0 x h2.1 h2.2⟩, hl, fun pc => ?_⟩
    show atS (joinS x xs) pc = _
    rw [atS_fA, atS_fA, join_at pc xs 0 x h2.1 h2.2]
theorem atS_len {xs : List Sp} {pc : Int} (h : ∀ x ∈ xs, x.a.length ≤ 1000) : (atS xs pc).length ≤ 1000 := by
  unfold atS
  cases e : xs.find? (hasS pc) with
  | none => simp
  | some x => exact h x (List.mem_of_find?_eq_some e)
end Go.Proofs.Ytggofdahnbchjaa
