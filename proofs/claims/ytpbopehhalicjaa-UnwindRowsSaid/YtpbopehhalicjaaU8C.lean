/-
  Tables of entries: what is right, its bytes, and how they are read, as data.
-/
import Derived.Test.YtpbopehhalicjaaU8B
import Derived.Test.YtpbopehhalicjaaU2B
namespace Go.Proofs.Ytpbopehhalicjaa
open Go Go.RowKit

/-- a saved register behind another one -/
def okW (a : Int) (x : Lc) : Prop := a < x.k ∧ x.k ≤ 11 ∧ -65536 ≤ x.n ∧ x.n ≤ -2
instance (a : Int) (x : Lc) : Decidable (okW a x) := by unfold okW; infer_instance
def riseL : Int → List Lc → Bool
  | _, [] => true
  | a, x :: xs => decide (okW a x) && riseL x.k xs
theorem riseL_at {a : Int} {l : List Lc} {k : Nat} (hk : k < l.length) : riseL a (l.drop k) = (decide (okW a l[k]) && riseL l[k].k (l.drop (k + 1))) := by
  rw [List.drop_eq_getElem_cons hk]; rfl
theorem riseL_len : ∀ {l : List Lc} {a : Int}, riseL a l = true → a ≤ 11 → (l.length : Int) ≤ 11 - a
  | [], a, _, h => by simp; omega
  | x :: xs, a, h, _ => by
    simp only [riseL, Bool.and_eq_true, decide_eq_true_eq] at h
    obtain ⟨⟨h1, h2, _⟩, h3⟩ := h
    have := riseL_len h3 h2
    simp only [List.length_cons]
    omega
theorem riseL_mem : ∀ {l : List Lc} {a : Int}, riseL a l = true → ∀ x ∈ l, a < x.k ∧ x.k ≤ 11 ∧ -65536 ≤ x.n ∧ x.n ≤ -2
  | [], _, _, x, hx => absurd hx (by simp)
  | y :: ys, a, h, x, hx => by
    simp only [riseL, Bool.and_eq_true, decide_eq_true_eq] at h
    obtain ⟨⟨h1, h2, h4⟩, h3⟩ := h
    rcases List.mem_cons.1 hx with rfl | hx
    · exact ⟨h1, h2, h4⟩
    · obtain ⟨q1, q2⟩ := riseL_mem h3 x hx
      exact ⟨by omega, q2⟩
/-- an entry behind a place -/
def okF (a : Int) (y : Sp) : Prop := a ≤ y.f ∧ y.f < y.t ∧ y.t ≤ 16777216 ∧ 0 ≤ y.u ∧ y.u ≤ 65536
instance (a : Int) (y : Sp) : Decidable (okF a y) := by unfold okF; infer_instance
def okE (a : Int) (y : Sp) : Bool := decide (okF a y) && riseL 5 y.a
def okA : Int → List Sp → Bool
  | _, [] => true
  | a, y :: ys => okE a y && okA y.t ys
def rightL (xs : List Sp) : Bool := decide (xs.length ≤ 4000) && okA 0 xs
theorem okA_at {a : Int} {l : List Sp} {k : Nat} (hk : k < l.length) : okA a (l.drop k) = (okE a l[k] && okA l[k].t (l.drop (k + 1))) := by
  rw [List.drop_eq_getElem_cons hk]; rfl
theorem okE_of {a : Int} {y : Sp} (h : okE a y = true) : okF a y ∧ riseL 5 y.a = true := by
  unfold okE at h
  rw [Bool.and_eq_true, decide_eq_true_eq] at h
  exact h
/-- bytes -/
def encW (x : Lc) : List UInt8 := UInt8.ofNat x.k.toNat :: nB false (-x.n)
def encE (a : Int) (y : Sp) : List UInt8 := nB false (y.f - a) ++ (nB false (y.t - y.f) ++ (nB false y.u ++ (nB false y.a.length ++ y.a.flatMap encW)))
def encA : Int → List Sp → List UInt8
  | _, [] => []
  | a, y :: ys => encE a y ++ encA y.t ys
def ownS (xs : List Sp) : List UInt8 := nB false xs.length ++ encA 0 xs

theorem hv_rng {b : Bool} {r : List UInt8} (h : good b r) : rng b (hv b r) := by
  obtain ⟨h1, h2, _, _⟩ := lg_has 10 r h.1
  have hb := sm_bound (r.take (lg r 10))
  have hl : (r.take (lg r 10)).length = lg r 10 := by simp; omega
  rw [hl] at hb
  exact val_rng hb.1 hb.2 (by have := h.1; omega) h1
theorem u8_lt (x : UInt8) : x.toNat < 256 := x.toNat_lt
/-- a number of at most M at a place, and the place behind it -/
def num8 (M : Nat) (b : List UInt8) (k : Nat) : Option (Nat × Nat) := if good false (b.drop k) ∧ hv false (b.drop k) ≤ M then some ((hv false (b.drop k)).toNat, k + lg (b.drop k) 10) else none
theorem num8_has {M : Nat} {b : List UInt8} {k x n : Nat} (h : num8 M b k = some (x, n)) : good false (b.drop k) ∧ hv false (b.drop k) = x ∧ k + lg (b.drop k) 10 = n ∧ k + 1 ≤ n ∧ n ≤ b.length ∧ x ≤ M ∧ (b.drop k).take (n - k) = nB false x := by
  unfold num8 at h
  split at h
  · rename_i hg
    simp only [Option.some.injEq, Prod.mk.injEq] at h
    obtain ⟨h1, h2⟩ := h
    have hr := hv_rng hg.1
    simp only [rng, Bool.false_eq_true, if_false] at hr
    have h3 : hv false (b.drop k) = x := by omega
    obtain ⟨g1, g2, _, _⟩ := lg_has 10 (b.drop k) hg.1.1
    have g0 := hg.1.1
    simp at g2
    refine ⟨hg.1, h3, h2, by omega, by omega, by omega, ?_⟩
    rw [← h2, ← h3, Nat.add_sub_cancel_left]
    exact good_take hg.1
  · cases h
theorem num8_put {M : Nat} {x : Int} (a r : List UInt8) (h0 : 0 ≤ x) (h1 : x ≤ M) (h2 : M < 18446744073709551616) : num8 M (a ++ (nB false x ++ r)) a.length = some (x.toNat, a.length + (nB false x).length) := by
  have hd : (a ++ (nB false x ++ r)).drop a.length = nB false x ++ r := List.drop_left
  obtain ⟨g1, g2, g3⟩ := good_put (b := false) (x := x) (r := nB false x ++ r) (by simp only [rng, Bool.false_eq_true, if_false]; omega) (List.prefix_append _ _)
  unfold num8
  rw [hd, if_pos ⟨g1, by omega⟩, g2, g3, nB_len]
/-- so many numbers, each with its bound -/
def nums8 (b : List UInt8) : List Nat → Nat → Option (List Nat × Nat)
  | [], k => some ([], k)
  | M :: Ms, k => (num8 M b k).bind fun g => (nums8 b Ms g.2).map fun r => (g.1 :: r.1, r.2)
/-- strictly, or not -/
def bU (s : Bool) : Nat := if s = true then 65536 else 16777216
def bC (s : Bool) : Nat := if s = true then 6 else 16777216
def rdW (s : Bool) (b : List UInt8) (k : Nat) : Option (Lc × Nat) := if h : k < b.length then (num8 (bU s) b (k + 1)).map fun g => (⟨b[k].toNat, -(g.1 : Int)⟩, g.2) else none
def rdWs (s : Bool) (b : List UInt8) : Nat → Nat → Option (List Lc × Nat)
  | 0, k => some ([], k)
  | m + 1, k => (rdW s b k).bind fun q => (rdWs s b m q.2).map fun r => (q.1 :: r.1, r.2)
def farE (s : Bool) (a : Int) (f t m : Nat) : Bool := !s && (decide (16 < m) || decide (16777216 < a + f + t))
def rdU (s : Bool) (b : List UInt8) (k : Nat) (a : Int) : Option (Sp × Nat) :=
  (num8 16777216 b k).bind fun g0 => (num8 16777216 b g0.2).bind fun g1 => (num8 (bU s) b g1.2).bind fun g2 => (num8 (bC s) b g2.2).bind fun g3 =>
    if farE s a g0.1 g1.1 g3.1 = true then none else (rdWs s b g3.1 g3.2).map fun r => (⟨a + g0.1, a + g0.1 + g1.1, g2.1, r.1⟩, r.2)
def runS (s : Bool) (b : List UInt8) : Nat → Nat → Int → Option (List Sp × Nat)
  | 0, k, _ => some ([], k)
  | m + 1, k, a => (rdU s b k a).bind fun q => (runS s b m q.2 q.1.t).map fun r => (q.1 :: r.1, r.2)
def gotR (r : List Sp × Nat) : Option (List Sp × Nat) := if rightL r.1 = true then some r else none
/-- the table that stands in bytes at a place, and the place behind it -/
def gotS (s : Bool) (b : List UInt8) (k : Nat) : Option (List Sp × Nat) := (num8 4000 b k).bind fun g => (runS s b g.1 g.2 0).bind gotR

theorem obind {α β : Type _} {o : Option α} {f : α → Option β} {r : β} (h : o.bind f = some r) : ∃ x, o = some x ∧ f x = some r := by
  cases o with
  | none => cases h
  | some x => exact ⟨x, rfl, h⟩
theorem omap {α β : Type _} {o : Option α} {f : α → β} {r : β} (h : o.map f = some r) : ∃ x, o = some x ∧ f x = r := by
  cases o with
  | none => cases h
  | some x => exact ⟨x, rfl, by simpa using h⟩
theorem rdW_has {s : Bool} {b : List UInt8} {k n : Nat} {x : Lc} (h : rdW s b k = some (x, n)) : k + 2 ≤ n ∧ n ≤ b.length ∧ x.Rng ∧ 0 ≤ x.k ∧ x.k < 256 ∧ -16777216 ≤ x.n ∧ x.n ≤ 0 ∧ (b.drop k).take (n - k) = encW x := by
  unfold rdW at h
  split at h
  · rename_i hk
    obtain ⟨⟨y, m⟩, h1, h2⟩ := omap h
    simp only [Prod.mk.injEq] at h2
    obtain ⟨rfl, rfl⟩ := h2
    obtain ⟨_, _, _, a1, a2, a3, a4⟩ := num8_has h1
    have hu : bU s ≤ 16777216 := by unfold bU; split <;> omega
    have hb := u8_lt b[k]
    refine ⟨by omega, a2, ⟨⟨by dsimp only; omega, by dsimp only; omega⟩, by dsimp only; omega, by dsimp only; omega⟩, by dsimp only; omega, by dsimp only; omega, by dsimp only; omega, by dsimp only; omega, ?_⟩
    unfold encW
    dsimp only
    rw [Int.neg_neg, Int.toNat_natCast, show UInt8.ofNat b[k].toNat = b[k] by simp, ← a4, List.drop_eq_getElem_cons hk, show m - k = (m - (k + 1)) + 1 by omega, List.take_succ_cons]
  · cases h
theorem rdWs_has {s : Bool} {b : List UInt8} : ∀ {m k n : Nat} {l : List Lc}, k ≤ b.length → rdWs s b m k = some (l, n) → k ≤ n ∧ n ≤ b.length ∧ l.length = m ∧ (∀ x ∈ l, x.Rng) ∧ (b.drop k).take (n - k) = l.flatMap encW
  | 0, k, n, l, hk, h => by
    simp only [rdWs, Option.some.injEq, Prod.mk.injEq] at h
    obtain ⟨rfl, rfl⟩ := h
    exact ⟨Nat.le_refl _, hk, rfl, fun x hx => absurd hx (by simp), by rw [Nat.sub_self]; rfl⟩
  | m + 1, k, n, l, hk, h => by
    rw [rdWs] at h
    obtain ⟨⟨x, k1⟩, h1, h2⟩ := obind h
    obtain ⟨⟨l', n'⟩, h3, h4⟩ := omap h2
    simp only [Prod.mk.injEq] at h4
    obtain ⟨rfl, rfl⟩ := h4
    obtain ⟨a1, a2, a3, _, _, _, _, a4⟩ := rdW_has h1
    obtain ⟨b1, b2, b3, b4, b5⟩ := rdWs_has a2 h3
    refine ⟨by omega, b2, by simp [b3], fun y hy => ?_, ?_⟩
    · rcases List.mem_cons.1 hy with rfl | hy
      · exact a3
      · exact b4 y hy
    · skip
      rw [List.flatMap_cons, ← a4, ← b5, show n' - k = (k1 - k) + (n' - k1) by omega, List.take_add, List.drop_drop, show k + (k1 - k) = k1 by omega]
theorem rdU_has {s : Bool} {b : List UInt8} {k n : Nat} {a : Int} {y : Sp} (h : rdU s b k a = some (y, n)) : a ≤ y.f ∧ y.f ≤ a + 16777216 ∧ y.f ≤ y.t ∧ y.t ≤ y.f + 16777216 ∧ 0 ≤ y.u ∧ y.u ≤ 16777216 ∧ k + 4 ≤ n ∧ n ≤ b.length ∧ (∀ x ∈ y.a, x.Rng) ∧ y.a.length ≤ 16 ∧ (b.drop k).take (n - k) = encE a y := by
  unfold rdU at h
  obtain ⟨⟨x0, n0⟩, h0, h⟩ := obind h
  obtain ⟨⟨x1, n1⟩, h1, h⟩ := obind h
  obtain ⟨⟨x2, n2⟩, h2, h⟩ := obind h
  obtain ⟨⟨x3, n3⟩, h3, h⟩ := obind h
  dsimp only at h0 h1 h2 h3 h
  split at h
  · cases h
  · rename_i hfar
    obtain ⟨⟨l, m⟩, h4, h⟩ := omap h
    simp only [Prod.mk.injEq] at h
    obtain ⟨rfl, rfl⟩ := h
    obtain ⟨_, _, _, a1, a2, a3, a4⟩ := num8_has h0
    obtain ⟨_, _, _, b1, b2, b3, b4⟩ := num8_has h1
    obtain ⟨_, _, _, c1, c2, c3, c4⟩ := num8_has h2
    obtain ⟨_, _, _, d1, d2, d3, d4⟩ := num8_has h3
    obtain ⟨e1, e2, e3, e4, e5⟩ := rdWs_has d2 h4
    have hu : bU s ≤ 16777216 := by unfold bU; split <;> omega
    have hc : x3 ≤ 16 := by
      cases s with
      | true => have : bC true = 6 := rfl; omega
      | false =>
        simp only [farE, Bool.not_false, Bool.true_and, Bool.or_eq_true, decide_eq_true_eq, not_or] at hfar
        omega
    refine ⟨by dsimp only; omega, by dsimp only; omega, by dsimp only; omega, by dsimp only; omega, by dsimp only; omega, by dsimp only; omega, by omega, e2, e4, by dsimp only; omega, ?_⟩
    unfold encE
    dsimp only
    rw [show a + (x0 : Int) - a = x0 by omega, show a + (x0 : Int) + x1 - (a + x0) = x1 by omega, e3, ← a4, ← b4, ← c4, ← d4, ← e5]
    rw [show m - k = (n0 - k) + ((n1 - n0) + ((n2 - n1) + ((n3 - n2) + (m - n3)))) by omega, List.take_add, List.drop_drop, show k + (n0 - k) = n0 by omega, List.take_add, List.drop_drop, show n0 + (n1 - n0) = n1 by omega,
      List.take_add, List.drop_drop, show n1 + (n2 - n1) = n2 by omega, List.take_add, List.drop_drop, show n2 + (n3 - n2) = n3 by omega]
theorem runS_has {s : Bool} {b : List UInt8} : ∀ {m k n : Nat} {a : Int} {l : List Sp}, k ≤ b.length → runS s b m k a = some (l, n) → k ≤ n ∧ n ≤ b.length ∧ l.length = m ∧ (∀ y ∈ l, ∀ x ∈ y.a, x.Rng) ∧ (b.drop k).take (n - k) = encA a l
  | 0, k, n, a, l, hk, h => by
    simp only [runS, Option.some.injEq, Prod.mk.injEq] at h
    obtain ⟨rfl, rfl⟩ := h
    exact ⟨Nat.le_refl _, hk, rfl, fun x hx => absurd hx (by simp), by rw [Nat.sub_self]; rfl⟩
  | m + 1, k, n, a, l, hk, h => by
    rw [runS] at h
    obtain ⟨⟨y, k1⟩, h1, h2⟩ := obind h
    obtain ⟨⟨l', n'⟩, h3, h4⟩ := omap h2
    simp only [Prod.mk.injEq] at h4
    obtain ⟨rfl, rfl⟩ := h4
    obtain ⟨_, _, _, _, _, _, a1, a2, a3, _, a4⟩ := rdU_has h1
    obtain ⟨b1, b2, b3, b4, b5⟩ := runS_has a2 h3
    refine ⟨by omega, b2, by simp [b3], fun z hz => ?_, ?_⟩
    · rcases List.mem_cons.1 hz with rfl | hz
      · exact a3
      · exact b4 z hz
    · skip
      rw [encA, ← a4, ← b5, show n' - k = (k1 - k) + (n' - k1) by omega, List.take_add, List.drop_drop, show k + (k1 - k) = k1 by omega]
theorem gotS_has {s : Bool} {b : List UInt8} {k n : Nat} {ls : List Sp} (h : gotS s b k = some (ls, n)) : rightL ls = true ∧ (∀ y ∈ ls, ∀ x ∈ y.a, x.Rng) ∧ k + 1 ≤ n ∧ n ≤ b.length ∧ (b.drop k).take (n - k) = ownS ls := by
  unfold gotS at h
  obtain ⟨⟨M, k0⟩, h0, h⟩ := obind h
  obtain ⟨⟨l, m⟩, h1, h⟩ := obind h
  unfold gotR at h
  split at h
  · rename_i hr
    simp only [Option.some.injEq, Prod.mk.injEq] at h
    obtain ⟨rfl, rfl⟩ := h
    obtain ⟨_, _, _, a1, a2, a3, a4⟩ := num8_has h0
    obtain ⟨b1, b2, b3, b4, b5⟩ := runS_has a2 h1
    refine ⟨hr, b4, by omega, b2, ?_⟩
    unfold ownS
    rw [b3, ← a4, ← b5, show m - k = (k0 - k) + (m - k0) by omega, List.take_add, List.drop_drop, show k + (k0 - k) = k0 by omega]
  · cases h

theorem rdW_put (s : Bool) {x : Lc} {o : Int} (hx : okW o x) (ho : 0 ≤ o) (a r : List UInt8) : rdW s (a ++ (encW x ++ r)) a.length = some (x, a.length + (encW x).length) := by
  obtain ⟨h1, h2, h3, h4⟩ := hx
  have hl : a.length < (a ++ (encW x ++ r)).length := by simp [encW]
  unfold rdW
  rw [dif_pos hl]
  have he : a ++ (encW x ++ r) = (a ++ [UInt8.ofNat x.k.toNat]) ++ (nB false (-x.n) ++ r) := by simp [encW]
  have hu : (65536 : Int) ≤ bU s := by unfold bU; split <;> omega
  have hu2 : bU s < 18446744073709551616 := by unfold bU; split <;> omega
  have := num8_put (M := bU s) (x := -x.n) (a ++ [UInt8.ofNat x.k.toNat]) r (by omega) (by omega) hu2
  rw [← he, List.length_append, List.length_singleton] at this
  rw [this]
  have hg : (a ++ (encW x ++ r))[a.length] = UInt8.ofNat x.k.toNat := by
    rw [List.getElem_append_right (Nat.le_refl _)]
    simp [encW]
  simp only [Option.map_some, hg, Option.some.injEq, Prod.mk.injEq]
  refine ⟨?_, by simp [encW]; omega⟩
  obtain ⟨xk, xn⟩ := x
  dsimp only at *
  have hk : (UInt8.ofNat xk.toNat).toNat = xk.toNat := by exact UInt8.toNat_ofNat_of_lt' (by have : UInt8.size = 256 := rfl; omega)
  rw [hk]
  congr 1 <;> omega
theorem rdWs_put (s : Bool) : ∀ (l : List Lc) (o : Int) (a r : List UInt8), riseL o l = true → 0 ≤ o → rdWs s (a ++ (l.flatMap encW ++ r)) l.length a.length = some (l, a.length + (l.flatMap encW).length)
  | [], _, _, _, _, _ => by simp [rdWs]
  | x :: xs, o, a, r, h, ho => by
    simp only [riseL, Bool.and_eq_true, decide_eq_true_eq] at h
    obtain ⟨h1, h2⟩ := h
    have e : a ++ ((x :: xs).flatMap encW ++ r) = a ++ (encW x ++ (xs.flatMap encW ++ r)) := by simp
    have e2 : a ++ (encW x ++ (xs.flatMap encW ++ r)) = (a ++ encW x) ++ (xs.flatMap encW ++ r) := by simp
    have q := rdWs_put s xs x.k (a ++ encW x) r h2 (by have := h1.1; omega)
    rw [List.length_cons, rdWs, e, rdW_put s h1 ho a _]
    simp only [Option.bind_some]
    rw [← List.length_append, e2, q]
    simp [Nat.add_assoc]
theorem rdU_put (s : Bool) {y : Sp} {o : Int} (h : okE o y = true) (ho : 0 ≤ o) (a r : List UInt8) : rdU s (a ++ (encE o y ++ r)) a.length o = some (y, a.length + (encE o y).length) := by
  obtain ⟨⟨h1, h2, h3, h4, h5⟩, hr⟩ := okE_of h
  have hl := riseL_len hr (by omega)
  obtain ⟨yf, yt, yu, ya⟩ := y
  dsimp only at *
  have hu : (65536 : Int) ≤ bU s := by unfold bU; split <;> omega
  have hu2 : bU s < 18446744073709551616 := by unfold bU; split <;> omega
  have hc : (6 : Int) ≤ bC s := by unfold bC; split <;> omega
  have hc2 : bC s < 18446744073709551616 := by unfold bC; split <;> omega
  have E : a ++ (encE o ⟨yf, yt, yu, ya⟩ ++ r) = a ++ (nB false (yf - o) ++ (nB false (yt - yf) ++ (nB false yu ++ (nB false ya.length ++ (ya.flatMap encW ++ r))))) := by simp [encE]
  generalize hb : a ++ (encE o ⟨yf, yt, yu, ya⟩ ++ r) = b at *
  have p0 := num8_put (M := 16777216) (x := yf - o) a (nB false (yt - yf) ++ (nB false yu ++ (nB false ya.length ++ (ya.flatMap encW ++ r)))) (by omega) (by omega) (by omega)
  rw [← E] at p0
  have E1 : b = (a ++ nB false (yf - o)) ++ (nB false (yt - yf) ++ (nB false yu ++ (nB false ya.length ++ (ya.flatMap encW ++ r)))) := by rw [E]; simp
  have p1 := num8_put (M := 16777216) (x := yt - yf) (a ++ nB false (yf - o)) (nB false yu ++ (nB false ya.length ++ (ya.flatMap encW ++ r))) (by omega) (by omega) (by omega)
  rw [← E1] at p1
  have E2 : b = (a ++ nB false (yf - o) ++ nB false (yt - yf)) ++ (nB false yu ++ (nB false ya.length ++ (ya.flatMap encW ++ r))) := by rw [E]; simp
  have p2 := num8_put (M := bU s) (x := yu) (a ++ nB false (yf - o) ++ nB false (yt - yf)) (nB false ya.length ++ (ya.flatMap encW ++ r)) (by omega) (by omega) hu2
  rw [← E2] at p2
  have E3 : b = (a ++ nB false (yf - o) ++ nB false (yt - yf) ++ nB false yu) ++ (nB false ya.length ++ (ya.flatMap encW ++ r)) := by rw [E]; simp
  have p3 := num8_put (M := bC s) (x := ya.length) (a ++ nB false (yf - o) ++ nB false (yt - yf) ++ nB false yu) (ya.flatMap encW ++ r) (by omega) (by omega) hc2
  rw [← E3] at p3
  have E4 : b = (a ++ nB false (yf - o) ++ nB false (yt - yf) ++ nB false yu ++ nB false ya.length) ++ (ya.flatMap encW ++ r) := by rw [E]; simp
  have p4 := rdWs_put s ya 5 (a ++ nB false (yf - o) ++ nB false (yt - yf) ++ nB false yu ++ nB false ya.length) r hr (by omega)
  rw [← E4] at p4
  simp only [List.length_append] at p1 p2 p3 p4
  have hfar : farE s o (yf - o).toNat (yt - yf).toNat ya.length = false := by
    unfold farE
    rw [decide_eq_false (by omega), decide_eq_false (by omega)]
    simp
  unfold rdU
  rw [p0]
  simp only [Option.bind_some]
  rw [p1]
  simp only [Option.bind_some]
  rw [p2]
  simp only [Option.bind_some]
  rw [p3]
  simp only [Option.bind_some, Int.toNat_natCast]
  rw [if_neg (by rw [hfar]; decide), p4]
  simp only [Option.map_some, Option.some.injEq, Prod.mk.injEq]
  refine ⟨?_, by simp [encE]; omega⟩
  congr 1 <;> omega
theorem runS_put (s : Bool) : ∀ (l : List Sp) (o : Int) (a r : List UInt8), okA o l = true → 0 ≤ o → runS s (a ++ (encA o l ++ r)) l.length a.length o = some (l, a.length + (encA o l).length)
  | [], _, _, _, _, _ => by simp [runS, encA]
  | y :: ys, o, a, r, h, ho => by
    simp only [okA, Bool.and_eq_true] at h
    obtain ⟨h1, h2⟩ := h
    obtain ⟨⟨q1, q2, _⟩, _⟩ := okE_of h1
    have e : a ++ (encA o (y :: ys) ++ r) = a ++ (encE o y ++ (encA y.t ys ++ r)) := by simp [encA]
    have e2 : a ++ (encE o y ++ (encA y.t ys ++ r)) = (a ++ encE o y) ++ (encA y.t ys ++ r) := by simp
    have q := runS_put s ys y.t (a ++ encE o y) r h2 (by omega)
    rw [List.length_cons, runS, e, rdU_put s h1 ho a _]
    simp only [Option.bind_some]
    rw [← List.length_append, e2, q]
    simp [encA, Nat.add_assoc]
theorem got_putS (s : Bool) {xs : List Sp} (hr : rightL xs = true) (a r : List UInt8) : gotS s (a ++ (ownS xs ++ r)) a.length = some (xs, a.length + (ownS xs).length) := by
  have hr' := hr
  unfold rightL at hr'
  rw [Bool.and_eq_true, decide_eq_true_eq] at hr'
  have e : a ++ (ownS xs ++ r) = a ++ (nB false xs.length ++ (encA 0 xs ++ r)) := by simp [ownS]
  have e2 : a ++ (nB false xs.length ++ (encA 0 xs ++ r)) = (a ++ nB false xs.length) ++ (encA 0 xs ++ r) := by simp
  have p := num8_put (M := 4000) (x := xs.length) a (encA 0 xs ++ r) (by omega) (by omega) (by omega)
  have q := runS_put s xs 0 (a ++ nB false xs.length) r hr'.2 (by omega)
  unfold gotS
  rw [e, p]
  simp only [Option.bind_some, Int.toNat_natCast]
  rw [← List.length_append, e2, q]
  simp only [Option.bind_some]
  unfold gotR
  rw [if_pos hr]
  simp [ownS, Nat.add_assoc]
theorem gotS_turn {s : Bool} (s' : Bool) {b : List UInt8} {k : Nat} {q : List Sp × Nat} (h : gotS s b k = some q) : gotS s' b k = some q := by
  obtain ⟨xs, n⟩ := q
  obtain ⟨h1, _, h3, h4, h5⟩ := gotS_has h
  have e : b = b.take k ++ (ownS xs ++ b.drop n) := by
    have e1 := (List.take_append_drop k b).symm
    have e2 := (List.take_append_drop (n - k) (b.drop k)).symm
    rw [List.drop_drop, show k + (n - k) = n by omega, h5] at e2
    rw [← e2]
    exact e1
  have hk : (b.take k).length = k := by rw [List.length_take]; omega
  have := got_putS s' h1 (b.take k) (b.drop n)
  rw [← e, hk] at this
  rw [this]
  have hl : (ownS xs).length = n - k := by rw [← h5, List.length_take, List.length_drop]; omega
  rw [hl, show k + (n - k) = n by omega]
/-- strictly or not, it comes to the same -/
theorem gotS_same (b : List UInt8) (k : Nat) : gotS false b k = gotS true b k := by
  cases h : gotS false b k with
  | some q => exact (gotS_turn true h).symm
  | none =>
    cases h2 : gotS true b k with
    | none => rfl
    | some q => rw [gotS_turn false h2] at h; cases h
end Go.Proofs.Ytpbopehhalicjaa
