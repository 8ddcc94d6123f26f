/-
  Frames laid one on the other, as data: what each keeps, and what is told of it again.
-/
import Derived.Test.YtpbopehhalicjaaU8U
namespace Go.Proofs.Ytpbopehhalicjaa
open Go Go.RowKit

theorem riseL_snoc : ∀ {l : List Lc} {o : Int} {x : Lc}, riseL o l = true → o < x.k → (∀ y ∈ l, y.k < x.k) → x.k ≤ 11 → -65536 ≤ x.n → x.n ≤ -2 → riseL o (l ++ [x]) = true
  | [], o, x, _, h0, _, h1, h2, h3 => by
    show (decide (okW o x) && true) = true
    rw [Bool.and_true, decide_eq_true_eq]
    exact ⟨h0, h1, h2, h3⟩
  | y :: ys, o, x, h, _, hy, h1, h2, h3 => by
    rw [show riseL o (y :: ys) = (decide (okW o y) && riseL y.k ys) from rfl, Bool.and_eq_true] at h
    show (decide (okW o y) && riseL y.k (ys ++ [x])) = true
    rw [Bool.and_eq_true]
    exact ⟨h.1, riseL_snoc h.2 (hy y List.mem_cons_self) (fun z hz => hy z (List.mem_cons_of_mem _ hz)) h1 h2 h3⟩
/-- what lies ahead of a frame's base -/
def backI (j : Nat) : Int := if j = 0 then 9999 else 10 * ((j : Int) - 1) + 5
/-- a frame: the registers of its caller and of itself, and the words that it wrote -/
structure FrOk (W : List Int) (j : Nat) (R R' : List Int) (y : Sp) (b : Nat) : Prop where
  f : y.f = 10 * (j : Int)
  t : y.t = 10 * (j : Int) + 10
  u0 : 10 ≤ y.u
  u1 : y.u ≤ 19
  rise : riseL 5 y.a = true
  low : ∀ x ∈ y.a, -7 ≤ x.n
  b0 : 200 ≤ b
  b1 : b ≤ 600
  top : R[15]? = some (b : Int)
  top' : R'[15]? = some ((b : Int) - y.u)
  back : W[b - 1]? = some (backI j)
  word : ∀ x ∈ y.a, W[((b : Int) + x.n).toNat]? = R[x.k.toNat]?
  same : ∀ k : Nat, 6 ≤ k → k ≤ 11 → (∀ x ∈ y.a, x.k ≠ (k : Int)) → R'[k]? = R[k]?
theorem FrOk.set {W : List Int} {j : Nat} {R R' : List Int} {y : Sp} {b : Nat} (h : FrOk W j R R' y b) {m : Nat} (hm : m + 8 ≤ b) (v : Int) : FrOk (W.set m v) j R R' y b := by
  have hb := h.b0
  refine ⟨h.f, h.t, h.u0, h.u1, h.rise, h.low, h.b0, h.b1, h.top, h.top', ?_, fun x hx => ?_, h.same⟩
  · rw [List.getElem?_set_ne (by omega)]; exact h.back
  · have := h.low x hx
    rw [List.getElem?_set_ne (by omega)]; exact h.word x hx
/-- all frames laid so far: rows of registers, entries, bases -/
structure Laid (n : Nat) (W : List Int) (rs : List (List Int)) (ls : List Sp) (bs : List Nat) : Prop where
  lr : rs.length = n + 1
  ll : ls.length = n
  lb : bs.length = n + 1
  lW : W.length = 600
  l16 : ∀ r ∈ rs, r.length = 16
  each : ∀ j (_ : j < n), FrOk W j rs[j] rs[j + 1] ls[j] bs[j]
  cur : (rs[n])[15]? = some ((bs[n] : Nat) : Int)
  c0 : 600 ≤ bs[n] + 19 * n
  c1 : bs[n] ≤ 600
  down : ∀ j (_ : j < n), bs[n] + 10 ≤ bs[j]
theorem Laid.set {n : Nat} {W : List Int} {rs : List (List Int)} {ls : List Sp} {bs : List Nat} (h : Laid n W rs ls bs) {m : Nat} (hm : m < bs[n]'(by have := h.lb; omega)) (v : Int) : Laid n (W.set m v) rs ls bs := by
  refine ⟨h.lr, h.ll, h.lb, by rw [List.length_set]; exact h.lW, h.l16, fun j hj => (h.each j hj).set ?_ v, h.cur, h.c0, h.c1, h.down⟩
  have := h.down j hj
  omega
/-- in the midst of a frame -/
structure Part (m i : Nat) (R0 R W : List Int) (a : List Lc) (b : Nat) : Prop where
  lR : R.length = 16
  rise : riseL 5 a = true
  la : a.length ≤ m
  keys : ∀ x ∈ a, x.k < 6 + (m : Int)
  low : ∀ x ∈ a, -1 - (a.length : Int) ≤ x.n
  top : R[15]? = R0[15]?
  back : W[b - 1]? = some (backI i)
  word : ∀ x ∈ a, W[((b : Int) + x.n).toNat]? = R0[x.k.toNat]?
  same : ∀ k : Nat, 6 ≤ k → k ≤ 11 → (∀ x ∈ a, x.k ≠ (k : Int)) → R[k]? = R0[k]?
theorem Part.start {i : Nat} {R0 W : List Int} {b : Nat} (hR : R0.length = 16) (hW : W[b - 1]? = some (backI i)) : Part 0 i R0 R0 W [] b :=
  ⟨hR, rfl, Nat.le_refl _, fun x hx => absurd hx (by simp), fun x hx => absurd hx (by simp), rfl, hW, fun x hx => absurd hx (by simp), fun _ _ _ _ => rfl⟩
theorem Part.skip {m i : Nat} {R0 R W : List Int} {a : List Lc} {b : Nat} (h : Part m i R0 R W a b) : Part (m + 1) i R0 R W a b :=
  ⟨h.lR, h.rise, by have := h.la; omega, fun x hx => by have := h.keys x hx; omega, h.low, h.top, h.back, h.word, h.same⟩
theorem Part.save {m i : Nat} {R0 R W : List Int} {a : List Lc} {b : Nat} (h : Part m i R0 R W a b) (hm : m < 6) (hb : 200 ≤ b) (hb1 : b ≤ 600) (hW : W.length = 600) (z v : Int) (hz : R[6 + m]? = some z) (p : Nat) (hp : (p : Int) = b + (-2 - (a.length : Int))) :
    Part (m + 1) i R0 (R.set (6 + m) v) (W.set p z) (a ++ [⟨6 + (m : Int), -2 - (a.length : Int)⟩]) b := by
  have hla := h.la
  have hno : ∀ x ∈ a, x.k ≠ ((6 + m : Nat) : Int) := fun x hx => by have := h.keys x hx; omega
  refine ⟨by rw [List.length_set]; exact h.lR, riseL_snoc h.rise (by dsimp only; omega) (fun y hy => h.keys y hy) (by dsimp only; omega) (by dsimp only; omega) (by dsimp only; omega), by simp; omega, fun x hx => ?_, fun x hx => ?_, ?_, ?_, fun x hx => ?_, fun k h6 h11 hk => ?_⟩
  · rcases List.mem_append.1 hx with hx | hx
    · have := h.keys x hx; omega
    · rw [List.mem_singleton] at hx; subst hx; dsimp only; omega
  · rw [List.length_append, List.length_singleton]
    rcases List.mem_append.1 hx with hx | hx
    · have := h.low x hx; omega
    · rw [List.mem_singleton] at hx; subst hx; dsimp only; omega
  · rw [List.getElem?_set_ne (by omega)]; exact h.top
  · rw [List.getElem?_set_ne (by omega)]; exact h.back
  · rcases List.mem_append.1 hx with hx | hx
    · have := h.low x hx
      rw [List.getElem?_set_ne (by omega)]; exact h.word x hx
    · rw [List.mem_singleton] at hx
      subst hx
      dsimp only
      rw [← hp, Int.toNat_natCast, List.getElem?_set_self (by omega), show (6 + (m : Int)).toNat = 6 + m by omega, ← h.same (6 + m) (by omega) (by omega) hno]
      exact hz.symm
  · have hne : k ≠ 6 + m := fun e => hk _ (List.mem_append_right _ List.mem_cons_self) (by dsimp only; omega)
    rw [List.getElem?_set_ne (fun e => hne e.symm)]
    exact h.same k h6 h11 fun x hx => hk x (List.mem_append_left _ hx)
theorem Laid.next {n : Nat} {W : List Int} {rs : List (List Int)} {ls : List Sp} {bs : List Nat} (h : Laid n W rs ls bs) (hn : n < 20) {R : List Int} {a : List Lc} (hp : Part 6 n (rs[n]'(by have := h.lr; omega)) R W a (bs[n]'(by have := h.lb; omega))) (u : Int) (b' : Nat) (hu0 : 10 ≤ u) (hu1 : u ≤ 19) (hb : (b' : Int) = (bs[n]'(by have := h.lb; omega) : Nat) - u) :
    Laid (n + 1) W (rs ++ [R.set 15 ((bs[n]'(by have := h.lb; omega) : Nat) - u)]) (ls ++ [⟨10 * (n : Int), 10 * (n : Int) + 10, u, a⟩]) (bs ++ [b']) := by
  have lr := h.lr
  have ll := h.ll
  have lb := h.lb
  have c0 := h.c0
  have c1 := h.c1
  have hla := hp.la
  have hR15 : (R.set 15 (((bs[n]'(by omega) : Nat) : Int) - u))[15]? = some (((bs[n]'(by omega) : Nat) : Int) - u) := List.getElem?_set_self (by have := hp.lR; omega)
  have hlast : (bs ++ [b'])[n + 1]'(by simp; omega) = b' := by rw [List.getElem_append_right (by omega)]; simp [lb]
  refine ⟨by simp [lr], by simp [ll], by simp [lb], h.lW, fun r hr => ?_, fun j hj => ?_, ?_, ?_, ?_, fun j hj => ?_⟩
  · rcases List.mem_append.1 hr with hr | hr
    · exact h.l16 r hr
    · rw [List.mem_singleton] at hr; subst hr; rw [List.length_set]; exact hp.lR
  · by_cases hjn : j < n
    · rw [List.getElem_append_left (by omega), List.getElem_append_left (by omega), List.getElem_append_left (by omega), List.getElem_append_left (by omega)]
      exact h.each j hjn
    · obtain rfl : j = n := by omega
      have e0 : (rs ++ [R.set 15 (((bs[j]'(by omega) : Nat) : Int) - u)])[j]'(by simp; omega) = rs[j]'(by omega) := List.getElem_append_left (by omega)
      have e3 : (bs ++ [b'])[j]'(by simp; omega) = bs[j]'(by omega) := List.getElem_append_left (by omega)
      have e1 : (rs ++ [R.set 15 (((bs[j]'(by omega) : Nat) : Int) - u)])[j + 1]'(by simp; omega) = R.set 15 (((bs[j]'(by omega) : Nat) : Int) - u) := by rw [List.getElem_append_right (by omega)]; simp [lr]
      have e2 : (ls ++ [(⟨10 * (j : Int), 10 * (j : Int) + 10, u, a⟩ : Sp)])[j]'(by simp; omega) = ⟨10 * (j : Int), 10 * (j : Int) + 10, u, a⟩ := by rw [List.getElem_append_right (by omega)]; simp [ll]
      rw [e0, e1, e2, e3]
      refine ⟨rfl, rfl, hu0, hu1, hp.rise, fun x hx => by have := hp.low x hx; omega, by omega, h.c1, h.cur, hR15, hp.back, hp.word, fun k h6 h11 hk => ?_⟩
      rw [List.getElem?_set_ne (by omega)]
      exact hp.same k h6 h11 hk
  · have e1 : (rs ++ [R.set 15 (((bs[n]'(by omega) : Nat) : Int) - u)])[n + 1]'(by simp; omega) = R.set 15 (((bs[n]'(by omega) : Nat) : Int) - u) := by rw [List.getElem_append_right (by omega)]; simp [lr]
    rw [e1, hlast, hR15, hb]
  · rw [hlast]; omega
  · rw [hlast]; omega
  · rw [hlast]
    by_cases hjn : j < n
    · rw [List.getElem_append_left (by omega)]
      have := h.down j hjn
      omega
    · obtain rfl : j = n := by omega
      rw [List.getElem_append_left (by omega)]
      omega

theorem savR_out {Ws : List Int} {b : Int} : ∀ {a : List Lc} {R : List Int} {k : Nat}, (∀ x ∈ a, 0 ≤ x.k ∧ x.k ≠ (k : Int)) → (savR Ws b R a)[k]? = R[k]?
  | [], _, _, _ => rfl
  | y :: ys, R, k, h => by
    have h1 := h y List.mem_cons_self
    have h2 := savR_out (Ws := Ws) (b := b) (R := savF Ws b R y) (k := k) (a := ys) fun x hx => h x (List.mem_cons_of_mem _ hx)
    unfold savR at h2 ⊢
    rw [List.foldl_cons, h2]
    unfold savF
    exact List.getElem?_set_ne (by omega)
theorem savR_in {Ws : List Int} {b : Int} : ∀ {a : List Lc} {R : List Int} {o : Int}, riseL o a = true → 0 ≤ o → R.length = 16 → ∀ x ∈ a, (savR Ws b R a)[x.k.toNat]? = some (Ws.getD (b + x.n).toNat 0)
  | [], _, _, _, _, _, x, hx => absurd hx (by simp)
  | y :: ys, R, o, h, ho, hR, x, hx => by
    have hm := riseL_mem h
    rw [show riseL o (y :: ys) = (decide (okW o y) && riseL y.k ys) from rfl, Bool.and_eq_true] at h
    have hy := hm y List.mem_cons_self
    have hlen : (savF Ws b R y).length = 16 := by unfold savF; rw [List.length_set]; exact hR
    rcases List.mem_cons.1 hx with rfl | hx
    · have hms := riseL_mem h.2
      have h2 := savR_out (Ws := Ws) (b := b) (R := savF Ws b R x) (k := x.k.toNat) (a := ys) fun z hz => by
        have := hms z hz
        omega
      unfold savR at h2 ⊢
      rw [List.foldl_cons, h2]
      unfold savF
      exact List.getElem?_set_self (by omega)
    · have h2 := savR_in (Ws := Ws) (b := b) (R := savF Ws b R y) h.2 (by omega) hlen x hx
      unfold savR at h2 ⊢
      rw [List.foldl_cons, h2]
theorem keptL_at {R : List Int} (hR : R.length = 16) {k : Nat} (h6 : 6 ≤ k) (h11 : k ≤ 11) : (keptL 0 R)[k]? = R[k]? := by
  unfold keptL
  rw [List.getElem?_append_right (by simp; omega), List.getElem?_append_left (by simp; omega), List.getElem?_take, if_pos (by simp; omega), List.getElem?_drop]
  congr 1
  simp
  omega
/-- the caller's registers are told again -/
theorem FrOk.told {W : List Int} {j : Nat} {R R' : List Int} {y : Sp} {b : Nat} (h : FrOk W j R R' y b) (hR : R.length = 16) (V : List Int) (hV : V.length = 16) (hs : ∀ k, 6 ≤ k → k ≤ 11 → V[k]? = R'[k]?) :
    (∀ k : Nat, 6 ≤ k → k ≤ 11 → ((savR W b (keptL 0 V) y.a).set 15 (b : Int))[k]? = R[k]?) ∧ ((savR W b (keptL 0 V) y.a).set 15 (b : Int))[15]? = some (b : Int) := by
  have hkl : (keptL 0 V).length = 16 := keptL_len _ _ hV
  refine ⟨fun k h6 h11 => ?_, List.getElem?_set_self (by rw [savR_len]; omega)⟩
  rw [List.getElem?_set_ne (by omega)]
  have hm := riseL_mem h.rise
  by_cases hx : ∃ x ∈ y.a, x.k = (k : Int)
  · obtain ⟨x, hx, hk⟩ := hx
    have hin := savR_in (Ws := W) (b := (b : Int)) h.rise (by omega) hkl x hx
    have hw := h.word x hx
    rw [hk, Int.toNat_natCast] at hin hw
    rw [hin, ← hw]
    have hlt : k < R.length := by omega
    rw [List.getElem?_eq_getElem hlt] at hw
    rw [hw, List.getD_eq_getElem?_getD, hw]
    rfl
  · have hno : ∀ x ∈ y.a, x.k ≠ (k : Int) := fun x hxa e => hx ⟨x, hxa, e⟩
    rw [savR_out fun x hxa => ⟨by have := hm x hxa; omega, hno x hxa⟩, keptL_at hV h6 h11, hs k h6 h11]
    exact h.same k h6 h11 hno
end Go.Proofs.Ytpbopehhalicjaa
