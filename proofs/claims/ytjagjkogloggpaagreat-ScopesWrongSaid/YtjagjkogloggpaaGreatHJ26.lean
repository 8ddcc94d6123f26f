/-
  Merged for a claim: T9N, T9O, T9Q.
-/
import Derived.Test.YtjagjkogloggpaaGreatHT9J
import Derived.Test.YtjagjkogloggpaaGreatHT9L
import Derived.Test.YtjagjkogloggpaaGreatHT9M
namespace Go.Proofs.YtjagjkogloggpaaGreat
open Go Go.RowKit

theorem flat_set {α : Type} (K : El α) : ∀ (xs : List α) (j f : Nat) (u : Value) (y : α) (hj : j < xs.length), K.f y = (K.f xs[j]).set f u → f < K.sz → (xs.set j y).flatMap K.f = (xs.flatMap K.f).set (j * K.sz + f) u
  | x :: xs, 0, f, u, y, _, h, hf => by
    have h' : K.f y = (K.f x).set f u := h
    rw [List.set_cons_zero, List.flatMap_cons, List.flatMap_cons, h', Nat.zero_mul, Nat.zero_add, List.set_append_left _ _ (by rw [K.len]; exact hf)]
  | x :: xs, j + 1, f, u, y, hj, h, hf => by
    have hj' : j < xs.length := by simpa using hj
    have e : (j + 1) * K.sz = j * K.sz + K.sz := Nat.succ_mul _ _
    rw [List.set_cons_succ, List.flatMap_cons, List.flatMap_cons, flat_set K xs j f u y hj' h hf, List.set_append_right _ _ (by rw [K.len]; omega), K.len]
    congr 2
    omega
theorem El.Own.setAt {α : Type} {K : El α} {w : World} {B : Nat} {v : Value} {xs : List α} (h : K.Own w B v xs) {g : Nat} (hg : v.ownBlock = some g) {j : Nat} (hj : j < xs.length) {f : Nat} {u : Value} {y : α} (hy : K.f y = (K.f xs[j]).set f u) (hf : f < K.sz) :
    K.Own (w.setCell ⟨g, j * K.sz + f, none⟩ u) B v (xs.set j y) := by
  have hfl := flat_set K xs j f u y hj hy hf
  rcases h.2 with ⟨rfl, _⟩ | ⟨g', cap, cur, rfl, hB, hh, hn, hm, hsz, ht⟩
  · cases hg
  · injection hg with hg
    have hg' : g' = g := hg
    subst hg'
    refine ⟨by rw [El.flat_len], .inr ⟨g', cap, cur.setIfInBounds (j * K.sz + f) u, by rw [List.length_set], hB, ?_, by rw [List.length_set]; exact hn, hm, by rw [Array.size_setIfInBounds]; exact hsz, ?_⟩⟩
    · simp only [World.setCell, Array.getElem?_modify, hh]
      simp
    · rw [hfl, Array.toList_setIfInBounds, List.length_set, ← ht, List.take_set]
theorem El.Own.keptB {α : Type} {K : El α} {w w' : World} {B : Nat} {v : Value} {xs : List α} (h : K.Own w B v xs) (hk : ∀ k, v.ownBlock = some k → w'.heap[k]? = w.heap[k]?) : K.Own w' B v xs := by
  refine ⟨h.1, ?_⟩
  rcases h.2 with h0 | ⟨g, cap, cur, rfl, hg, hh, r⟩
  · exact .inl h0
  · exact .inr ⟨g, cap, cur, rfl, hg, (hk g rfl).trans hh, r⟩

/-- a copied table, laid open -/
structure CpT (w : World) (B : Nat) (v6 : Value) (ps : List Pp) (v7 : Value) (qs : List Pq) : Prop where
  l : eL.Own w B v6 ps
  p : ∀ p ∈ ps, PW w B p
  a : ps.Pairwise bP
  q : eQ.Own w B v7 qs
  s : ∀ q ∈ qs, eI.Own w B (qS q) q.d.sc
  b : qs.Pairwise (fun p q => ∀ k k2, (qS p).ownBlock = some k → (qS q).ownBlock = some k2 → k < k2)
theorem cpT_of {w w2 w3 : World} {B : Nat} {v6 v7 : Value} {ls : List Plc} {l2 : List Pnt} (h : MP w B w.heap.size v6 ls) (hb : Below w.heap.size w w2) (h2 : MQ w2 B w2.heap.size v7 l2) (hb2 : Below w2.heap.size w2 w3) :
    ∃ ps qs, ps.map Pp.d = ls ∧ qs.map Pq.d = l2 ∧ CpT w3 B v6 ps v7 qs := by
  obtain ⟨ps, e, ho, hm, hp⟩ := (h.below hb).below hb2
  obtain ⟨qs, e2, ho2, hm2, hp2⟩ := h2.below hb2
  exact ⟨ps, qs, e, e2, ho, fun p hp => (hm p hp).1, hp, ho2, fun q hq => (hm2 q hq).1, hp2⟩
section
variable {w w' : World} {B : Nat} {v6 v7 : Value} {ps : List Pp} {qs : List Pq} {S : Nat → Prop}
theorem ql_of {q : Pq} (h : eI.Own w B (qS q) q.d.sc) : QL w w.heap.size q := by
  obtain ⟨A2, c2, e2, k1, k2, k3⟩ := h.form
  unfold qS at e2
  injection e2 with q1 _ q3
  unfold QL
  rw [q1, q3]
  exact ⟨k3.lies, k1, k2⟩
theorem CpT.ul (h : CpT w B v6 ps v7 qs) : ∃ A c, v7 = .slice A qs.length c ∧ (A = none → c = 0) ∧ UL w w.heap.size A qs := by
  obtain ⟨A, c, e1, h1, h2, h3⟩ := h.q.form
  exact ⟨A, c, e1, h2, h3.lies, fun q hq => ql_of (h.s q hq)⟩
theorem CpT.tl (h : CpT w B v6 ps v7 qs) : ∃ A c, v6 = .slice A ps.length c ∧ (A = none → c = 0) ∧ TL w w.heap.size A ps := by
  obtain ⟨A, c, e1, h1, h2, h3⟩ := h.l.form
  exact ⟨A, c, e1, h2, h3.lies, fun p hp => (h.p p hp).pl⟩
/-- blocks of the table that keep -/
theorem PW.keep {p : Pp} (h : PW w B p) (hv : ∀ k, (pvS p).ownBlock = some k → w'.heap[k]? = w.heap[k]?) (hs : ∀ k, (psS p).ownBlock = some k → w'.heap[k]? = w.heap[k]?)
    (ht : ∀ k e, HasT w k e → e = 9 ∨ e = 56 ∨ e = 53 → w'.heap[k]? = w.heap[k]?) : PW w' B p :=
  ⟨h.v.keptB hv, fun x hx => ⟨(h.vt x hx).1.kept fun k q => ht k _ q (.inl rfl), (h.vt x hx).2⟩, h.s.keptB hs, fun y hy => (h.st y hy).keep fun k e q he => ht k e q (.inr he)⟩
/-- one place is another -/
theorem CpT.setP (h : CpT w B v6 ps v7 qs) {i : Nat} (hi : i < ps.length) {p' : Pp} (hch : ∀ k, k < w.heap.size → ¬ S k → w'.heap[k]? = w.heap[k]?) (hS : ∀ k, S k → ∃ e, HasT w k e ∧ (e = 51 ∨ (e = 65 ∧ (pvS ps[i]).ownBlock = some k) ∨ (e = 57 ∧ (psS ps[i]).ownBlock = some k)))
    (hrow : eL.Own w' B v6 (ps.set i p')) (hp : PW w' B p') : (∃ A c, v6 = .slice A (ps.set i p').length c ∧ TL w' w'.heap.size A (ps.set i p')) ∧ ∃ A c, v7 = .slice A qs.length c ∧ UL w' w'.heap.size A qs := by
  have hT : ∀ k e, HasT w k e → e ≠ 51 → e ≠ 65 → e ≠ 57 → w'.heap[k]? = w.heap[k]? := fun k e hk h1 h2 h3 => hch k hk.lt fun q => by
    obtain ⟨e2, hk2, hc⟩ := hS k q
    have := hk.one hk2
    rcases hc with hc | hc | hc
    · exact h1 (by rw [this, hc])
    · exact h2 (by rw [this, hc.1])
    · exact h3 (by rw [this, hc.1])
  constructor
  · obtain ⟨A, c, e1, h1, h2, h3⟩ := hrow.form
    refine ⟨A, c, e1, h3.lies, fun p hpm => ?_⟩
    obtain ⟨m, hm, rfl⟩ := List.getElem_of_mem hpm
    by_cases hmi : m = i
    · subst hmi
      rw [List.getElem_set_self]
      exact hp.pl
    · rw [List.getElem_set_ne (fun q => hmi q.symm)]
      have hm' : m < ps.length := by simpa using hm
      have hpw := h.p _ (List.getElem_mem hm')
      have hap := List.pairwise_iff_getElem.1 h.a
      refine (hpw.keep (fun k hk => ?_) (fun k hk => ?_) (fun k e hk he => hT k e hk ?_ ?_ ?_)).pl
      · have hkt := hpw.v.has k hk
        refine hch k hkt.lt fun q => ?_
        obtain ⟨e2, hk2, hc⟩ := hS k q
        have ee := hkt.one hk2
        rcases hc with hc | hc | hc
        · rw [hc] at ee; exact absurd ee (by decide)
        · rcases Nat.lt_or_gt_of_ne hmi with q1 | q1
          · exact Nat.lt_irrefl _ ((hap m i hm' hi q1).1 k k hk hc.2)
          · exact Nat.lt_irrefl _ ((hap i m hi hm' q1).1 k k hc.2 hk)
        · rw [hc.1] at ee; exact absurd ee (by decide)
      · have hkt := hpw.s.has k hk
        refine hch k hkt.lt fun q => ?_
        obtain ⟨e2, hk2, hc⟩ := hS k q
        have ee := hkt.one hk2
        rcases hc with hc | hc | hc
        · rw [hc] at ee; exact absurd ee (by decide)
        · rw [hc.1] at ee; exact absurd ee (by decide)
        · rcases Nat.lt_or_gt_of_ne hmi with q1 | q1
          · exact Nat.lt_irrefl _ ((hap m i hm' hi q1).2 k k hk hc.2)
          · exact Nat.lt_irrefl _ ((hap i m hi hm' q1).2 k k hc.2 hk)
      · rcases he with rfl | rfl | rfl <;> decide
      · rcases he with rfl | rfl | rfl <;> decide
      · rcases he with rfl | rfl | rfl <;> decide
  · have hq : eQ.Own w' B v7 qs := h.q.kept fun k hk => hT k _ hk (by decide) (by decide) (by decide)
    obtain ⟨A, c, e1, h1, h2, h3⟩ := hq.form
    exact ⟨A, c, e1, h3.lies, fun q hqm => ql_of ((h.s q hqm).kept fun k hk => hT k _ hk (by decide) (by decide) (by decide))⟩
/-- one point is another -/
theorem CpT.setQ (h : CpT w B v6 ps v7 qs) {i : Nat} (hi : i < qs.length) {p' : Pq} (hch : ∀ k, k < w.heap.size → ¬ S k → w'.heap[k]? = w.heap[k]?) (hS : ∀ k, S k → ∃ e, HasT w k e ∧ (e = 60 ∨ (e = 3 ∧ (qS qs[i]).ownBlock = some k)))
    (hrow : eQ.Own w' B v7 (qs.set i p')) (hp : eI.Own w' B (qS p') p'.d.sc) : (∃ A c, v6 = .slice A ps.length c ∧ TL w' w'.heap.size A ps) ∧ ∃ A c, v7 = .slice A (qs.set i p').length c ∧ UL w' w'.heap.size A (qs.set i p') := by
  have hT : ∀ k e, HasT w k e → e ≠ 60 → e ≠ 3 → w'.heap[k]? = w.heap[k]? := fun k e hk h1 h2 => hch k hk.lt fun q => by
    obtain ⟨e2, hk2, hc⟩ := hS k q
    have := hk.one hk2
    rcases hc with hc | hc
    · exact h1 (by rw [this, hc])
    · exact h2 (by rw [this, hc.1])
  constructor
  · have hl : eL.Own w' B v6 ps := h.l.kept fun k hk => hT k _ hk (by decide) (by decide)
    obtain ⟨A, c, e1, h1, h2, h3⟩ := hl.form
    exact ⟨A, c, e1, h3.lies, fun p hp => ((h.p p hp).keep (fun k hk => hT k _ ((h.p p hp).v.has k hk) (by decide) (by decide)) (fun k hk => hT k _ ((h.p p hp).s.has k hk) (by decide) (by decide)) (fun k e hk he => hT k e hk (by rcases he with rfl | rfl | rfl <;> decide) (by rcases he with rfl | rfl | rfl <;> decide))).pl⟩
  · obtain ⟨A, c, e1, h1, h2, h3⟩ := hrow.form
    refine ⟨A, c, e1, h3.lies, fun p hpm => ?_⟩
    obtain ⟨m, hm, rfl⟩ := List.getElem_of_mem hpm
    by_cases hmi : m = i
    · subst hmi
      rw [List.getElem_set_self]
      exact ql_of hp
    · rw [List.getElem_set_ne (fun q => hmi q.symm)]
      have hm' : m < qs.length := by simpa using hm
      have hpw := h.s _ (List.getElem_mem hm')
      have hap := List.pairwise_iff_getElem.1 h.b
      refine ql_of (hpw.keptB (fun k hk => ?_))
      have hkt := hpw.has k hk
      refine hch k hkt.lt fun q => ?_
      obtain ⟨e2, hk2, hc⟩ := hS k q
      have ee := hkt.one hk2
      rcases hc with hc | hc
      · rw [hc] at ee; exact absurd ee (by decide)
      · rcases Nat.lt_or_gt_of_ne hmi with q1 | q1
        · exact Nat.lt_irrefl _ (hap m i hm' hi q1 k k hk hc.2)
        · exact Nat.lt_irrefl _ (hap i m hi hm' q1 k k hc.2 hk)
end
/-! what is no longer right -/
theorem not_right_p {ls : List Plc} {qs : List Pnt} {p : Plc} (hp : p ∈ ls) (h : ∀ a, okL a p = false) : right9 ls qs = false := by
  cases e : right9 ls qs with
  | false => rfl
  | true =>
    unfold right9 at e
    rw [Bool.and_eq_true, Bool.and_eq_true] at e
    obtain ⟨a, ha⟩ := okLs_mem e.2.1 p hp
    rw [h a] at ha
    cases ha
theorem not_right_q {ls : List Plc} {qs : List Pnt} {q : Pnt} (hq : q ∈ qs) (h : okQ ls q = false) : right9 ls qs = false := by
  cases e : right9 ls qs with
  | false => rfl
  | true =>
    unfold right9 at e
    rw [Bool.and_eq_true, Bool.and_eq_true] at e
    have := List.all_eq_true.1 e.2.2 q hq
    rw [h] at this
    cases this
theorem okL_hold {a : Int} {p : Plc} (h : holdB p = false) : okL a p = false := by
  unfold okL
  rw [h, Bool.and_false, Bool.and_false]
theorem okL_nm {a : Int} {p : Plc} (h : nameB p.nm = false) : okL a p = false := by
  unfold okL
  rw [h, Bool.false_and, Bool.and_false]
theorem hold_first {nm : List UInt8} {fr tt : Int} {v : Vr} {vs : List Vr} {l : List Sp} {ss : List (List Sp)} (h : vsB fr tt (v, l) = false) : holdB ⟨nm, fr, tt, v :: vs, l :: ss⟩ = false := by
  unfold holdB
  dsimp only
  rw [List.zip_cons_cons, List.all_cons, h, Bool.false_and, Bool.and_false]
theorem var_words {nm : List UInt8} {kd n : Int} {tn : List UInt8} {wd : Int} {fs : List (List UInt8)} (h : varB ⟨nm, kd, n, tn, wd, fs⟩ = true) : varB ⟨nm, kd, n, tn, wd + 1, fs⟩ = false := by
  unfold varB at h ⊢
  rw [Bool.and_eq_true, Bool.and_eq_true] at h
  have h1 := of_decide_eq_true h.2.1
  have e : wordsV ⟨nm, kd, n, tn, wd + 1, fs⟩ = wordsV ⟨nm, kd, n, tn, wd, fs⟩ := rfl
  rw [e, ← h1, decide_eq_false (by dsimp only; omega), Bool.false_and, Bool.and_false]
theorem name_dash (l : List UInt8) : nameB (l ++ [45]) = false := by
  unfold nameB
  rw [List.all_append, show ([45] : List UInt8).all sgB = false by decide, Bool.and_false, Bool.and_false]
theorem rise_last : ∀ {l : List Int} {a most x : Int}, ¬ x < most → riseB most a (l ++ [x]) = false
  | [], a, most, x, h => by
    show (decide (a < x ∧ x < most) && riseB most x []) = false
    rw [decide_eq_false (by omega), Bool.false_and]
  | y :: l, a, most, x, h => by
    show (decide (a < y ∧ y < most) && riseB most y (l ++ [x])) = false
    rw [rise_last h, Bool.and_false]
theorem rise_twice : ∀ {l : List Int} {a most x : Int}, riseB most a ((l ++ [x]) ++ [x]) = false
  | [], a, most, x => by
    show (decide (a < x ∧ x < most) && (decide (x < x ∧ x < most) && riseB most x [])) = false
    rw [decide_eq_false (p := x < x ∧ x < most) (by omega), Bool.false_and, Bool.and_false]
  | y :: l, a, most, x => by
    show (decide (a < y ∧ y < most) && riseB most y ((l ++ [x]) ++ [x])) = false
    rw [rise_twice, Bool.and_false]
end Go.Proofs.YtjagjkogloggpaaGreat

namespace Go.Proofs.YtjagjkogloggpaaGreat
open Go Go.RowKit

theorem El.Own.some_ {α : Type} {K : El α} {w : World} {B : Nat} {v : Value} {xs : List α} (h : K.Own w B v xs) (hl : 0 < xs.length) : ∃ g c, v = .slice (some ⟨g, 0, none⟩) xs.length c ∧ HasT w g K.e ∧ B ≤ g ∧ (∀ j (hj : j < xs.length) f u, (K.f xs[j])[f]? = some u → w.cell? ⟨g, j * K.sz + f, none⟩ = some u) ∧ (∀ o, w.frozen? ⟨g, o, none⟩ = false) ∧ xs.length ≤ c := by
  obtain ⟨A, c, e1, h1, h2, h3⟩ := h.form
  rcases h.2 with ⟨rfl, h0⟩ | ⟨g, cap, cur, rfl, hB, hh, hn, _, _, _⟩
  · omega
  · obtain ⟨g', o', e, _, hc⟩ := h3 hl
    injection e1 with e1 e2 e3
    rw [← e1] at e
    cases e
    refine ⟨g, cap, rfl, ⟨_, _, hh⟩, hB, fun j hj f u hu => by have := hc j hj f u hu; rwa [Nat.zero_add] at this, fun o => ?_, hn⟩
    simp [World.frozen?, hh]
theorem MQ.base {w : World} {B B2 N : Nat} {v : Value} {l : List Pnt} (h : MQ w B2 N v l) (hB : B ≤ B2) : MQ w B N v l := by
  obtain ⟨ps, e, ho, hm, hp⟩ := h
  exact ⟨ps, e, ho.base hB, fun p hp => ⟨(hm p hp).1.base hB, (hm p hp).2⟩, hp⟩
theorem str_dash (l : List UInt8) : str l ++ (⟨#[45]⟩ : ByteArray) = str (l ++ [45]) := by
  simp only [str]
  apply ByteArray.ext
  simp
theorem tab_setP {ps : List Pp} {qs : List Pq} (h : TabP ps qs) {i : Nat} {p' : Pp} (h1 : SmP p') (h2 : ∀ r ∈ p'.ss, ∀ q ∈ r.l, ∀ x ∈ q.a, x.Rng) : TabP (ps.set i p') qs :=
  ⟨⟨fun p hp => by
      rcases List.mem_or_eq_of_mem_set hp with hp | rfl
      · exact h.1.1 p hp
      · exact h1, h.1.2⟩, fun p hp => by
      rcases List.mem_or_eq_of_mem_set hp with hp | rfl
      · exact h.2 p hp
      · exact h2⟩
theorem tab_setQ {ps : List Pp} {qs : List Pq} (h : TabP ps qs) {j : Nat} {q' : Pq} (h1 : q'.d.sc.length ≤ 1099511627776) : TabP ps (qs.set j q') :=
  ⟨⟨h.1.1, fun q hq => by
      rcases List.mem_or_eq_of_mem_set hq with hq | rfl
      · exact h.1.2 q hq
      · exact h1⟩, h.2⟩
/-- it lies, and is not right -/
structure Bad9 (W : World) (A : Option Addr) (n c : Nat) (A2 : Option Addr) (m c2 : Nat) : Prop where
  x : ∃ ps qs, ps.length = n ∧ qs.length = m ∧ TL W W.heap.size A ps ∧ UL W W.heap.size A2 qs ∧ TabP ps qs ∧ right9 (ps.map Pp.d) (qs.map Pq.d) = false
section
variable {W W' : World} {A A2 : Option Addr} {n m c c2 : Nat}
theorem Bad9.next (h : Bad9 W A n c A2 m c2) (hb : Below W.heap.size W W') : Bad9 W' A n c A2 m c2 := by
  obtain ⟨ps, qs, e1, e2, h1, h2, h3, h4⟩ := h.x
  exact ⟨ps, qs, e1, e2, h1.next hb, h2.next hb, h3, h4⟩
theorem Bad9.put (h : Bad9 W A n c A2 m c2) : Calls Tryz.prog 26 #[.slice none 0 0, .slice A n c, .slice A2 m c2] W fun e w' => ∃ A' c', e = .returned (.tuple #[.slice A' 0 c', .int .i64 1]) ∧ Below W.heap.size W w' := by
  obtain ⟨ps, qs, rfl, rfl, h1, h2, h3, h4⟩ := h.x
  refine (put9_any none A A2 0 c c2 [] ps qs W (fun _ => rfl) (Lies.empty _ _ _) (by simp) h1 h2 h3).mono ?_
  rintro e w' ⟨v, rfl, ho, hb⟩
  have e1 : ptB9 [] (ps.map Pp.d) (qs.map Pq.d) = [] := if_neg (by rw [h4]; decide)
  have e2 : ptE9 (ps.map Pp.d) (qs.map Pq.d) = 1 := if_neg (by rw [h4]; decide)
  rw [e1] at ho
  obtain ⟨A', c', rfl, _, _, _⟩ := ho.form
  exact ⟨A', c', by rw [e2]; rfl, hb⟩
theorem Bad9.right (h : Bad9 W A n c A2 m c2) : Calls Tryz.prog 27 #[.slice A n c, .slice A2 m c2] W (BoolR false W) := by
  obtain ⟨ps, qs, rfl, rfl, h1, h2, h3, h4⟩ := h.x
  have := right9_any A A2 c c2 ps qs W h3.1 h1 h2
  rw [h4] at this
  exact this
end
section
variable {w w' : World} {B : Nat} {v6 v7 : Value} {ps : List Pp} {qs : List Pq} {g6 c6 g7 c7 : Nat}
/-- one cell of a point's -/
theorem CpT.cellQ (h : CpT w B v6 ps (.slice (some ⟨g7, 0, none⟩) qs.length c7) qs) (hv : v6 = .slice (some ⟨g6, 0, none⟩) ps.length c6) (ht : TabP ps qs) {j : Nat} (hj : j < qs.length) (u : Value) (q' : Pq) {f : Nat} (hf : f < 3) (hq : (qK q').toList = (qK qs[j]).toList.set f u) (hs : qS q' = qS qs[j] ∧ q'.d.sc = qs[j].d.sc) (hbad : okQ (ps.map Pp.d) q'.d = false) :
    Bad9 (w.setCell ⟨g7, j * 3 + f, none⟩ u) (some ⟨g6, 0, none⟩) ps.length c6 (some ⟨g7, 0, none⟩) qs.length c7 := by
  subst hv
  have hT : HasT w g7 60 := h.q.has g7 rfl
  have hb : ButT 60 w (w.setCell ⟨g7, j * 3 + f, none⟩ u) := ButT.set (p := ⟨g7, j * 3 + f, none⟩) hT u
  obtain ⟨⟨A, c, e1, t1⟩, A2, c2, e2, t2⟩ := h.setQ (S := fun k => k = g7) hj (w' := w.setCell ⟨g7, j * 3 + f, none⟩ u) (p' := q') (fun k _ hne => Below.heap_setCell w _ u k hne) (fun k e => ⟨_, by subst e; exact hT, .inl rfl⟩) (El.Own.setAt (K := eQ) h.q rfl hj hq hf) (by rw [hs.1, hs.2]; exact (h.s _ (List.getElem_mem hj)).but hb (by decide))
  injection e1 with a1 _ _
  injection e2 with a2 _ _
  rw [← a1] at t1
  rw [← a2] at t2
  exact ⟨ps, _, rfl, List.length_set, t1, t2, tab_setQ ht (by rw [hs.2]; exact ht.1.2 _ (List.getElem_mem hj)), not_right_q (q := q'.d) (List.mem_map_of_mem (List.mem_set hj _)) hbad⟩
/-- one cell of a place's -/
theorem CpT.cellP (h : CpT w B (.slice (some ⟨g6, 0, none⟩) ps.length c6) ps v7 qs) (hv : v7 = .slice (some ⟨g7, 0, none⟩) qs.length c7) (ht : TabP ps qs) {i : Nat} (hi : i < ps.length) (u : Value) (p' : Pp) {f : Nat} (hf : f < 5) (hp : (lK p').toList = (lK ps[i]).toList.set f u) (hs : (pvS p' = pvS ps[i] ∧ p'.vs = ps[i].vs) ∧ psS p' = psS ps[i] ∧ p'.ss = ps[i].ss) (hbad : ∀ a, okL a p'.d = false) :
    Bad9 (w.setCell ⟨g6, i * 5 + f, none⟩ u) (some ⟨g6, 0, none⟩) ps.length c6 (some ⟨g7, 0, none⟩) qs.length c7 := by
  subst hv
  have hT : HasT w g6 51 := h.l.has g6 rfl
  have hb : ButT 51 w (w.setCell ⟨g6, i * 5 + f, none⟩ u) := ButT.set (p := ⟨g6, i * 5 + f, none⟩) hT u
  have hpw := (h.p _ (List.getElem_mem hi)).but hb (by decide) (by decide) (by decide) (by decide) (by decide)
  have hpw' : PW (w.setCell ⟨g6, i * 5 + f, none⟩ u) B p' := ⟨by rw [hs.1.1, hs.1.2]; exact hpw.v, by rw [hs.1.2]; exact hpw.vt, by rw [hs.2.1, hs.2.2]; exact hpw.s, by rw [hs.2.2]; exact hpw.st⟩
  obtain ⟨⟨A, c, e1, t1⟩, A2, c2, e2, t2⟩ := h.setP (S := fun k => k = g6) hi (w' := w.setCell ⟨g6, i * 5 + f, none⟩ u) (p' := p') (fun k _ hne => Below.heap_setCell w _ u k hne) (fun k e => ⟨_, by subst e; exact hT, .inl rfl⟩) (El.Own.setAt (K := eL) h.l rfl hi hp hf) hpw'
  injection e1 with a1 _ _
  injection e2 with a2 _ _
  rw [← a1] at t1
  rw [← a2] at t2
  exact ⟨_, qs, List.length_set, rfl, t1, t2, tab_setP ht (by intro r hr; rw [hs.2.2] at hr; exact ht.1.1 _ (List.getElem_mem hi) r hr) (by rw [hs.2.2]; exact ht.2 _ (List.getElem_mem hi)), not_right_p (p := p'.d) (List.mem_map_of_mem (List.mem_set hi _)) hbad⟩
end
end Go.Proofs.YtjagjkogloggpaaGreat

namespace Go.Proofs.YtjagjkogloggpaaGreat
open Go Go.RowKit

theorem flat_same {α : Type} (K : El α) : ∀ (xs : List α) (j : Nat) (y : α) (hj : j < xs.length), K.f y = K.f xs[j] → (xs.set j y).flatMap K.f = xs.flatMap K.f
  | x :: xs, 0, y, _, h => by
    have h' : K.f y = K.f x := h
    rw [List.set_cons_zero, List.flatMap_cons, List.flatMap_cons, h']
  | x :: xs, j + 1, y, hj, h => by
    rw [List.set_cons_succ, List.flatMap_cons, List.flatMap_cons, flat_same K xs j y (by simpa using hj) h]
theorem El.Own.same {α : Type} {K : El α} {w : World} {B : Nat} {v : Value} {xs : List α} (h : K.Own w B v xs) {j : Nat} {y : α} (hj : j < xs.length) (hy : K.f y = K.f xs[j]) : K.Own w B v (xs.set j y) := by
  unfold El.Own at h ⊢
  rw [flat_same K xs j y hj hy, List.length_set]
  exact h
theorem right_place {ls : List Plc} {qs : List Pnt} (h : right9 ls qs = true) {p : Plc} (hp : p ∈ ls) : p.fr < p.tt ∧ 0 ≤ p.tt ∧ p.tt ≤ 16777216 ∧ nameB p.nm = true ∧ p.ss.length = p.vs.length ∧ p.vs.length ≤ 64 ∧ ∀ v ∈ p.vs, varB v = true := by
  unfold right9 at h
  rw [Bool.and_eq_true, Bool.and_eq_true] at h
  have key : ∀ {l : List Plc} {a : Int}, 0 ≤ a → okLs a l = true → ∀ p ∈ l, ∃ a', 0 ≤ a' ∧ okL a' p = true := by
    intro l
    induction l with
    | nil => intro a _ _ p hp; cases hp
    | cons q l ih =>
      intro a h0 h p hp
      have h' : (okL a q && okLs q.tt l) = true := h
      rw [Bool.and_eq_true] at h'
      rcases List.mem_cons.1 hp with rfl | hp
      · exact ⟨a, h0, h'.1⟩
      · refine ih ?_ h'.2 p hp
        have h1 := h'.1
        unfold okL at h1
        rw [Bool.and_eq_true] at h1
        have := of_decide_eq_true h1.1
        omega
  obtain ⟨a, h0, ha⟩ := key (Int.le_refl 0) h.2.1 p hp
  have ha2 := okLs_each h.2.1 p hp
  unfold okL at ha
  rw [Bool.and_eq_true, Bool.and_eq_true] at ha
  have h1 := of_decide_eq_true ha.1
  have h2 := ha.2.2
  unfold holdB at h2
  rw [Bool.and_eq_true] at h2
  have h3 := of_decide_eq_true h2.1
  exact ⟨h1.2.1, by omega, h1.2.2, ha.2.1, h3.2, h3.1, ha2.2⟩
theorem words_16 {v : Vr} (h : varB v = true) : 0 ≤ v.wd ∧ v.wd ≤ 16 := by
  obtain ⟨nm, kd, n, tn, wd, fs⟩ := v
  unfold varB at h
  rw [Bool.and_eq_true, Bool.and_eq_true] at h
  have h1 := of_decide_eq_true h.2.1
  have hk := h.2.2
  unfold wordsV at h1
  unfold kindB at hk
  show 0 ≤ wd ∧ wd ≤ 16
  (try dsimp only at h1)
  (try dsimp only at hk)
  split at hk
  · rw [if_neg (by omega), if_neg (by omega)] at h1; omega
  · split at hk
    · rename_i q
      rw [Bool.and_eq_true] at hk
      have := of_decide_eq_true hk.2
      (try dsimp only at this)
      rw [if_pos q] at h1; omega
    · split at hk
      · rename_i q3 q
        rw [Bool.and_eq_true, Bool.and_eq_true] at hk
        have hf := hk.2.2
        unfold fldB at hf
        rw [Bool.and_eq_true] at hf
        have := of_decide_eq_true hf.1
        rw [if_neg q3, if_pos q] at h1; omega
      · cases hk
section
variable {w w' Z : World} {B : Nat} {ps : List Pp} {qs : List Pq} {g6 c6 g7 c7 : Nat}
theorem CpT.below {v6 v7 : Value} (h : CpT w B v6 ps v7 qs) (hb : Below w.heap.size w w') : CpT w' B v6 ps v7 qs :=
  ⟨h.l.below hb, fun p hp => (h.p p hp).below hb, h.a, h.q.below hb, fun q hq => (h.s q hq).below hb, h.b⟩
theorem bad_of {i : Nat} {p' : Pp} (ht : TabP ps qs) (hi : i < ps.length) (h1 : SmP p') (h2 : ∀ r ∈ p'.ss, ∀ q ∈ r.l, ∀ x ∈ q.a, x.Rng) (hbad : ∀ a, okL a p'.d = false)
    (h : (∃ A c, (.slice (some ⟨g6, 0, none⟩) ps.length c6 : Value) = .slice A (ps.set i p').length c ∧ TL w' w'.heap.size A (ps.set i p')) ∧ ∃ A c, (.slice (some ⟨g7, 0, none⟩) qs.length c7 : Value) = .slice A qs.length c ∧ UL w' w'.heap.size A qs) :
    Bad9 w' (some ⟨g6, 0, none⟩) ps.length c6 (some ⟨g7, 0, none⟩) qs.length c7 := by
  obtain ⟨⟨A, c, e1, t1⟩, A2, c2, e2, t2⟩ := h
  injection e1 with a1 _ _
  injection e2 with a2 _ _
  rw [← a1] at t1
  rw [← a2] at t2
  exact ⟨_, qs, List.length_set, rfl, t1, t2, tab_setP ht h1 h2, not_right_p (p := p'.d) (List.mem_map_of_mem (List.mem_set hi _)) hbad⟩
theorem own_frz {α : Type} {K : El α} {v : Value} {xs : List α} (h : K.Own w B v xs) {g : Nat} (hg : v.ownBlock = some g) (o : Nat) : w.frozen? ⟨g, o, none⟩ = false := by
  rcases h.2 with ⟨rfl, _⟩ | ⟨g', cap, cur, rfl, _, hh, _⟩
  · cases hg
  · injection hg with hg
    have hg' : g' = g := hg
    subst hg'
    simp [World.frozen?, hh]
theorem own_cell {α : Type} {K : El α} {v : Value} {xs : List α} (h : K.Own w B v xs) {g : Nat} (hg : v.ownBlock = some g) {j : Nat} (hj : j < xs.length) {f : Nat} {u : Value} (hu : (K.f xs[j])[f]? = some u) : w.cell? ⟨g, j * K.sz + f, none⟩ = some u := by
  obtain ⟨g', c, rfl, _, _, hc, _, _⟩ := h.some_ (by omega)
  injection hg with hg
  have hg' : g' = g := hg
  subst hg'
  exact hc j hj f u hu
theorem el_oneT {α : Type} (K : El α) (g : Nat) (x : α) (h : w.heap[g]? = some (.cells (K.f x).toArray K.e (0, 0))) : K.LiesT w (some ⟨g, 0, none⟩) [x] := fun _ => by
  refine ⟨g, 0, rfl, ⟨_, _, h⟩, fun j hj f u hu => ?_⟩
  obtain rfl : j = 0 := by simp at hj; omega
  simp only [World.cell?, h]
  simpa using hu
/-- a variable's words -/
theorem CpT.words (h : CpT w B (.slice (some ⟨g6, 0, none⟩) ps.length c6) ps (.slice (some ⟨g7, 0, none⟩) qs.length c7) qs) (ht : TabP ps qs) (hr : right9 (ps.map Pp.d) (qs.map Pq.d) = true) {i : Nat} (hi : i < ps.length) {gv : Nat} {x : Pv} {vs : List Pv} (hv : ps[i].vs = x :: vs) (hg : (pvS ps[i]).ownBlock = some gv) :
    Bad9 (w.setCell ⟨gv, 4, none⟩ (.int .i64 (x.d.wd + 1))) (some ⟨g6, 0, none⟩) ps.length c6 (some ⟨g7, 0, none⟩) qs.length c7 := by
  obtain ⟨f1, f2, f3, f4, f5, f6, f7⟩ := right_place hr (List.mem_map_of_mem (List.getElem_mem hi))
  have hpw := h.p _ (List.getElem_mem hi)
  have h1 := ht.1.1 _ (List.getElem_mem hi)
  have h2 := ht.2 _ (List.getElem_mem hi)
  have hK : ∀ y : Pp, y.nm = ps[i].nm → y.fr = ps[i].fr → y.tt = ps[i].tt → pvS y = pvS ps[i] → psS y = psS ps[i] → eL.f y = eL.f ps[i] := fun y a b c d e => by
    simp only [eL, lK]
    unfold pvS at d
    unfold psS at e
    rw [a, b, c, d, e]
  obtain ⟨y, hy⟩ : ∃ y : Pp, y = ⟨ps[i].nm, ps[i].fr, ps[i].tt, ⟨⟨x.d.nm, x.d.kd, x.d.n, x.d.tn, x.d.wd + 1, x.d.fs⟩, x.A, x.c⟩ :: vs, ps[i].vA, ps[i].vc, ps[i].ss, ps[i].sA, ps[i].sc⟩ := ⟨_, rfl⟩
  have hT : HasT w gv 65 := hpw.v.has gv hg
  have hb : ButT 65 w (w.setCell ⟨gv, 4, none⟩ (.int .i64 (x.d.wd + 1))) := ButT.set (p := ⟨gv, 4, none⟩) hT _
  have hvs : pvS y = pvS ps[i] := by rw [hy]; unfold pvS; rw [hv]; rfl
  have hset : eV.Own (w.setCell ⟨gv, 4, none⟩ (.int .i64 (x.d.wd + 1))) B (pvS y) y.vs := by
    have := El.Own.setAt (K := eV) hpw.v hg (j := 0) (by rw [hv]; simp) (f := 4) (u := .int .i64 (x.d.wd + 1)) (y := ⟨⟨x.d.nm, x.d.kd, x.d.n, x.d.tn, x.d.wd + 1, x.d.fs⟩, x.A, x.c⟩) (by simp only [hv]; rfl) (by decide)
    rw [hvs, hy]
    simp only [hv] at this
    exact this
  refine bad_of (p' := y) ht hi (by rw [hy]; exact h1) (by rw [hy]; exact h2) (fun a => okL_hold ?_) (h.setP (S := fun k => k = gv) hi (fun k _ hne => Below.heap_setCell w _ _ k hne) (fun k e => ⟨_, by subst e; exact hT, .inr (.inl ⟨rfl, by rw [e]; exact hg⟩)⟩) ((h.l.but hb (by decide)).same hi (hK y (by rw [hy]) (by rw [hy]) (by rw [hy]) hvs (by rw [hy]; rfl))) ⟨hset, fun z hz => ?_, by rw [show psS y = psS ps[i] by rw [hy]; rfl, show y.ss = ps[i].ss by rw [hy]]; exact hpw.s.but hb (by decide), by rw [show y.ss = ps[i].ss by rw [hy]]; exact fun z hz => (hpw.st z hz).but hb (by decide) (by decide)⟩)
  · have hl : ps[i].ss.length = ps[i].vs.length := by simpa [Pp.d] using f5
    rw [hv, List.length_cons] at hl
    cases hss : ps[i].ss with
    | nil => rw [hss] at hl; simp at hl
    | cons r rs =>
      have e : y.d = ⟨ps[i].nm, ps[i].fr, ps[i].tt, ⟨x.d.nm, x.d.kd, x.d.n, x.d.tn, x.d.wd + 1, x.d.fs⟩ :: vs.map Pv.d, r.d :: rs.map Rs.d⟩ := by rw [hy]; simp only [Pp.d, hss, List.map_cons]
      rw [e]
      refine hold_first ?_
      unfold vsB
      have hx : varB x.d = true := f7 x.d (by simp only [Pp.d, hv, List.map_cons]; exact List.mem_cons_self)
      rw [show varB (⟨x.d.nm, x.d.kd, x.d.n, x.d.tn, x.d.wd + 1, x.d.fs⟩ : Vr) = false from var_words hx, Bool.false_and]
  · have hz' : z ∈ (⟨⟨x.d.nm, x.d.kd, x.d.n, x.d.tn, x.d.wd + 1, x.d.fs⟩, x.A, x.c⟩ : Pv) :: vs := by rw [hy] at hz; exact hz
    rcases List.mem_cons.1 hz' with rfl | hz'
    · have := (hpw.vt x (by rw [hv]; exact List.mem_cons_self)).but hb (by decide)
      exact this
    · exact (hpw.vt z (by rw [hv]; exact List.mem_cons_of_mem _ hz')).but hb (by decide)
/-- a list of spans -/
theorem CpT.span0 (h : CpT w B (.slice (some ⟨g6, 0, none⟩) ps.length c6) ps (.slice (some ⟨g7, 0, none⟩) qs.length c7) qs) (ht : TabP ps qs) (hr : right9 (ps.map Pp.d) (qs.map Pq.d) = true) {i : Nat} (hi : i < ps.length) {gs : Nat} {x : Rs} {ss : List Rs} (hv : ps[i].ss = x :: ss) (hg : (psS ps[i]).ownBlock = some gs) (r : Rs) (hrt : RT w r) (hrl : r.l.map Ps.sp = [⟨ps[i].tt - 1, ps[i].tt + 1, [⟨1, 0⟩]⟩]) :
    Bad9 (w.setCell ⟨gs, 0, none⟩ (rV r)) (some ⟨g6, 0, none⟩) ps.length c6 (some ⟨g7, 0, none⟩) qs.length c7 := by
  obtain ⟨f1, f2, f3, f4, f5, f6, f7⟩ := right_place hr (List.mem_map_of_mem (List.getElem_mem hi))
  have hpw := h.p _ (List.getElem_mem hi)
  have h1 := ht.1.1 _ (List.getElem_mem hi)
  have h2 := ht.2 _ (List.getElem_mem hi)
  obtain ⟨y, hy⟩ : ∃ y : Pp, y = ⟨ps[i].nm, ps[i].fr, ps[i].tt, ps[i].vs, ps[i].vA, ps[i].vc, r :: ss, ps[i].sA, ps[i].sc⟩ := ⟨_, rfl⟩
  have hT : HasT w gs 57 := hpw.s.has gs hg
  have hb : ButT 57 w (w.setCell ⟨gs, 0, none⟩ (rV r)) := ButT.set (p := ⟨gs, 0, none⟩) hT _
  have hvs : psS y = psS ps[i] := by rw [hy]; unfold psS; rw [hv]; rfl
  have hset : eR.Own (w.setCell ⟨gs, 0, none⟩ (rV r)) B (psS y) y.ss := by
    have := El.Own.setAt (K := eR) hpw.s hg (j := 0) (by rw [hv]; simp) (f := 0) (u := rV r) (y := r) (by simp only [hv]; rfl) (by decide)
    rw [hvs, hy]
    simp only [hv] at this
    exact this
  have hK : eL.f y = eL.f ps[i] := by
    rw [hy]
    simp only [eL, lK, hv, List.length_cons]
  have hone : r.l.length = 1 := by have := congrArg List.length hrl; simpa using this
  have hrsp : ∀ q ∈ r.l, q.sp = ⟨ps[i].tt - 1, ps[i].tt + 1, [⟨1, 0⟩]⟩ := fun q hq => by
    have : q.sp ∈ r.l.map Ps.sp := List.mem_map_of_mem hq
    rw [hrl, List.mem_singleton] at this
    exact this
  refine bad_of (p' := y) ht hi (fun z hz => ?_) (fun z hz => ?_) (fun a => okL_hold ?_) (h.setP (S := fun k => k = gs) hi (fun k _ hne => Below.heap_setCell w _ _ k hne) (fun k e => ⟨_, by subst e; exact hT, .inr (.inr ⟨rfl, by rw [e]; exact hg⟩)⟩) ((h.l.but hb (by decide)).same hi hK) ⟨?_, ?_, hset, fun z hz => ?_⟩)
  · have hz' : z ∈ r :: ss := by rw [hy] at hz; exact hz
    rcases List.mem_cons.1 hz' with rfl | hz'
    · refine ⟨by omega, fun q hq => ?_⟩
      have e : q.a = [⟨1, 0⟩] := congrArg Sp.a (hrsp q hq)
      rw [e]; simp
    · exact h1 z (by rw [hv]; exact List.mem_cons_of_mem _ hz')
  · have hz' : z ∈ r :: ss := by rw [hy] at hz; exact hz
    rcases List.mem_cons.1 hz' with rfl | hz'
    · intro q hq x hx
      have e : q.a = [⟨1, 0⟩] := congrArg Sp.a (hrsp q hq)
      rw [e, List.mem_singleton] at hx
      subst hx
      exact ⟨⟨by decide, by decide⟩, by decide, by decide⟩
    · exact h2 z (by rw [hv]; exact List.mem_cons_of_mem _ hz')
  · have hl : ps[i].ss.length = ps[i].vs.length := by simpa [Pp.d] using f5
    rw [hv, List.length_cons] at hl
    cases hss : ps[i].vs with
    | nil => rw [hss] at hl; simp at hl
    | cons v vs =>
      have e : y.d = ⟨ps[i].nm, ps[i].fr, ps[i].tt, v.d :: vs.map Pv.d, r.d :: ss.map Rs.d⟩ := by rw [hy]; simp only [Pp.d, hss, List.map_cons]
      rw [e]
      refine hold_first ?_
      unfold vsB
      have e2 : r.d = [⟨ps[i].tt - 1, ps[i].tt + 1, [⟨1, 0⟩]⟩] := hrl
      rw [e2]
      have : ([⟨ps[i].tt - 1, ps[i].tt + 1, [⟨1, 0⟩]⟩] : List Sp).any (outB ps[i].fr ps[i].tt) = true := by
        simp only [List.any_cons, List.any_nil, Bool.or_false, outB]
        rw [decide_eq_true (p := ps[i].tt < ps[i].tt + 1) (by omega), Bool.or_true]
      rw [this]
      simp
  · rw [show pvS y = pvS ps[i] by rw [hy]; rfl, show y.vs = ps[i].vs by rw [hy]]
    exact hpw.v.but hb (by decide)
  · rw [show y.vs = ps[i].vs by rw [hy]]
    exact fun z hz => (hpw.vt z hz).but hb (by decide)
  · have hz' : z ∈ r :: ss := by rw [hy] at hz; exact hz
    rcases List.mem_cons.1 hz' with rfl | hz'
    · exact hrt.but hb (by decide) (by decide)
    · exact (hpw.st z (by rw [hv]; exact List.mem_cons_of_mem _ hz')).but hb (by decide) (by decide)
/-- one list of spans more -/
theorem CpT.more (h : CpT w B (.slice (some ⟨g6, 0, none⟩) ps.length c6) ps (.slice (some ⟨g7, 0, none⟩) qs.length c7) qs) (ht : TabP ps qs) (hr : right9 (ps.map Pp.d) (qs.map Pq.d) = true) {i : Nat} (hi : i < ps.length) {A9 : Option Addr} {c9 : Nat} (ho : eR.Own Z B (.slice A9 (ps[i].ss.length + 1) c9) (ps[i].ss ++ [⟨[], none, 0⟩])) (hg : w.grownBy Z (psS ps[i]).ownBlock) :
    Bad9 (Z.setCell ⟨g6, i * 5 + 4, none⟩ (.slice A9 (ps[i].ss.length + 1) c9)) (some ⟨g6, 0, none⟩) ps.length c6 (some ⟨g7, 0, none⟩) qs.length c7 := by
  obtain ⟨f1, f2, f3, f4, f5, f6, f7⟩ := right_place hr (List.mem_map_of_mem (List.getElem_mem hi))
  have hpw := h.p _ (List.getElem_mem hi)
  have h1 := ht.1.1 _ (List.getElem_mem hi)
  have h2 := ht.2 _ (List.getElem_mem hi)
  obtain ⟨y, hy⟩ : ∃ y : Pp, y = ⟨ps[i].nm, ps[i].fr, ps[i].tt, ps[i].vs, ps[i].vA, ps[i].vc, ps[i].ss ++ [⟨[], none, 0⟩], A9, c9⟩ := ⟨_, rfl⟩
  have hb : ButT 57 w Z := ButT.grown hg (fun k e => hpw.s.has k e)
  have hT : HasT w g6 51 := h.l.has g6 rfl
  have hTZ : HasT Z g6 51 := hT.same (hb g6 _ hT (by decide))
  have hs : ButT 51 Z (Z.setCell ⟨g6, i * 5 + 4, none⟩ (.slice A9 (ps[i].ss.length + 1) c9)) := ButT.set (p := ⟨g6, i * 5 + 4, none⟩) hTZ _
  have hrow := El.Own.setAt (K := eL) (h.l.but hb (by decide)) rfl hi (f := 4) (u := .slice A9 (ps[i].ss.length + 1) c9) (y := y) (by rw [hy]; simp only [eL, lK, List.length_append, List.length_singleton]; rfl) (by decide)
  refine bad_of (p' := y) ht hi (fun z hz => ?_) (fun z hz => ?_) (fun a => okL_hold ?_) (h.setP (S := fun k => k = g6 ∨ (psS ps[i]).ownBlock = some k) hi (fun k hk hne => ?_) (fun k e => ?_) hrow ⟨?_, ?_, ?_, fun z hz => ?_⟩)
  · have hz' : z ∈ ps[i].ss ++ [⟨[], none, 0⟩] := by rw [hy] at hz; exact hz
    rcases List.mem_append.1 hz' with hz' | hz'
    · exact h1 z hz'
    · rw [List.mem_singleton.1 hz']; exact ⟨by simp, fun q hq => absurd hq (by simp)⟩
  · have hz' : z ∈ ps[i].ss ++ [⟨[], none, 0⟩] := by rw [hy] at hz; exact hz
    rcases List.mem_append.1 hz' with hz' | hz'
    · exact h2 z hz'
    · rw [List.mem_singleton.1 hz']; exact fun q hq => absurd hq (by simp)
  · have hl : ps[i].ss.length = ps[i].vs.length := by simpa [Pp.d] using f5
    unfold holdB
    rw [decide_eq_false (by rw [hy]; simp only [Pp.d, List.length_map, List.length_append, List.length_singleton]; omega), Bool.false_and]
  · refine (Below.heap_setCell Z _ _ k (fun q => hne (.inl q))).trans (hg.block k hk fun q => hne (.inr q.symm))
  · rcases e with rfl | e
    · exact ⟨_, hT, .inl rfl⟩
    · exact ⟨_, hpw.s.has k e, .inr (.inr ⟨rfl, e⟩)⟩
  · rw [show pvS y = pvS ps[i] by rw [hy]; rfl, show y.vs = ps[i].vs by rw [hy]]
    exact (hpw.v.but hb (by decide)).but hs (by decide)
  · rw [show y.vs = ps[i].vs by rw [hy]]
    exact fun z hz => ((hpw.vt z hz).but hb (by decide)).but hs (by decide)
  · rw [show psS y = .slice A9 (ps[i].ss.length + 1) c9 by rw [hy]; unfold psS; simp, show y.ss = ps[i].ss ++ [⟨[], none, 0⟩] by rw [hy]]
    exact ho.but hs (by decide)
  · have hz' : z ∈ ps[i].ss ++ [⟨[], none, 0⟩] := by rw [hy] at hz; exact hz
    rcases List.mem_append.1 hz' with hz' | hz'
    · exact ((hpw.st z hz').but hb (by decide) (by decide)).but hs (by decide) (by decide)
    · rw [List.mem_singleton.1 hz']
      exact ⟨⟨El.LiesT.nil _ _, fun q hq => absurd hq (by simp)⟩, by simp, by simp⟩
/-- one variable more in a scope -/
theorem CpT.scope (h : CpT w B (.slice (some ⟨g6, 0, none⟩) ps.length c6) ps (.slice (some ⟨g7, 0, none⟩) qs.length c7) qs) (ht : TabP ps qs) {j : Nat} (hj : j < qs.length) {A9 : Option Addr} {c9 : Nat} {x : Int} (ho : eI.Own Z B (.slice A9 (qs[j].d.sc.length + 1) c9) (qs[j].d.sc ++ [x])) (hg : w.grownBy Z (qS qs[j]).ownBlock) (hn : qs[j].d.sc.length ≤ 1000000) (hbad : okQ (ps.map Pp.d) ⟨qs[j].d.fn, qs[j].d.ln, qs[j].d.sc ++ [x]⟩ = false) :
    Bad9 (Z.setCell ⟨g7, j * 3 + 2, none⟩ (.slice A9 (qs[j].d.sc.length + 1) c9)) (some ⟨g6, 0, none⟩) ps.length c6 (some ⟨g7, 0, none⟩) qs.length c7 := by
  have hpw := h.s _ (List.getElem_mem hj)
  obtain ⟨y, hy⟩ : ∃ y : Pq, y = ⟨⟨qs[j].d.fn, qs[j].d.ln, qs[j].d.sc ++ [x]⟩, A9, c9⟩ := ⟨_, rfl⟩
  have hb : ButT 3 w Z := ButT.grown hg (fun k e => hpw.has k e)
  have hT : HasT w g7 60 := h.q.has g7 rfl
  have hTZ : HasT Z g7 60 := hT.same (hb g7 _ hT (by decide))
  have hs : ButT 60 Z (Z.setCell ⟨g7, j * 3 + 2, none⟩ (.slice A9 (qs[j].d.sc.length + 1) c9)) := ButT.set (p := ⟨g7, j * 3 + 2, none⟩) hTZ _
  have hrow := El.Own.setAt (K := eQ) (h.q.but hb (by decide)) rfl hj (f := 2) (u := .slice A9 (qs[j].d.sc.length + 1) c9) (y := y) (by rw [hy]; simp only [eQ, qK, List.length_append, List.length_singleton]; rfl) (by decide)
  obtain ⟨⟨A, c, e1, t1⟩, A2, c2, e2, t2⟩ := h.setQ (S := fun k => k = g7 ∨ (qS qs[j]).ownBlock = some k) hj (w' := Z.setCell ⟨g7, j * 3 + 2, none⟩ (.slice A9 (qs[j].d.sc.length + 1) c9)) (p' := y) (fun k hk hne => (Below.heap_setCell Z _ _ k (fun q => hne (.inl q))).trans (hg.block k hk fun q => hne (.inr q.symm))) (fun k e => by
    rcases e with rfl | e
    · exact ⟨_, hT, .inl rfl⟩
    · exact ⟨_, hpw.has k e, .inr ⟨rfl, e⟩⟩) hrow (by
    rw [show qS y = .slice A9 (qs[j].d.sc.length + 1) c9 by rw [hy]; unfold qS; simp, show y.d.sc = qs[j].d.sc ++ [x] by rw [hy]]
    exact ho.but hs (by decide))
  injection e1 with a1 _ _
  injection e2 with a2 _ _
  rw [← a1] at t1
  rw [← a2] at t2
  exact ⟨ps, _, rfl, List.length_set, t1, t2, tab_setQ ht (by rw [hy]; simp; omega), not_right_q (q := y.d) (List.mem_map_of_mem (List.mem_set hj _)) (by rw [hy]; exact hbad)⟩
end
end Go.Proofs.YtjagjkogloggpaaGreat
