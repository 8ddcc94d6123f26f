/-
  Spans that were put are got; what is got was put.
-/
import Derived.Test.YtggofdahnbchjaaL7S
namespace Go.Proofs.Ytggofdahnbchjaa
open Go Go.RowKit

theorem got_own {l : List Lc} (hr : rightC l = true) (hx : ∀ x ∈ l, x.Rng) (a r : List UInt8) : gotO (a ++ ownC l ++ r) a.length = some (l, a.length + (ownC l).length) := by
  have hlen := right_len hr
  have hd : (a ++ ownC l ++ r).drop a.length = nB false l.length ++ (l.flatMap encL ++ r) := by
    rw [List.append_assoc, List.drop_left]
    unfold ownC
    rw [List.append_assoc]
  obtain ⟨g1, g2, g3⟩ := good_put (b := false) (x := (l.length : Int)) (r := (a ++ ownC l ++ r).drop a.length) (by simp only [rng, Bool.false_eq_true, if_false]; omega) (by rw [hd]; exact List.prefix_append _ _)
  have hd2 : (a ++ ownC l ++ r).drop (a.length + size false l.length) = l.flatMap encL ++ r := by
    rw [← List.drop_drop, hd, ← nB_len false, List.drop_left]
  rw [gotO_of (k0 := a.length + size false l.length) (M := l.length) g1 g2 hlen (by rw [g3]), hd2, rdM_enc l r (fun x h => ⟨hx x h, (right_mem hr x h).2⟩)]
  simp only [Option.bind_some, hr, if_true]
  unfold ownC
  rw [List.length_append, nB_len, Nat.add_assoc]
theorem okS_iff {q : Int × Sp} : okS q = true ↔ q.1 ≤ q.2.f ∧ q.2.f < q.2.t ∧ q.2.t ≤ 16777216 ∧ 0 < q.2.a.length ∧ rightC q.2.a = true := by
  unfold okS
  rw [Bool.and_eq_true, Bool.and_eq_true, Bool.and_eq_true, Bool.and_eq_true]
  exact ⟨fun ⟨a, b, c, d, e⟩ => ⟨of_decide_eq_true a, of_decide_eq_true b, of_decide_eq_true c, of_decide_eq_true d, e⟩, fun ⟨a, b, c, d, e⟩ => ⟨decide_eq_true a, decide_eq_true b, decide_eq_true c, decide_eq_true d, e⟩⟩
theorem num7_enc {x : Nat} (hx : x ≤ 16777216) (a r : List UInt8) : num7 (a ++ nB false x ++ r) a.length = some (x, a.length + (nB false x).length) := by
  have hd : (a ++ nB false x ++ r).drop a.length = nB false x ++ r := by rw [List.append_assoc, List.drop_left]
  obtain ⟨g1, g2, g3⟩ := good_put (b := false) (x := (x : Int)) (r := nB false x ++ r) (by simp only [rng, Bool.false_eq_true, if_false]; omega) (List.prefix_append _ _)
  unfold num7
  rw [hd, if_pos ⟨g1, by rw [g2]; omega⟩, g2, g3, nB_len, Int.toNat_natCast]
theorem rdS_enc {last : Int} {q : Sp} (h : okS (last, q) = true) (h0 : 0 ≤ last) (hx : ∀ x ∈ q.a, x.Rng) (a r : List UInt8) : rdS (a ++ encS (last, q) ++ r) a.length last = some (q, a.length + (encS (last, q)).length) := by
  obtain ⟨h1, h2, h3, h4, h5⟩ := okS_iff.1 h
  dsimp only at h1 h2 h3 h4 h5
  obtain ⟨F, hF⟩ : ∃ F : Nat, q.f - last = F := ⟨(q.f - last).toNat, by omega⟩
  obtain ⟨T, hT⟩ : ∃ T : Nat, q.t - q.f = T := ⟨(q.t - q.f).toNat, by omega⟩
  have e : encS (last, q) = nB false F ++ (nB false T ++ ownC q.a) := by unfold encS; dsimp only; rw [hF, hT]
  rw [e]
  have e1 : a ++ (nB false F ++ (nB false T ++ ownC q.a)) ++ r = a ++ nB false F ++ (nB false T ++ ownC q.a ++ r) := by simp only [List.append_assoc]
  have e2 : a ++ (nB false F ++ (nB false T ++ ownC q.a)) ++ r = (a ++ nB false F) ++ nB false T ++ (ownC q.a ++ r) := by simp only [List.append_assoc]
  have e3 : a ++ (nB false F ++ (nB false T ++ ownC q.a)) ++ r = ((a ++ nB false F) ++ nB false T) ++ ownC q.a ++ r := by simp only [List.append_assoc]
  have n1 := num7_enc (x := F) (by omega) a (nB false T ++ ownC q.a ++ r)
  have n2 := num7_enc (x := T) (by omega) (a ++ nB false F) (ownC q.a ++ r)
  have n3 := got_own h5 hx ((a ++ nB false F) ++ nB false T) r
  rw [← e1] at n1
  rw [← e2, List.length_append] at n2
  rw [← e3, List.length_append, List.length_append] at n3
  rw [rdS_3 n1 n2, n3]
  obtain ⟨qf, qt, qa⟩ := q
  dsimp only at hF hT
  simp only [Option.map_some, Option.some.injEq, Prod.mk.injEq, Sp.mk.injEq, List.length_append]
  exact ⟨⟨by omega, by omega, trivial⟩, by omega⟩
theorem run_enc (b r : List UInt8) (k0 : Nat) : ∀ (ys pre : List Sp) (last : Int) (a : List UInt8) (j : Nat), runS b k0 j = some (pre, a.length, last) → b = a ++ ((last :: ys.map Sp.t).zip ys).flatMap encS ++ r →
    (∀ q ∈ (last :: ys.map Sp.t).zip ys, okS q = true) → 0 ≤ last → (∀ y ∈ ys, ∀ x ∈ y.a, x.Rng) →
    ∃ last', runS b k0 (j + ys.length) = some (pre ++ ys, a.length + (((last :: ys.map Sp.t).zip ys).flatMap encS).length, last')
  | [], pre, last, a, j, h, _, _, _, _ => ⟨last, by simpa using h⟩
  | y :: ys, pre, last, a, j, h, hb, ho, h0, hx => by
    have hz : ((last :: (y :: ys).map Sp.t).zip (y :: ys)) = (last, y) :: (y.t :: ys.map Sp.t).zip ys := rfl
    rw [hz] at hb ho ⊢
    rw [List.flatMap_cons] at hb ⊢
    have hy := ho (last, y) List.mem_cons_self
    have h1 := rdS_enc hy h0 (hx y List.mem_cons_self) a (((y.t :: ys.map Sp.t).zip ys).flatMap encS ++ r)
    have hb1 : a ++ encS (last, y) ++ (((y.t :: ys.map Sp.t).zip ys).flatMap encS ++ r) = b := by rw [hb]; simp only [List.append_assoc]
    rw [hb1] at h1
    have h2 := runS_succ h h1
    rw [← List.length_append] at h2
    obtain ⟨hy1, hy2, _⟩ := okS_iff.1 hy
    dsimp only at hy1 hy2
    obtain ⟨last', hl⟩ := run_enc b r k0 ys (pre ++ [y]) y.t (a ++ encS (last, y)) (j + 1) h2 (by rw [← hb1]; simp only [List.append_assoc]) (fun q hq => ho q (List.mem_cons_of_mem _ hq)) (by omega) (fun z hz => hx z (List.mem_cons_of_mem _ hz))
    refine ⟨last', ?_⟩
    rw [List.length_cons, show j + (ys.length + 1) = j + 1 + ys.length by omega, hl]
    simp only [List.append_assoc, List.length_append, Nat.add_assoc, List.singleton_append]
theorem got_putS {xs : List Sp} (hr : rightL xs = true) (hx : ∀ y ∈ xs, ∀ x ∈ y.a, x.Rng) (a r : List UInt8) : gotS (a ++ ownS xs ++ r) a.length = some (xs, a.length + (ownS xs).length) := by
  have hr' := hr
  unfold rightL at hr'
  rw [Bool.and_eq_true] at hr'
  have hlen := of_decide_eq_true hr'.1
  have hd : (a ++ ownS xs ++ r).drop a.length = nB false xs.length ++ ((prS xs).flatMap encS ++ r) := by
    rw [List.append_assoc, List.drop_left]
    unfold ownS
    rw [List.append_assoc]
  obtain ⟨g1, g2, g3⟩ := good_put (b := false) (x := (xs.length : Int)) (r := (a ++ ownS xs ++ r).drop a.length) (by simp only [rng, Bool.false_eq_true, if_false]; omega) (by rw [hd]; exact List.prefix_append _ _)
  obtain ⟨last, hl⟩ := run_enc (a ++ ownS xs ++ r) r (a.length + size false xs.length) xs [] 0 (a ++ nB false xs.length) 0 (by rw [List.length_append, nB_len]; rfl) (by unfold ownS prS; simp only [List.append_assoc]) (List.all_eq_true.1 hr'.2) (by omega) hx
  rw [Nat.zero_add, List.nil_append] at hl
  rw [gotS_of (k0 := a.length + size false xs.length) (M := xs.length) g1 g2 hlen (by rw [g3]), gotS_end hl, if_pos hr]
  unfold ownS prS
  rw [List.length_append, List.length_append, Nat.add_assoc]
def endT : Int → List Sp → Int
  | l, [] => l
  | _, y :: ys => endT y.t ys
theorem endT_snoc (x : Sp) : ∀ (xs : List Sp) (l : Int), endT l (xs ++ [x]) = x.t
  | [], _ => rfl
  | y :: ys, _ => endT_snoc x ys y.t
theorem zip_snoc (x : Sp) : ∀ (xs : List Sp) (l : Int), (l :: (xs ++ [x]).map Sp.t).zip (xs ++ [x]) = (l :: xs.map Sp.t).zip xs ++ [(endT l xs, x)]
  | [], _ => rfl
  | y :: ys, l => congrArg (List.cons (l, y)) (zip_snoc x ys y.t)
theorem prS_snoc (xs : List Sp) (x : Sp) : prS (xs ++ [x]) = prS xs ++ [(endT 0 xs, x)] := zip_snoc x xs 0
theorem runS_take {b : List UInt8} {k0 : Nat} (hk : k0 ≤ b.length) : ∀ {j k : Nat} {ls : List Sp} {last : Int}, runS b k0 j = some (ls, k, last) → (b.drop k0).take (k - k0) = (prS ls).flatMap encS ∧ last = endT 0 ls
  | 0, k, ls, last, h => by
    simp only [runS, Option.some.injEq, Prod.mk.injEq] at h
    obtain ⟨rfl, rfl, rfl⟩ := h
    exact ⟨by rw [Nat.sub_self]; rfl, rfl⟩
  | j + 1, k, ls, last, h => by
    rw [runS] at h
    cases h1 : runS b k0 j with
    | none => rw [h1] at h; cases h
    | some s =>
      obtain ⟨ls', k', last'⟩ := s
      rw [h1] at h
      simp only [Option.bind_some] at h
      cases h2 : rdS b k' last' with
      | none => rw [h2] at h; cases h
      | some q =>
        obtain ⟨x, n⟩ := q
        rw [h2] at h
        simp only [Option.map_some, Option.some.injEq, Prod.mk.injEq] at h
        obtain ⟨rfl, rfl, rfl⟩ := h
        obtain ⟨a1, _⟩ := runS_has hk h1
        obtain ⟨i1, i2⟩ := runS_take hk h1
        obtain ⟨_, _, _, _, b5, _, _, _, _, b10⟩ := rdS_has h2
        refine ⟨?_, (endT_snoc x ls' 0).symm⟩
        rw [prS_snoc, List.flatMap_append, List.flatMap_singleton, ← i1, ← i2, ← b10]
        rw [show n - k0 = (k' - k0) + (n - k') by omega, List.take_add, List.drop_drop, show k0 + (k' - k0) = k' by omega]
theorem gotS_has {b : List UInt8} {k n : Nat} {ls : List Sp} (h : gotS b k = some (ls, n)) : rightL ls = true ∧ (∀ y ∈ ls, ∀ x ∈ y.a, x.Rng) ∧ k + 1 ≤ n ∧ n ≤ b.length ∧ (b.drop k).take (n - k) = ownS ls := by
  unfold gotS at h
  split at h
  · rename_i hg
    obtain ⟨g1, g2, _, _⟩ := lg_has 10 (b.drop k) hg.1.1
    have g0 := hg.1.1
    simp at g2
    have hr0 := hv_rng hg.1
    simp only [rng, Bool.false_eq_true, if_false] at hr0
    cases h1 : runS b (k + lg (b.drop k) 10) (hv false (b.drop k)).toNat with
    | none => rw [h1] at h; cases h
    | some s =>
      obtain ⟨ls', k', last'⟩ := s
      rw [h1] at h
      simp only [Option.bind_some] at h
      split at h
      · rename_i hr
        simp only [Option.some.injEq, Prod.mk.injEq] at h
        obtain ⟨rfl, rfl⟩ := h
        have hk0 : k + lg (b.drop k) 10 ≤ b.length := by omega
        obtain ⟨a1, a2, a3, _, _, a6⟩ := runS_has hk0 h1
        obtain ⟨i1, _⟩ := runS_take hk0 h1
        refine ⟨hr, fun y hy => (a6 y hy).2, by omega, a2, ?_⟩
        unfold ownS
        rw [← i1, show k' - k = lg (b.drop k) 10 + (k' - (k + lg (b.drop k) 10)) by omega, List.take_add, List.drop_drop, good_take hg.1, show ((ls'.length : Nat) : Int) = hv false (b.drop k) by omega]
      · cases h
  · cases h
theorem Lies.take7 {w : World} {B : Nat} {A : Option Addr} {l : List UInt8} (h : Lies w B A l) (n : Nat) : Lies w B A (l.take n) := fun hl => by
  have hl' : 0 < l.length := by simp at hl; omega
  obtain ⟨g, o, e, hg, hc⟩ := h hl'
  refine ⟨g, o, e, hg, fun j hj => ?_⟩
  have hj' : j < l.length := by simp at hj; omega
  rw [hc j hj']
  simp
theorem copyB7_n (A : Option Addr) (n c : Nat) (l : List UInt8) (w : World) (hl : l.length = n) (hn : n ≤ 1099511627776) (h : Lies w w.heap.size A l) :
    Calls Try.prog 29 #[.slice A n c] w (Made w l) := by subst hl; exact copyBytes_any A c l w hn h
theorem eqB7_n (A A2 : Option Addr) (c c2 B B2 n n2 : Nat) (l : List UInt8) (w : World) (hl : l.length = n) (hl2 : l.length = n2) (hn : n ≤ 1099511627776) (h : Lies w B A l) (h2 : Lies w B2 A2 l) :
    Calls Try.prog 14 #[.slice A n c, .slice A2 n2 c2] w fun e w' => e = .returned (.bool true) ∧ w = w' := by
  have := eqBytes_same A A2 c c2 l w B B2 (by omega) h h2
  subst hl; subst hl2; exact this
theorem get7_n (A : Option Addr) (n c : Nat) (b : List UInt8) (i : Int) (w : World) (hb : b.length = n) (hn : n ≤ 1099511627776) (h : Lies w w.heap.size A b) :
    Calls Try.prog 20 #[.slice A n c, .int .i64 i] w (GetR7 b i w) := by subst hb; exact get7_any A c b i w hn h
theorem rng_sp {ps : List Ps} {xs : List Sp} (e : ps.map Ps.sp = xs) (h : ∀ y ∈ xs, ∀ x ∈ y.a, x.Rng) : ∀ p ∈ ps, ∀ x ∈ p.a, x.Rng := fun p hp => h p.sp (by rw [← e]; exact List.mem_map_of_mem hp)
theorem sp_rng {ps : List Ps} (h : ∀ p ∈ ps, ∀ x ∈ p.a, x.Rng) : ∀ y ∈ ps.map Ps.sp, ∀ x ∈ y.a, x.Rng := fun y hy => by
  obtain ⟨p, hp, rfl⟩ := List.mem_map.1 hy
  exact h p hp
theorem Few.of_sp {ps qs : List Ps} (h : Few ps) (e : qs.map Ps.sp = ps.map Ps.sp) : Few qs := by
  have hl : qs.length = ps.length := by have := congrArg List.length e; simpa using this
  refine ⟨by rw [hl]; exact h.1, fun q hq => ?_⟩
  have : q.sp ∈ ps.map Ps.sp := by rw [← e]; exact List.mem_map_of_mem hq
  obtain ⟨p, hp, e2⟩ := List.mem_map.1 this
  have h2 := h.2 p hp
  have e3 : p.a = q.a := congrArg Sp.a e2
  rw [← e3]
  exact h2
end Go.Proofs.Ytggofdahnbchjaa
