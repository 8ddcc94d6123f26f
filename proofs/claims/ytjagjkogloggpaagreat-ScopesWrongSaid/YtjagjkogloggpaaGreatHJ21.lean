/-
  Merged for a claim: T7U, T9K.
-/
import Derived.Test.YtjagjkogloggpaaGreatHJ20
import Derived.Test.YtjagjkogloggpaaGreatHJ8
import Derived.Test.YtjagjkogloggpaaGreatHT9A
namespace Go.Proofs.YtjagjkogloggpaaGreat
open Go Go.RowKit

theorem got_own {l : List Lc} (hr : rightC l = true) (hx : ∀ x ∈ l, x.Rng) (a r : List UInt8) : gotO (a ++ ownC l ++ r) a.length = some (l, a.length + (ownC l).length) := by
  have hlen := right_len hr
  have hd : (a ++ ownC l ++ r).drop a.length = nB false l.length ++ (l.flatMap encL ++ r) := by
    rw [List.append_assoc, List.drop_left]
    unfold ownC
    rw [List.append_assoc]
  obtain ⟨g1, g2, g3⟩ := good_put (b := false) (x := (l.length : Int)) (r := (a ++ ownC l ++ r).drop a.length) (by simp only [rng, Bool.false_eq_true, if_false]; omega) (by rw [hd]; exact List.prefix_append _ _)
  have hd2 : (a ++ ownC l ++ r).drop (a.length + size false l.length) = l.flatMap encL ++ r := by
    rw [← List.drop_drop, hd, ← nB_len false, List.drop_left]
  rw [gotO_of (k0 := a.length + size false l.length) (M := l.length) g1 g2 hlen (by rw [g3]), hd2, rdM_enc l r (fun x h => ⟨hx x h, (right_mem hr x h).2⟩)]
  simp only [Option.bind_some, hr, if_true]
  unfold ownC
  rw [List.length_append, nB_len, Nat.add_assoc]
theorem okS_iff {q : Int × Sp} : okS q = true ↔ q.1 ≤ q.2.f ∧ q.2.f < q.2.t ∧ q.2.t ≤ 16777216 ∧ 0 < q.2.a.length ∧ rightC q.2.a = true := by
  unfold okS
  rw [Bool.and_eq_true, Bool.and_eq_true, Bool.and_eq_true, Bool.and_eq_true]
  exact ⟨fun ⟨a, b, c, d, e⟩ => ⟨of_decide_eq_true a, of_decide_eq_true b, of_decide_eq_true c, of_decide_eq_true d, e⟩, fun ⟨a, b, c, d, e⟩ => ⟨decide_eq_true a, decide_eq_true b, decide_eq_true c, decide_eq_true d, e⟩⟩
theorem num7_enc {x : Nat} (hx : x ≤ 16777216) (a r : List UInt8) : num7 (a ++ nB false x ++ r) a.length = some (x, a.length + (nB false x).length) := by
  have hd : (a ++ nB false x ++ r).drop a.length = nB false x ++ r := by rw [List.append_assoc, List.drop_left]
  obtain ⟨g1, g2, g3⟩ := good_put (b := false) (x := (x : Int)) (r := nB false x ++ r) (by simp only [rng, Bool.false_eq_true, if_false]; omega) (List.prefix_append _ _)
  unfold num7
  rw [hd, if_pos ⟨g1, by rw [g2]; omega⟩, g2, g3, nB_len, Int.toNat_natCast]
theorem rdS_enc {last : Int} {q : Sp} (h : okS (last, q) = true) (h0 : 0 ≤ last) (hx : ∀ x ∈ q.a, x.Rng) (a r : List UInt8) : rdS (a ++ encS (last, q) ++ r) a.length last = some (q, a.length + (encS (last, q)).length) := by
  obtain ⟨h1, h2, h3, h4, h5⟩ := okS_iff.1 h
  dsimp only at h1 h2 h3 h4 h5
  obtain ⟨F, hF⟩ : ∃ F : Nat, q.f - last = F := ⟨(q.f - last).toNat, by omega⟩
  obtain ⟨T, hT⟩ : ∃ T : Nat, q.t - q.f = T := ⟨(q.t - q.f).toNat, by omega⟩
  have e : encS (last, q) = nB false F ++ (nB false T ++ ownC q.a) := by unfold encS; dsimp only; rw [hF, hT]
  rw [e]
  have e1 : a ++ (nB false F ++ (nB false T ++ ownC q.a)) ++ r = a ++ nB false F ++ (nB false T ++ ownC q.a ++ r) := by simp only [List.append_assoc]
  have e2 : a ++ (nB false F ++ (nB false T ++ ownC q.a)) ++ r = (a ++ nB false F) ++ nB false T ++ (ownC q.a ++ r) := by simp only [List.append_assoc]
  have e3 : a ++ (nB false F ++ (nB false T ++ ownC q.a)) ++ r = ((a ++ nB false F) ++ nB false T) ++ ownC q.a ++ r := by simp only [List.append_assoc]
  have n1 := num7_enc (x := F) (by omega) a (nB false T ++ ownC q.a ++ r)
  have n2 := num7_enc (x := T) (by omega) (a ++ nB false F) (ownC q.a ++ r)
  have n3 := got_own h5 hx ((a ++ nB false F) ++ nB false T) r
  rw [← e1] at n1
  rw [← e2, List.length_append] at n2
  rw [← e3, List.length_append, List.length_append] at n3
  rw [rdS_3 n1 n2, n3]
  obtain ⟨qf, qt, qa⟩ := q
  dsimp only at hF hT
  simp only [Option.map_some, Option.some.injEq, Prod.mk.injEq, Sp.mk.injEq, List.length_append]
  exact ⟨⟨by omega, by omega, trivial⟩, by omega⟩
theorem run_enc (b r : List UInt8) (k0 : Nat) : ∀ (ys pre : List Sp) (last : Int) (a : List UInt8) (j : Nat), runS b k0 j = some (pre, a.length, last) → b = a ++ ((last :: ys.map Sp.t).zip ys).flatMap encS ++ r →
    (∀ q ∈ (last :: ys.map Sp.t).zip ys, okS q = true) → 0 ≤ last → (∀ y ∈ ys, ∀ x ∈ y.a, x.Rng) →
    ∃ last', runS b k0 (j + ys.length) = some (pre ++ ys, a.length + (((last :: ys.map Sp.t).zip ys).flatMap encS).length, last')
  | [], pre, last, a, j, h, _, _, _, _ => ⟨last, by simpa using h⟩
  | y :: ys, pre, last, a, j, h, hb, ho, h0, hx => by
    have hz : ((last :: (y :: ys).map Sp.t).zip (y :: ys)) = (last, y) :: (y.t :: ys.map Sp.t).zip ys := rfl
    rw [hz] at hb ho ⊢
    rw [List.flatMap_cons] at hb ⊢
    have hy := ho (last, y) List.mem_cons_self
    have h1 := rdS_enc hy h0 (hx y List.mem_cons_self) a (((y.t :: ys.map Sp.t).zip ys).flatMap encS ++ r)
    have hb1 : a ++ encS (last, y) ++ (((y.t :: ys.map Sp.t).zip ys).flatMap encS ++ r) = b := by rw [hb]; simp only [List.append_assoc]
    rw [hb1] at h1
    have h2 := runS_succ h h1
    rw [← List.length_append] at h2
    obtain ⟨hy1, hy2, _⟩ := okS_iff.1 hy
    dsimp only at hy1 hy2
    obtain ⟨last', hl⟩ := run_enc b r k0 ys (pre ++ [y]) y.t (a ++ encS (last, y)) (j + 1) h2 (by rw [← hb1]; simp only [List.append_assoc]) (fun q hq => ho q (List.mem_cons_of_mem _ hq)) (by omega) (fun z hz => hx z (List.mem_cons_of_mem _ hz))
    refine ⟨last', ?_⟩
    rw [List.length_cons, show j + (ys.length + 1) = j + 1 + ys.length by omega, hl]
    simp only [List.append_assoc, List.length_append, Nat.add_assoc, List.singleton_append]
theorem got_putS {xs : List Sp} (hr : rightL xs = true) (hx : ∀ y ∈ xs, ∀ x ∈ y.a, x.Rng) (a r : List UInt8) : gotS (a ++ ownS xs ++ r) a.length = some (xs, a.length + (ownS xs).length) := by
  have hr' := hr
  unfold rightL at hr'
  rw [Bool.and_eq_true] at hr'
  have hlen := of_decide_eq_true hr'.1
  have hd : (a ++ ownS xs ++ r).drop a.length = nB false xs.length ++ ((prS xs).flatMap encS ++ r) := by
    rw [List.append_assoc, List.drop_left]
    unfold ownS
    rw [List.append_assoc]
  obtain ⟨g1, g2, g3⟩ := good_put (b := false) (x := (xs.length : Int)) (r := (a ++ ownS xs ++ r).drop a.length) (by simp only [rng, Bool.false_eq_true, if_false]; omega) (by rw [hd]; exact List.prefix_append _ _)
  obtain ⟨last, hl⟩ := run_enc (a ++ ownS xs ++ r) r (a.length + size false xs.length) xs [] 0 (a ++ nB false xs.length) 0 (by rw [List.length_append, nB_len]; rfl) (by unfold ownS prS; simp only [List.append_assoc]) (List.all_eq_true.1 hr'.2) (by omega) hx
  rw [Nat.zero_add, List.nil_append] at hl
  rw [gotS_of (k0 := a.length + size false xs.length) (M := xs.length) g1 g2 hlen (by rw [g3]), gotS_end hl, if_pos hr]
  unfold ownS prS
  rw [List.length_append, List.length_append, Nat.add_assoc]
def endT : Int → List Sp → Int
  | l, [] => l
  | _, y :: ys => endT y.t ys
theorem endT_snoc (x : Sp) : ∀ (xs : List Sp) (l : Int), endT l (xs ++ [x]) = x.t
  | [], _ => rfl
  | y :: ys, _ => endT_snoc x ys y.t
theorem zip_snoc (x : Sp) : ∀ (xs : List Sp) (l : Int), (l :: (xs ++ [x]).map Sp.t).zip (xs ++ [x]) = (l :: xs.map Sp.t).zip xs ++ [(endT l xs, x)]
  | [], _ => rfl
  | y :: ys, l => congrArg (List.cons (l, y)) (zip_snoc x ys y.t)
theorem prS_snoc (xs : List Sp) (x : Sp) : prS (xs ++ [x]) = prS xs ++ [(endT 0 xs, x)] := zip_snoc x xs 0
theorem runS_take {b : List UInt8} {k0 : Nat} (hk : k0 ≤ b.length) : ∀ {j k : Nat} {ls : List Sp} {last : Int}, runS b k0 j = some (ls, k, last) → (b.drop k0).take (k - k0) = (prS ls).flatMap encS ∧ last = endT 0 ls
  | 0, k, ls, last, h => by
    simp only [runS, Option.some.injEq, Prod.mk.injEq] at h
    obtain ⟨rfl, rfl, rfl⟩ := h
    exact ⟨by rw [Nat.sub_self]; rfl, rfl⟩
  | j + 1, k, ls, last, h => by
    rw [runS] at h
    cases h1 : runS b k0 j with
    | none => rw [h1] at h; cases h
    | some s =>
      obtain ⟨ls', k', last'⟩ := s
      rw [h1] at h
      simp only [Option.bind_some] at h
      cases h2 : rdS b k' last' with
      | none => rw [h2] at h; cases h
      | some q =>
        obtain ⟨x, n⟩ := q
        rw [h2] at h
        simp only [Option.map_some, Option.some.injEq, Prod.mk.injEq] at h
        obtain ⟨rfl, rfl, rfl⟩ := h
        obtain ⟨a1, _⟩ := runS_has hk h1
        obtain ⟨i1, i2⟩ := runS_take hk h1
        obtain ⟨_, _, _, _, b5, _, _, _, _, b10⟩ := rdS_has h2
        refine ⟨?_, (endT_snoc x ls' 0).symm⟩
        rw [prS_snoc, List.flatMap_append, List.flatMap_singleton, ← i1, ← i2, ← b10]
        rw [show n - k0 = (k' - k0) + (n - k') by omega, List.take_add, List.drop_drop, show k0 + (k' - k0) = k' by omega]
theorem gotS_has {b : List UInt8} {k n : Nat} {ls : List Sp} (h : gotS b k = some (ls, n)) : rightL ls = true ∧ (∀ y ∈ ls, ∀ x ∈ y.a, x.Rng) ∧ k + 1 ≤ n ∧ n ≤ b.length ∧ (b.drop k).take (n - k) = ownS ls := by
  unfold gotS at h
  split at h
  · rename_i hg
    obtain ⟨g1, g2, _, _⟩ := lg_has 10 (b.drop k) hg.1.1
    have g0 := hg.1.1
    simp at g2
    have hr0 := hv_rng hg.1
    simp only [rng, Bool.false_eq_true, if_false] at hr0
    cases h1 : runS b (k + lg (b.drop k) 10) (hv false (b.drop k)).toNat with
    | none => rw [h1] at h; cases h
    | some s =>
      obtain ⟨ls', k', last'⟩ := s
      rw [h1] at h
      simp only [Option.bind_some] at h
      split at h
      · rename_i hr
        simp only [Option.some.injEq, Prod.mk.injEq] at h
        obtain ⟨rfl, rfl⟩ := h
        have hk0 : k + lg (b.drop k) 10 ≤ b.length := by omega
        obtain ⟨a1, a2, a3, _, _, a6⟩ := runS_has hk0 h1
        obtain ⟨i1, _⟩ := runS_take hk0 h1
        refine ⟨hr, fun y hy => (a6 y hy).2, by omega, a2, ?_⟩
        unfold ownS
        rw [← i1, show k' - k = lg (b.drop k) 10 + (k' - (k + lg (b.drop k) 10)) by omega, List.take_add, List.drop_drop, good_take hg.1, show ((ls'.length : Nat) : Int) = hv false (b.drop k) by omega]
      · cases h
  · cases h
theorem Lies.take7 {w : World} {B : Nat} {A : Option Addr} {l : List UInt8} (h : Lies w B A l) (n : Nat) : Lies w B A (l.take n) := fun hl => by
  have hl' : 0 < l.length := by simp at hl; omega
  obtain ⟨g, o, e, hg, hc⟩ := h hl'
  refine ⟨g, o, e, hg, fun j hj => ?_⟩
  have hj' : j < l.length := by simp at hj; omega
  rw [hc j hj']
  simp
theorem copyB7_n (A : Option Addr) (n c : Nat) (l : List UInt8) (w : World) (hl : l.length = n) (hn : n ≤ 1099511627776) (h : Lies w w.heap.size A l) :
    Calls Tryz.prog 28 #[.slice A n c] w (Made w l) := by subst hl; exact copyBytes_any A c l w hn h
theorem eqB7_n (A A2 : Option Addr) (c c2 B B2 n n2 : Nat) (l : List UInt8) (w : World) (hl : l.length = n) (hl2 : l.length = n2) (hn : n ≤ 1099511627776) (h : Lies w B A l) (h2 : Lies w B2 A2 l) :
    Calls Tryz.prog 29 #[.slice A n c, .slice A2 n2 c2] w fun e w' => e = .returned (.bool true) ∧ w = w' := by
  have := eqBytes_same A A2 c c2 l w B B2 (by omega) h h2
  subst hl; subst hl2; exact this
end Go.Proofs.YtjagjkogloggpaaGreat

namespace Go.Proofs.YtjagjkogloggpaaGreat
open Go Go.RowKit

def Sd (b : List UInt8) (i : Nat) (l : List UInt8) : Prop := ∃ a r, b = a ++ l ++ r ∧ a.length = i
def rs (i : Nat) : RS := ⟨(i : Int), false⟩
section
variable {b l l1 l2 : List UInt8} {i : Nat}
theorem Sd.le (h : Sd b i l) : i + l.length ≤ b.length := by
  obtain ⟨a, r, rfl, rfl⟩ := h
  simp only [List.length_append]; omega
theorem Sd.drop (h : Sd b i l) : ∃ r, b.drop i = l ++ r := by
  obtain ⟨a, r, rfl, rfl⟩ := h
  exact ⟨r, by rw [List.append_assoc, List.drop_left]⟩
theorem sd_of (hi : i ≤ b.length) (r : List UInt8) (h : b.drop i = l ++ r) : Sd b i l :=
  ⟨b.take i, r, by rw [List.append_assoc, ← h, List.take_append_drop], by rw [List.length_take]; omega⟩
theorem Sd.nil (hi : i ≤ b.length) : Sd b i [] := sd_of hi _ rfl
theorem Sd.app : Sd b i (l1 ++ l2) ↔ Sd b i l1 ∧ Sd b (i + l1.length) l2 := by
  constructor
  · rintro ⟨a, r, rfl, rfl⟩
    exact ⟨⟨a, l2 ++ r, by simp only [List.append_assoc], rfl⟩, ⟨a ++ l1, r, by simp only [List.append_assoc], by rw [List.length_append]⟩⟩
  · rintro ⟨⟨a, r, h1, h2⟩, ⟨a', r', h3, h4⟩⟩
    have h5 : (a ++ l1) ++ r = a' ++ (l2 ++ r') := by rw [← h1, h3, List.append_assoc]
    obtain ⟨h6, h7⟩ := List.append_inj h5 (by rw [List.length_append]; omega)
    exact ⟨a, r', by rw [h1, h7]; simp only [List.append_assoc], h2⟩
end
/-- these bytes are read from the one state to the other -/
def Tr (b : List UInt8) (s : RS) (l : List UInt8) (s' : RS) : Prop := s.no = false ∧ s'.no = false ∧ ∃ i : Nat, s.at_ = i ∧ Sd b i l ∧ s'.at_ = ((i + l.length : Nat) : Int)
def Vd (b : List UInt8) (s : RS) : Prop := ∃ i : Nat, s.at_ = i ∧ i ≤ b.length
section
variable {b l l1 l2 : List UInt8} {s s1 s2 : RS}
theorem Tr.trans (h : Tr b s l1 s1) (h2 : Tr b s1 l2 s2) : Tr b s (l1 ++ l2) s2 := by
  obtain ⟨n1, _, i, e1, d1, f1⟩ := h
  obtain ⟨_, n2, j, e2, d2, f2⟩ := h2
  have : j = i + l1.length := by omega
  subst this
  exact ⟨n1, n2, i, e1, Sd.app.2 ⟨d1, d2⟩, by rw [f2, List.length_append, Nat.add_assoc]⟩
theorem Tr.vd (h : Tr b s l s1) : Vd b s1 := by
  obtain ⟨_, _, i, _, d, f⟩ := h
  exact ⟨_, f, d.le⟩
theorem Tr.nil (hv : Vd b s) (hn : s.no = false) : Tr b s [] s := by
  obtain ⟨i, e, hi⟩ := hv
  exact ⟨hn, hn, i, e, Sd.nil hi, e⟩
theorem nm_has (hv : Vd b s) (h : (nmS b s).no = false) : Tr b s (nB false (nmX b s)) (nmS b s) := by
  obtain ⟨h1, h2, _, h4, h5⟩ := nm_yes h
  obtain ⟨k, e, hk⟩ := hv
  rw [h4, h5]
  rw [e] at h2 ⊢
  by_cases hg : good false (b.drop k)
  · obtain ⟨_, r2, r3⟩ := rd_ok hk hg
    obtain ⟨_, g2, _, _⟩ := lg_has 10 (b.drop k) hg.1
    have ht := good_take hg
    have hl : (nB false (hv false (b.drop k))).length = lg (b.drop k) 10 := by rw [← ht, List.length_take]; omega
    refine ⟨h1, rfl, k, e, sd_of hk ((b.drop k).drop (lg (b.drop k) 10)) (by rw [r2, ← ht, List.take_append_drop]), ?_⟩
    rw [r2, hl]
    show rdN false b k = _
    rw [r3]
    omega
  · have := (rd_form hk hg).1
    omega
theorem tx_yes (h : (txT b s).no = false) : s.no = false ∧ txE b s.at_ = 0 ∧ txX b s = txS b s.at_ ∧ txT b s = ⟨txN b s.at_, false⟩ := by
  unfold txT at h
  split at h
  · rename_i q; rw [q] at h; cases h
  · rename_i q
    unfold tkS at h
    split at h
    · rename_i q2
      exact ⟨no_f q, q2, by unfold txX; rw [if_neg q, if_pos q2], by unfold txT tkS; rw [if_neg q, if_pos q2]⟩
    · cases h
theorem stV_yes {n : Nat} {k : Nat} {m : Int} (h : stV n k m = 0) : (k : Int) + m ≤ n := by
  unfold stV at h
  split at h
  · omega
  · split at h <;> omega
theorem stV_ok {n : Nat} {k : Nat} {m : Int} (h0 : 0 ≤ m) (h : (k : Int) + m ≤ n) : stV n k m = 0 := by
  unfold stV
  rw [if_neg (by omega), if_neg (by omega)]
theorem txE_yes {k : Nat} (h : txE b k = 0) : k + 1 + szT b k ≤ b.length := by
  unfold txE at h
  split at h
  · rename_i q
    have := stV_yes q
    have h2 := stV_yes (k := k + 1) (by rw [Int.natCast_add]; exact h)
    omega
  · contradiction
theorem tx_has (hv : Vd b s) (h : (txT b s).no = false) : Tr b s (txB (txX b s)) (txT b s) ∧ (txX b s).length ≤ 255 := by
  obtain ⟨h1, h2, h3, h4⟩ := tx_yes h
  obtain ⟨k, e, hk⟩ := hv
  rw [h3, h4, e]
  rw [e] at h2
  have hle := txE_yes h2
  have hb : k < b.length := by omega
  have hsz : szT b k = b[k].toNat := by unfold szT; rw [Int.toNat_natCast, List.getD_eq_getElem?_getD, List.getElem?_eq_getElem hb]; rfl
  have hS : txS b k = (b.drop (k + 1)).take (szT b k) := by unfold txS; rw [if_pos h2, Int.toNat_natCast]
  have hN : txN b k = k + 1 + szT b k := by unfold txN; rw [if_pos h2]
  have hl : (txS b k).length = szT b k := by rw [hS, List.length_take, List.length_drop]; omega
  have h255 : szT b k < 256 := by rw [hsz]; exact b[k].toNat_lt
  refine ⟨⟨h1, rfl, k, e, sd_of hk ((b.drop (k + 1)).drop (szT b k)) ?_, ?_⟩, by omega⟩
  · unfold txB
    rw [List.cons_append, hS, List.take_append_drop, ← hS, hl, List.drop_eq_getElem_cons hb, hsz, UInt8.ofNat_toNat]
  · show txN b k = _
    rw [hN]
    unfold txB
    rw [List.length_cons, hl]
    omega
theorem ox_yes (h : (oxS b s).no = false) : s.no = false ∧ stV b.length s.at_ 1 = 0 ∧ oxX b s = oneX b s.at_ ∧ oxS b s = ⟨oneN b s.at_, false⟩ := by
  unfold oxS at h
  split at h
  · rename_i q; rw [q] at h; cases h
  · rename_i q
    unfold tkS at h
    split at h
    · rename_i q2
      exact ⟨no_f q, q2, by unfold oxX; rw [if_neg q, if_pos q2], by unfold oxS tkS; rw [if_neg q, if_pos q2]⟩
    · cases h
theorem ox_has (hv : Vd b s) (h : (oxS b s).no = false) : Tr b s [UInt8.ofNat (oxX b s).toNat] (oxS b s) := by
  obtain ⟨h1, h2, h3, h4⟩ := ox_yes h
  obtain ⟨k, e, hk⟩ := hv
  rw [h3, h4, e]
  rw [e] at h2
  have hle := stV_yes h2
  have hb : k < b.length := by omega
  have hX : oneX b k = b[k].toNat := by unfold oneX; rw [if_pos h2, Int.toNat_natCast, List.getD_eq_getElem?_getD, List.getElem?_eq_getElem hb]; rfl
  have hN : oneN b k = k + 1 := by unfold oneN; rw [if_pos h2]
  refine ⟨h1, rfl, k, e, sd_of hk (b.drop (k + 1)) ?_, ?_⟩
  · rw [hX, Int.toNat_natCast, UInt8.ofNat_toNat, List.drop_eq_getElem_cons hb]; rfl
  · show oneN b k = _
    rw [hN]
    simp
theorem sp_has (hv : Vd b s) (h : (spS b s).no = false) : Tr b s (ownS (spX b s)) (spS b s) ∧ rightL (spX b s) = true ∧ ∀ y ∈ spX b s, ∀ x ∈ y.a, x.Rng := by
  have h0 := sp_yes h
  have hn : ¬ s.no = true := by rw [h0]; decide
  unfold spS at h ⊢
  unfold spX
  rw [if_neg hn] at h ⊢
  rw [if_neg hn]
  unfold tkS at h ⊢
  obtain ⟨k, e, hk⟩ := hv
  rw [e] at h ⊢
  rcases gs_cases (b := b) (k : Int) with ⟨g1, _, _⟩ | ⟨k2, n, g1, _, g3, g4, g5⟩
  · rw [if_neg g1] at h; cases h
  · have : k2 = k := by omega
    subst this
    rw [if_pos g4]
    obtain ⟨a1, a2, a3, a4, a5⟩ := gotS_has g3
    have hl : (ownS (gsL b k2)).length = n - k2 := by rw [← a5, List.length_take, List.length_drop]; omega
    refine ⟨⟨h0, rfl, k2, e, sd_of hk ((b.drop k2).drop (n - k2)) (by rw [← a5, List.take_append_drop]), ?_⟩, a1, a2⟩
    rw [hl]
    show gsN b k2 = _
    rw [g5]
    omega
end
section
variable {b l : List UInt8} {i : Nat} {x : Int}
theorem nm_put (h : Sd b i (nB false x)) (h0 : 0 ≤ x) (h1 : x ≤ 16777216) : nmX b (rs i) = x ∧ nmS b (rs i) = rs (i + (nB false x).length) := by
  obtain ⟨r, hd⟩ := h.drop
  have hle := h.le
  obtain ⟨g1, g2, g3⟩ := good_put (b := false) (x := x) (r := b.drop i) (by simp only [rng, Bool.false_eq_true, if_false]; omega) (by rw [hd]; exact List.prefix_append _ _)
  obtain ⟨e1, e2, e3⟩ := rd_ok (b := false) (l := b) (k := i) (by omega) g1
  have hn : ¬ (rs i).no = true := Bool.false_ne_true
  have hE : rdE false b (rs i).at_ = 0 := e1
  have hX : rdX false b (rs i).at_ = x := e2.trans g2
  have hN : rdN false b (rs i).at_ = ((i + (nB false x).length : Nat) : Int) := by rw [nB_len, ← g3]; exact e3.trans (by omega)
  have hm : rdX false b (rs i).at_ ≤ 16777216 := by omega
  unfold nmX nmS
  rw [if_neg hn, if_neg hn, if_pos hE, if_pos hE, if_pos hm, if_pos hm, hX, hN]
  exact ⟨rfl, rfl⟩
theorem tx_put (h : Sd b i (txB l)) (h1 : l.length ≤ 255) : txX b (rs i) = l ∧ txT b (rs i) = rs (i + (txB l).length) := by
  obtain ⟨r, hd⟩ := h.drop
  have hle := h.le
  unfold txB at hd hle ⊢
  rw [List.length_cons] at hle ⊢
  have hb : i < b.length := by omega
  rw [List.drop_eq_getElem_cons hb, List.cons_append] at hd
  obtain ⟨d1, d2⟩ := List.cons.inj hd
  have hsz : szT b i = l.length := by
    unfold szT
    rw [Int.toNat_natCast, List.getD_eq_getElem?_getD, List.getElem?_eq_getElem hb, Option.getD_some, d1, UInt8.toNat_ofNat']
    omega
  have hE : txE b (rs i).at_ = 0 := by
    show txE b i = 0
    unfold txE
    rw [if_pos (stV_ok (by omega) (by omega)), hsz]
    exact stV_ok (k := i + 1) (by omega) (by omega)
  have hn : ¬ (rs i).no = true := Bool.false_ne_true
  have hS : txS b (rs i).at_ = l := by
    unfold txS
    rw [if_pos hE]
    show (b.drop ((i : Int).toNat + 1)).take (szT b i) = l
    rw [Int.toNat_natCast, d2, hsz, List.take_left]
  have hN : txN b (rs i).at_ = ((i + (l.length + 1) : Nat) : Int) := by
    unfold txN
    rw [if_pos hE]
    show (i : Int) + 1 + (szT b i : Int) = _
    rw [hsz]; omega
  unfold txX txT tkS
  rw [if_neg hn, if_neg hn, if_pos hE, if_pos hE, hS, hN]
  exact ⟨rfl, rfl⟩
theorem ox_put {u : UInt8} (h : Sd b i [u]) : oxX b (rs i) = u.toNat ∧ oxS b (rs i) = rs (i + 1) := by
  obtain ⟨r, hd⟩ := h.drop
  have hle := h.le
  rw [List.length_singleton] at hle
  have hb : i < b.length := by omega
  rw [List.drop_eq_getElem_cons hb, List.singleton_append] at hd
  obtain ⟨d1, d2⟩ := List.cons.inj hd
  have hE : stV b.length (rs i).at_ 1 = 0 := stV_ok (k := i) (by omega) (by omega)
  have hn : ¬ (rs i).no = true := Bool.false_ne_true
  have hX : oneX b (rs i).at_ = u.toNat := by
    unfold oneX
    rw [if_pos hE]
    show ((b.getD (i : Int).toNat 0).toNat : Int) = _
    rw [Int.toNat_natCast, List.getD_eq_getElem?_getD, List.getElem?_eq_getElem hb, Option.getD_some, d1]
  have hN : oneN b (rs i).at_ = ((i + 1 : Nat) : Int) := by
    unfold oneN
    rw [if_pos hE]
    show (i : Int) + 1 = _
    omega
  unfold oxX oxS tkS
  rw [if_neg hn, if_neg hn, if_pos hE, if_pos hE, hX, hN]
  exact ⟨rfl, rfl⟩
theorem sp_put {xs : List Sp} (h : Sd b i (ownS xs)) (hr : rightL xs = true) (hx : ∀ y ∈ xs, ∀ x ∈ y.a, x.Rng) : spX b (rs i) = xs ∧ spS b (rs i) = rs (i + (ownS xs).length) := by
  have hle := h.le
  obtain ⟨a, r, rfl, rfl⟩ := h
  have hg := got_putS hr hx a r
  obtain ⟨g1, g2, g3⟩ := gs_some (b := a ++ ownS xs ++ r) (k := a.length) (by omega) hg
  have hn : ¬ (rs a.length).no = true := Bool.false_ne_true
  have h1 : gsE (a ++ ownS xs ++ r) (rs a.length).at_ = 0 := g1
  have h2 : gsL (a ++ ownS xs ++ r) (rs a.length).at_ = xs := g2
  have h3 : gsN (a ++ ownS xs ++ r) (rs a.length).at_ = ((a.length + (ownS xs).length : Nat) : Int) := g3
  unfold spX spS tkS
  rw [if_neg hn, if_neg hn, if_pos h1, h2, h3]
  exact ⟨rfl, rfl⟩
end

/-! lists -/
def goE {δ τ : Type} (one : RS × τ → δ × (RS × τ)) (en : τ → δ → τ → List UInt8) : Nat → RS × τ → List UInt8
  | 0, _ => []
  | n + 1, s => en s.2 (one s).1 (one s).2.2 ++ goE one en n (one s).2
section
variable {δ τ : Type} {b : List UInt8} {one : RS × τ → δ × (RS × τ)} {en : τ → δ → τ → List UInt8} {most : Int}
theorem goL_has (h : ∀ s : RS × τ, Vd b s.1 → (one s).2.1.no = false → Tr b s.1 (en s.2 (one s).1 (one s).2.2) (one s).2.1) : ∀ (n : Nat) (s : RS × τ), Vd b s.1 → (goL (fun q => q.1.no) one n s).2.1.no = false → Tr b s.1 (goE one en n s) (goL (fun q => q.1.no) one n s).2.1
  | 0, _, hv, hn => Tr.nil hv hn
  | n + 1, s, hv, hn => by
    have e := goL_yes (no := fun q : RS × τ => q.1.no) (n + 1) s hn
    rw [goL_step one n s e] at hn ⊢
    have hn2 := goL_yes (no := fun q : RS × τ => q.1.no) n _ hn
    have t1 := h s hv hn2
    exact t1.trans (goL_has h n _ t1.vd hn)
theorem goE_flat {f : δ → List UInt8} : ∀ (n : Nat) (s : RS × τ), (goL (fun q => q.1.no) one n s).2.1.no = false → goE one (fun _ x _ => f x) n s = (goL (fun q => q.1.no) one n s).1.flatMap f
  | 0, _, _ => rfl
  | n + 1, s, hn => by
    have e := goL_yes (no := fun q : RS × τ => q.1.no) (n + 1) s hn
    rw [goL_step one n s e] at hn ⊢
    rw [goE, goE_flat n _ hn, List.flatMap_cons]
theorem lsP_has (h : ∀ s : RS × τ, Vd b s.1 → (one s).2.1.no = false → Tr b s.1 (en s.2 (one s).1 (one s).2.2) (one s).2.1) {s : RS × τ} (hv : Vd b s.1) (hn : (lsP b most one s).2.1.no = false) :
    Tr b s.1 (nB false (lsP b most one s).1.length ++ goE one en (nmX b s.1).toNat (nmS b s.1, s.2)) (lsP b most one s).2.1 := by
  obtain ⟨h1, _, h3⟩ := lsP_yes hn
  have hl : ((lsP b most one s).1.length : Int) = nmX b s.1 := by
    rw [h3] at hn ⊢
    have := goL_full (no := fun q : RS × τ => q.1.no) _ _ hn
    have := (nmX_rng b s.1).1
    omega
  have t1 := nm_has hv h1
  rw [hl]
  rw [h3] at hn ⊢
  exact t1.trans (goL_has h _ _ t1.vd hn)
end
/-- items that are put one behind the other, each after a state -/
def encs {τ ε : Type} (tn : τ → ε → τ) (en : τ → ε → List UInt8) : τ → List ε → List UInt8
  | _, [] => []
  | t, y :: ys => en t y ++ encs tn en (tn t y) ys
def Each {τ ε : Type} (tn : τ → ε → τ) (P : τ → ε → Prop) : τ → List ε → Prop
  | _, [] => True
  | t, y :: ys => P t y ∧ Each tn P (tn t y) ys
section
variable {δ τ ε : Type} {b : List UInt8} {one : RS × τ → δ × (RS × τ)} {d : ε → δ} {tn : τ → ε → τ} {en : τ → ε → List UInt8} {P : τ → ε → Prop} {most : Int}
theorem goL_put (h : ∀ t y i, P t y → Sd b i (en t y) → one (rs i, t) = (d y, (rs (i + (en t y).length), tn t y))) : ∀ (ys : List ε) (t : τ) (i : Nat), Each tn P t ys → Sd b i (encs tn en t ys) →
    goL (fun q => q.1.no) one ys.length (rs i, t) = (ys.map d, (rs (i + (encs tn en t ys).length), ys.foldl tn t))
  | [], _, _, _, _ => rfl
  | y :: ys, t, i, hP, hS => by
    obtain ⟨s1, s2⟩ := Sd.app.1 hS
    rw [List.length_cons, goL_step one ys.length (rs i, t) rfl, h t y i hP.1 s1, goL_put h ys (tn t y) _ hP.2 s2]
    simp only [List.map_cons, List.foldl_cons, encs, List.length_append, Nat.add_assoc]
theorem lsP_put (h : ∀ t y i, P t y → Sd b i (en t y) → one (rs i, t) = (d y, (rs (i + (en t y).length), tn t y))) {ys : List ε} {t : τ} {i : Nat} (hm : (ys.length : Int) ≤ most) (hm2 : most ≤ 16777216) (hP : Each tn P t ys) (hS : Sd b i (nB false ys.length ++ encs tn en t ys)) :
    lsP b most one (rs i, t) = (ys.map d, (rs (i + (nB false ys.length ++ encs tn en t ys).length), ys.foldl tn t)) := by
  obtain ⟨s1, s2⟩ := Sd.app.1 hS
  obtain ⟨n1, n2⟩ := nm_put s1 (by omega) (by omega)
  unfold lsP
  dsimp only
  rw [n1, n2, if_neg (by omega), Int.toNat_natCast, goL_put h ys t _ hP s2, List.length_append, Nat.add_assoc]
end
theorem encs_flat {ε : Type} {f : ε → List UInt8} {τ : Type} {tn : τ → ε → τ} : ∀ (ys : List ε) (t : τ), encs tn (fun _ y => f y) t ys = ys.flatMap f
  | [], _ => rfl
  | y :: ys, t => by rw [encs, encs_flat ys, List.flatMap_cons]
theorem each_all {ε : Type} {Q : ε → Prop} {τ : Type} {tn : τ → ε → τ} : ∀ (ys : List ε) (t : τ), (∀ y ∈ ys, Q y) → Each tn (fun _ y => Q y) t ys
  | [], _, _ => trivial
  | y :: ys, _, h => ⟨h y List.mem_cons_self, each_all ys _ fun z hz => h z (List.mem_cons_of_mem _ hz)⟩
end Go.Proofs.YtjagjkogloggpaaGreat
