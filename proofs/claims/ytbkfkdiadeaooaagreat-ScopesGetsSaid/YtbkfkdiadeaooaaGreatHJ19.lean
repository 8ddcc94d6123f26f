/-
  Merged for a claim: T7U, T9K, O1G.
-/
import Derived.Test.YtbkfkdiadeaooaaGreatHJ18
import Derived.Test.YtbkfkdiadeaooaaGreatHJ7
import Derived.Test.YtbkfkdiadeaooaaGreatHT9A
import Derived.Test.YtbkfkdiadeaooaaGreatHJ15
namespace Go.Proofs.YtbkfkdiadeaooaaGreat
open Go Go.RowKit

def endT : Int → List Sp → Int
  | l, [] => l
  | _, y :: ys => endT y.t ys
theorem endT_snoc (x : Sp) : ∀ (xs : List Sp) (l : Int), endT l (xs ++ [x]) = x.t
  | [], _ => rfl
  | y :: ys, _ => endT_snoc x ys y.t
theorem zip_snoc (x : Sp) : ∀ (xs : List Sp) (l : Int), (l :: (xs ++ [x]).map Sp.t).zip (xs ++ [x]) = (l :: xs.map Sp.t).zip xs ++ [(endT l xs, x)]
  | [], _ => rfl
  | y :: ys, l => congrArg (List.cons (l, y)) (zip_snoc x ys y.t)
theorem prS_snoc (xs : List Sp) (x : Sp) : prS (xs ++ [x]) = prS xs ++ [(endT 0 xs, x)] := zip_snoc x xs 0
theorem runS_take {b : List UInt8} {k0 : Nat} (hk : k0 ≤ b.length) : ∀ {j k : Nat} {ls : List Sp} {last : Int}, runS b k0 j = some (ls, k, last) → (b.drop k0).take (k - k0) = (prS ls).flatMap encS ∧ last = endT 0 ls
  | 0, k, ls, last, h => by
    simp only [runS, Option.some.injEq, Prod.mk.injEq] at h
    obtain ⟨rfl, rfl, rfl⟩ := h
    exact ⟨by rw [Nat.sub_self]; rfl, rfl⟩
  | j + 1, k, ls, last, h => by
    rw [runS] at h
    cases h1 : runS b k0 j with
    | none => rw [h1] at h; cases h
    | some s =>
      obtain ⟨ls', k', last'⟩ := s
      rw [h1] at h
      simp only [Option.bind_some] at h
      cases h2 : rdS b k' last' with
      | none => rw [h2] at h; cases h
      | some q =>
        obtain ⟨x, n⟩ := q
        rw [h2] at h
        simp only [Option.map_some, Option.some.injEq, Prod.mk.injEq] at h
        obtain ⟨rfl, rfl, rfl⟩ := h
        obtain ⟨a1, _⟩ := runS_has hk h1
        obtain ⟨i1, i2⟩ := runS_take hk h1
        obtain ⟨_, _, _, _, b5, _, _, _, _, b10⟩ := rdS_has h2
        refine ⟨?_, (endT_snoc x ls' 0).symm⟩
        rw [prS_snoc, List.flatMap_append, List.flatMap_singleton, ← i1, ← i2, ← b10]
        rw [show n - k0 = (k' - k0) + (n - k') by omega, List.take_add, List.drop_drop, show k0 + (k' - k0) = k' by omega]
theorem gotS_has {b : List UInt8} {k n : Nat} {ls : List Sp} (h : gotS b k = some (ls, n)) : rightL ls = true ∧ (∀ y ∈ ls, ∀ x ∈ y.a, x.Rng) ∧ k + 1 ≤ n ∧ n ≤ b.length ∧ (b.drop k).take (n - k) = ownS ls := by
  unfold gotS at h
  split at h
  · rename_i hg
    obtain ⟨g1, g2, _, _⟩ := lg_has 10 (b.drop k) hg.1.1
    have g0 := hg.1.1
    simp at g2
    have hr0 := hv_rng hg.1
    simp only [rng, Bool.false_eq_true, if_false] at hr0
    cases h1 : runS b (k + lg (b.drop k) 10) (hv false (b.drop k)).toNat with
    | none => rw [h1] at h; cases h
    | some s =>
      obtain ⟨ls', k', last'⟩ := s
      rw [h1] at h
      simp only [Option.bind_some] at h
      split at h
      · rename_i hr
        simp only [Option.some.injEq, Prod.mk.injEq] at h
        obtain ⟨rfl, rfl⟩ := h
        have hk0 : k + lg (b.drop k) 10 ≤ b.length := by omega
        obtain ⟨a1, a2, a3, _, _, a6⟩ := runS_has hk0 h1
        obtain ⟨i1, _⟩ := runS_take hk0 h1
        refine ⟨hr, fun y hy => (a6 y hy).2, by omega, a2, ?_⟩
        unfold ownS
        rw [← i1, show k' - k = lg (b.drop k) 10 + (k' - (k + lg (b.drop k) 10)) by omega, List.take_add, List.drop_drop, good_take hg.1, show ((ls'.length : Nat) : Int) = hv false (b.drop k) by omega]
      · cases h
  · cases h
end Go.Proofs.YtbkfkdiadeaooaaGreat

namespace Go.Proofs.YtbkfkdiadeaooaaGreat
open Go Go.RowKit

def Sd (b : List UInt8) (i : Nat) (l : List UInt8) : Prop := ∃ a r, b = a ++ l ++ r ∧ a.length = i
def rs (i : Nat) : RS := ⟨(i : Int), false⟩
section
variable {b l l1 l2 : List UInt8} {i : Nat}
theorem Sd.le (h : Sd b i l) : i + l.length ≤ b.length := by
  obtain ⟨a, r, rfl, rfl⟩ := h
  simp only [List.length_append]; omega
theorem Sd.drop (h : Sd b i l) : ∃ r, b.drop i = l ++ r := by
  obtain ⟨a, r, rfl, rfl⟩ := h
  exact ⟨r, by rw [List.append_assoc, List.drop_left]⟩
theorem sd_of (hi : i ≤ b.length) (r : List UInt8) (h : b.drop i = l ++ r) : Sd b i l :=
  ⟨b.take i, r, by rw [List.append_assoc, ← h, List.take_append_drop], by rw [List.length_take]; omega⟩
theorem Sd.nil (hi : i ≤ b.length) : Sd b i [] := sd_of hi _ rfl
theorem Sd.app : Sd b i (l1 ++ l2) ↔ Sd b i l1 ∧ Sd b (i + l1.length) l2 := by
  constructor
  · rintro ⟨a, r, rfl, rfl⟩
    exact ⟨⟨a, l2 ++ r, by simp only [List.append_assoc], rfl⟩, ⟨a ++ l1, r, by simp only [List.append_assoc], by rw [List.length_append]⟩⟩
  · rintro ⟨⟨a, r, h1, h2⟩, ⟨a', r', h3, h4⟩⟩
    have h5 : (a ++ l1) ++ r = a' ++ (l2 ++ r') := by rw [← h1, h3, List.append_assoc]
    obtain ⟨h6, h7⟩ := List.append_inj h5 (by rw [List.length_append]; omega)
    exact ⟨a, r', by rw [h1, h7]; simp only [List.append_assoc], h2⟩
end
/-- these bytes are read from the one state to the other -/
def Tr (b : List UInt8) (s : RS) (l : List UInt8) (s' : RS) : Prop := s.no = false ∧ s'.no = false ∧ ∃ i : Nat, s.at_ = i ∧ Sd b i l ∧ s'.at_ = ((i + l.length : Nat) : Int)
def Vd (b : List UInt8) (s : RS) : Prop := ∃ i : Nat, s.at_ = i ∧ i ≤ b.length
section
variable {b l l1 l2 : List UInt8} {s s1 s2 : RS}
theorem Tr.trans (h : Tr b s l1 s1) (h2 : Tr b s1 l2 s2) : Tr b s (l1 ++ l2) s2 := by
  obtain ⟨n1, _, i, e1, d1, f1⟩ := h
  obtain ⟨_, n2, j, e2, d2, f2⟩ := h2
  have : j = i + l1.length := by omega
  subst this
  exact ⟨n1, n2, i, e1, Sd.app.2 ⟨d1, d2⟩, by rw [f2, List.length_append, Nat.add_assoc]⟩
theorem Tr.vd (h : Tr b s l s1) : Vd b s1 := by
  obtain ⟨_, _, i, _, d, f⟩ := h
  exact ⟨_, f, d.le⟩
theorem Tr.nil (hv : Vd b s) (hn : s.no = false) : Tr b s [] s := by
  obtain ⟨i, e, hi⟩ := hv
  exact ⟨hn, hn, i, e, Sd.nil hi, e⟩
theorem nm_has (hv : Vd b s) (h : (nmS b s).no = false) : Tr b s (nB false (nmX b s)) (nmS b s) := by
  obtain ⟨h1, h2, _, h4, h5⟩ := nm_yes h
  obtain ⟨k, e, hk⟩ := hv
  rw [h4, h5]
  rw [e] at h2 ⊢
  by_cases hg : good false (b.drop k)
  · obtain ⟨_, r2, r3⟩ := rd_ok hk hg
    obtain ⟨_, g2, _, _⟩ := lg_has 10 (b.drop k) hg.1
    have ht := good_take hg
    have hl : (nB false (hv false (b.drop k))).length = lg (b.drop k) 10 := by rw [← ht, List.length_take]; omega
    refine ⟨h1, rfl, k, e, sd_of hk ((b.drop k).drop (lg (b.drop k) 10)) (by rw [r2, ← ht, List.take_append_drop]), ?_⟩
    rw [r2, hl]
    show rdN false b k = _
    rw [r3]
    omega
  · have := (rd_form hk hg).1
    omega
theorem tx_yes (h : (txT b s).no = false) : s.no = false ∧ txE b s.at_ = 0 ∧ txX b s = txS b s.at_ ∧ txT b s = ⟨txN b s.at_, false⟩ := by
  unfold txT at h
  split at h
  · rename_i q; rw [q] at h; cases h
  · rename_i q
    unfold tkS at h
    split at h
    · rename_i q2
      exact ⟨no_f q, q2, by unfold txX; rw [if_neg q, if_pos q2], by unfold txT tkS; rw [if_neg q, if_pos q2]⟩
    · cases h
theorem stV_yes {n : Nat} {k : Nat} {m : Int} (h : stV n k m = 0) : (k : Int) + m ≤ n := by
  unfold stV at h
  split at h
  · omega
  · split at h <;> omega
theorem txE_yes {k : Nat} (h : txE b k = 0) : k + 1 + szT b k ≤ b.length := by
  unfold txE at h
  split at h
  · rename_i q
    have := stV_yes q
    have h2 := stV_yes (k := k + 1) (by rw [Int.natCast_add]; exact h)
    omega
  · contradiction
theorem tx_has (hv : Vd b s) (h : (txT b s).no = false) : Tr b s (txB (txX b s)) (txT b s) ∧ (txX b s).length ≤ 255 := by
  obtain ⟨h1, h2, h3, h4⟩ := tx_yes h
  obtain ⟨k, e, hk⟩ := hv
  rw [h3, h4, e]
  rw [e] at h2
  have hle := txE_yes h2
  have hb : k < b.length := by omega
  have hsz : szT b k = b[k].toNat := by unfold szT; rw [Int.toNat_natCast, List.getD_eq_getElem?_getD, List.getElem?_eq_getElem hb]; rfl
  have hS : txS b k = (b.drop (k + 1)).take (szT b k) := by unfold txS; rw [if_pos h2, Int.toNat_natCast]
  have hN : txN b k = k + 1 + szT b k := by unfold txN; rw [if_pos h2]
  have hl : (txS b k).length = szT b k := by rw [hS, List.length_take, List.length_drop]; omega
  have h255 : szT b k < 256 := by rw [hsz]; exact b[k].toNat_lt
  refine ⟨⟨h1, rfl, k, e, sd_of hk ((b.drop (k + 1)).drop (szT b k)) ?_, ?_⟩, by omega⟩
  · unfold txB
    rw [List.cons_append, hS, List.take_append_drop, ← hS, hl, List.drop_eq_getElem_cons hb, hsz, UInt8.ofNat_toNat]
  · show txN b k = _
    rw [hN]
    unfold txB
    rw [List.length_cons, hl]
    omega
theorem ox_yes (h : (oxS b s).no = false) : s.no = false ∧ stV b.length s.at_ 1 = 0 ∧ oxX b s = oneX b s.at_ ∧ oxS b s = ⟨oneN b s.at_, false⟩ := by
  unfold oxS at h
  split at h
  · rename_i q; rw [q] at h; cases h
  · rename_i q
    unfold tkS at h
    split at h
    · rename_i q2
      exact ⟨no_f q, q2, by unfold oxX; rw [if_neg q, if_pos q2], by unfold oxS tkS; rw [if_neg q, if_pos q2]⟩
    · cases h
theorem ox_has (hv : Vd b s) (h : (oxS b s).no = false) : Tr b s [UInt8.ofNat (oxX b s).toNat] (oxS b s) := by
  obtain ⟨h1, h2, h3, h4⟩ := ox_yes h
  obtain ⟨k, e, hk⟩ := hv
  rw [h3, h4, e]
  rw [e] at h2
  have hle := stV_yes h2
  have hb : k < b.length := by omega
  have hX : oneX b k = b[k].toNat := by unfold oneX; rw [if_pos h2, Int.toNat_natCast, List.getD_eq_getElem?_getD, List.getElem?_eq_getElem hb]; rfl
  have hN : oneN b k = k + 1 := by unfold oneN; rw [if_pos h2]
  refine ⟨h1, rfl, k, e, sd_of hk (b.drop (k + 1)) ?_, ?_⟩
  · rw [hX, Int.toNat_natCast, UInt8.ofNat_toNat, List.drop_eq_getElem_cons hb]; rfl
  · show oneN b k = _
    rw [hN]
    simp
theorem sp_has (hv : Vd b s) (h : (spS b s).no = false) : Tr b s (ownS (spX b s)) (spS b s) ∧ rightL (spX b s) = true ∧ ∀ y ∈ spX b s, ∀ x ∈ y.a, x.Rng := by
  have h0 := sp_yes h
  have hn : ¬ s.no = true := by rw [h0]; decide
  unfold spS at h ⊢
  unfold spX
  rw [if_neg hn] at h ⊢
  rw [if_neg hn]
  unfold tkS at h ⊢
  obtain ⟨k, e, hk⟩ := hv
  rw [e] at h ⊢
  rcases gs_cases (b := b) (k : Int) with ⟨g1, _, _⟩ | ⟨k2, n, g1, _, g3, g4, g5⟩
  · rw [if_neg g1] at h; cases h
  · have : k2 = k := by omega
    subst this
    rw [if_pos g4]
    obtain ⟨a1, a2, a3, a4, a5⟩ := gotS_has g3
    have hl : (ownS (gsL b k2)).length = n - k2 := by rw [← a5, List.length_take, List.length_drop]; omega
    refine ⟨⟨h0, rfl, k2, e, sd_of hk ((b.drop k2).drop (n - k2)) (by rw [← a5, List.take_append_drop]), ?_⟩, a1, a2⟩
    rw [hl]
    show gsN b k2 = _
    rw [g5]
    omega
end
section
variable {b l : List UInt8} {i : Nat} {x : Int}
end

/-! lists -/
section
variable {δ τ : Type} {b : List UInt8} {one : RS × τ → δ × (RS × τ)} {en : τ → δ → τ → List UInt8} {most : Int}
end
/-- items that are put one behind the other, each after a state -/
def encs {τ ε : Type} (tn : τ → ε → τ) (en : τ → ε → List UInt8) : τ → List ε → List UInt8
  | _, [] => []
  | t, y :: ys => en t y ++ encs tn en (tn t y) ys
section
variable {δ τ ε : Type} {b : List UInt8} {one : RS × τ → δ × (RS × τ)} {d : ε → δ} {tn : τ → ε → τ} {en : τ → ε → List UInt8} {P : τ → ε → Prop} {most : Int}
end
end Go.Proofs.YtbkfkdiadeaooaaGreat

namespace Go.Proofs.YtbkfkdiadeaooaaGreat
open Go.RowKit

theorem str_size (l : List UInt8) : (str l).size = l.length := by simp [str, ByteArray.size]

theorem str_add (w : World) (x y : List UInt8) (h : x.length + y.length ≤ 70000) : (Op.stringOp .add (str x) (str y)).run Tryz.prog w = .ok (.string (str (x ++ y))) w := by
  rw [run_string_add_sum _ _ _ (by rw [str_size, str_size]; omega), str_append]

set_option maxHeartbeats 400000 in
theorem refText_any (A : Option Addr) (c : Nat) (l : List UInt8) (i : Int) (w : World) (B : Nat) (hc : l.length ≤ c) (hn : l.length ≤ 1099511627776) (h : Lies w B A l) :
    Calls Tryz.prog 45 #[.slice A l.length c, .int .i64 i] w fun e w' => e = .returned (.tuple #[.string (str (txS l i)), .int .i64 (txN l i), .int .i64 (txE l i)]) ∧ w = w' := by
  have h1 := refOne_any A c l i w B hn h
  by_cases hi : 0 ≤ i ∧ i < l.length
  · obtain ⟨k, rfl⟩ : ∃ k : Nat, i = k := ⟨i.toNat, by omega⟩
    have hk : k < l.length := by omega
    have hv : stV l.length k 1 = 0 := st_ok (by omega) (by omega) (by omega)
    have hs : szT l k = l[k].toNat := by simp [szT, hk]
    have hX : oneX l k = (szT l k : Int) := by simp [oneX, hv, szT]
    have hN1 : oneN l k = (k : Int) + 1 := by simp [oneN, hv]
    have hE : txE l k = stV l.length ((k : Int) + 1) (szT l k) := by simp [txE, hv]
    have hsz : szT l k < 256 := by rw [hs]; exact l[k].toNat_lt
    rw [hv, hX, hN1] at h1
    have h2 := have_any A l.length c ((k : Int) + 1) (szT l k) w hn (by omega)
    by_cases hm : k + 1 + szT l k ≤ l.length
    · have h0 : stV l.length ((k : Int) + 1) (szT l k) = 0 := st_ok (by omega) (by omega) (by omega)
      have hS : txS l k = (l.drop (k + 1)).take (szT l k) := by simp [txS, hE, h0]
      have hN : txN l k = (k : Int) + 1 + szT l k := by simp [txN, hE, h0]
      rw [hS, hN, hE, h0]
      rw [h0] at h2
      obtain ⟨g, o, rfl, hg, hcell⟩ := h (by omega)
      clear hS hN hE h0 hX hN1 hv hs hi
      generalize szT l k = m at *
      have hlen : ((l.drop (k + 1)).take m).length = m := by simp; omega
      have hget : ∀ j (hj : j < ((l.drop (k + 1)).take m).length), w.cell? ⟨g, o + (k + 1) + j, none⟩ = some (.int .u8 (((l.drop (k + 1)).take m)[j].toNat : Int)) := by
        intro j hj
        have := hcell (k + 1 + j) (by omega)
        simpa [Nat.add_assoc] using this
      obtain ⟨T, hT⟩ : ∃ T, T = (l.drop (k + 1)).take m := ⟨_, rfl⟩
      rw [← hT] at hget hlen ⊢
      have H1 := Lib.hid h1
      have H2 := Lib.hid h2
      have HT := Lib.hid hT
      have HG := Lib.hid hget
      have HL := Lib.hid hlen
      have hml : k + 1 + m ≤ c := by omega
      clear hcell h1 h2 h hT hlen hget
      go_enter Tryz.func45, Tryz.ntmps45
      go_wp2_with (first | (go_at_call 74; refine H1.out.mono ?_; rintro e w' ⟨rfl, rfl⟩) | (go_at_call 75; refine H2.out.mono ?_; rintro e w' ⟨rfl, rfl⟩))
      go_loop [10, 11] (fun s i => ∃ q : Nat, q ≤ m ∧ i = .int .i64 q ∧ s = .string (str (T.take q))) (fun _ i => m - (intOf i).toNat)
      case atStart => exact ⟨0, by omega, rfl, rfl⟩
      case round =>
        obtain ⟨q, hq, rfl, rfl⟩ := hrel
        by_cases hlt : q < m
        · have hql : q < T.length := by have := HL.out; omega
          obtain ⟨x, hx⟩ : ∃ x, x = T[q] := ⟨_, rfl⟩
          have hcv := conv_any w (some ⟨g, o + (k + 1 + q), none⟩) [x] (c - (k + 1 + q)) (fun j hj => ⟨_, rfl, by
            obtain rfl : j = 0 := by simpa using hj
            have := HG.out q hql
            simpa [Addr.add, hx, Nat.add_assoc] using this⟩)
          simp only [List.length_cons, List.length_nil] at hcv
          have hadd := str_add w (T.take q) [x] (by simp; omega)
          have hst : T.take q ++ [x] = T.take (q + 1) := by rw [hx]; simp
          rw [hst] at hadd
          have hck : ¬ (c = k + 1 + q) := by omega
          have hc1 : k + 1 + q + 1 ≤ c := by omega
          clear hst hx
          go_wp2
          go_round
          case rel => exact ⟨q + 1, by omega, by go_num, rfl⟩
          case measure => simp [intOf]; omega
        · obtain rfl : q = m := by omega
          have hst : T.take q = T := by rw [List.take_of_length_le]; have := HL.out; omega
          rw [hst]
          clear hst
          go_wp2
          go_ret3
          exact ⟨rfl, rfl⟩
    · have h0 : stV l.length ((k : Int) + 1) (szT l k) = 5 := st_form (by omega) (by omega) (by omega)
      have hS : txS l k = [] := by simp [txS, hE, h0]
      have hN : txN l k = 0 := by simp [txN, hE, h0]
      rw [hS, hN, hE, h0]
      rw [h0] at h2
      clear hS hN hE h0 hX hN1 hv hs hi h
      generalize szT l k = m at *
      have H1 := Lib.hid h1
      have H2 := Lib.hid h2
      clear h1 h2
      go_enter Tryz.func45, Tryz.ntmps45
      go_wp2_with (first | (go_at_call 74; refine H1.out.mono ?_; rintro e w' ⟨rfl, rfl⟩) | (go_at_call 75; refine H2.out.mono ?_; rintro e w' ⟨rfl, rfl⟩))
      go_ret3
      exact ⟨rfl, rfl⟩
  · have hv := one_bad hi
    have hE : txE l i = stV l.length i 1 := by simp [txE, hv]
    have hS : txS l i = [] := by simp [txS, hE, hv]
    have hN : txN l i = 0 := by simp [txN, hE, hv]
    have hX : oneX l i = 0 := by simp [oneX, hv]
    have hN1 : oneN l i = 0 := by simp [oneN, hv]
    rw [hE, hS, hN]
    rw [hX, hN1] at h1
    generalize stV l.length i 1 = v at *
    have hvb : (v != 0) = true := by simpa using hv
    have H1 := Lib.hid h1
    clear h1 h hi hv hE hS hN hX hN1
    go_enter Tryz.func45, Tryz.ntmps45
    go_wp2_with (go_at_call 74; refine H1.out.mono ?_; rintro e w' ⟨rfl, rfl⟩)
    go_ret3
    exact ⟨rfl, rfl⟩

end Go.Proofs.YtbkfkdiadeaooaaGreat
