/-
  Merged for a claim: L7J, L7K.
-/
import Derived.Test.YtbkfkdiadeaooaaGreatHJ10
namespace Go.Proofs.YtbkfkdiadeaooaaGreat
open Go Go.RowKit

/-- a number of at most 2^24 at a place, and the place behind it -/
def num7 (b : List UInt8) (k : Nat) : Option (Nat × Nat) := if good false (b.drop k) ∧ hv false (b.drop k) ≤ 16777216 then some ((hv false (b.drop k)).toNat, k + lg (b.drop k) 10) else none
/-- a span at a place, and the place behind it -/
def rdS (b : List UInt8) (k : Nat) (last : Int) : Option (Sp × Nat) :=
  (num7 b k).bind fun g => (num7 b g.2).bind fun l => (gotO b l.2).map fun q => (⟨last + g.1, last + g.1 + l.1, q.1⟩, q.2)
theorem num7_has {b : List UInt8} {k x n : Nat} (h : num7 b k = some (x, n)) : good false (b.drop k) ∧ hv false (b.drop k) = x ∧ k + lg (b.drop k) 10 = n ∧ k + 1 ≤ n ∧ n ≤ b.length ∧ x ≤ 16777216 ∧ (b.drop k).take (n - k) = nB false x := by
  unfold num7 at h
  split at h
  · rename_i hg
    simp only [Option.some.injEq, Prod.mk.injEq] at h
    obtain ⟨h1, h2⟩ := h
    have hr := hv_rng hg.1
    simp only [rng, Bool.false_eq_true, if_false] at hr
    have h3 : hv false (b.drop k) = x := by omega
    obtain ⟨g1, g2, _, _⟩ := lg_has 10 (b.drop k) hg.1.1
    have g0 := hg.1.1
    simp at g2
    refine ⟨hg.1, h3, h2, by omega, by omega, by omega, ?_⟩
    rw [← h2, ← h3, Nat.add_sub_cancel_left]
    exact good_take hg.1
  · cases h
def URet (A : Option Addr) (c : Nat) (b : List UInt8) (k : Nat) (X N E : Int) : Prop :=
  ∀ w : World, Lies w w.heap.size A b → Calls Tryz.prog 57 #[.slice A b.length c, .int .i64 k] w fun e w' => e = .returned (.tuple #[.int .u64 X, .int .i64 N, .int .i64 E]) ∧ w = w'
theorem u7_cases (A : Option Addr) (c : Nat) (b : List UInt8) (k : Nat) (hk : k ≤ b.length) (hn : b.length ≤ 1099511627776) :
    (∃ x n : Nat, num7 b k = some (x, n) ∧ k + 1 ≤ n ∧ n ≤ b.length ∧ x ≤ 16777216 ∧ URet A c b k x n 0) ∨ (num7 b k = none ∧ ((∃ X N, URet A c b k X N 5) ∨ ∃ X N, 16777216 < X ∧ X < 18446744073709551616 ∧ URet A c b k X N 0)) := by
  by_cases hg : good false (b.drop k)
  · obtain ⟨q1, q2, q3⟩ := rd_ok hk hg
    have hr := hv_rng hg
    simp only [rng, Bool.false_eq_true, if_false] at hr
    by_cases h16 : hv false (b.drop k) ≤ 16777216
    · have h1 : num7 b k = some ((hv false (b.drop k)).toNat, k + lg (b.drop k) 10) := if_pos ⟨hg, h16⟩
      obtain ⟨_, h3, h4, h5, h6, h7, _⟩ := num7_has h1
      refine .inl ⟨_, _, h1, h5, h6, h7, fun w hw => ?_⟩
      have := U_any A c b k w w.heap.size hn hw
      rw [q1, q2, q3, h3] at this
      exact this
    · refine .inr ⟨if_neg (fun q => h16 q.2), .inr ⟨hv false (b.drop k), k + lg (b.drop k) 10, by omega, hr.2, fun w hw => ?_⟩⟩
      have := U_any A c b k w w.heap.size hn hw
      rw [q1, q2, q3] at this
      exact this
  · obtain ⟨q1, q2, q3⟩ := rd_form hk hg
    refine .inr ⟨if_neg (fun q => hg q.1), .inl ⟨0, 0, fun w hw => ?_⟩⟩
    have := U_any A c b k w w.heap.size hn hw
    rw [q1, q2, q3] at this
    exact this
theorem rdS_1 {b : List UInt8} {k : Nat} {last : Int} (h : num7 b k = none) : rdS b k last = none := by unfold rdS; rw [h]; rfl
theorem rdS_2 {b : List UInt8} {k x n : Nat} {last : Int} (h : num7 b k = some (x, n)) (h2 : num7 b n = none) : rdS b k last = none := by unfold rdS; rw [h]; simp only [Option.bind_some]; rw [h2]; rfl
theorem rdS_3 {b : List UInt8} {k x n y m : Nat} {last : Int} (h : num7 b k = some (x, n)) (h2 : num7 b n = some (y, m)) : rdS b k last = (gotO b m).map fun q => (⟨last + x, last + x + y, q.1⟩, q.2) := by unfold rdS; rw [h]; simp only [Option.bind_some]; rw [h2]; rfl
/-- what a span's bytes are -/
def encS (q : Int × Sp) : List UInt8 := nB false (q.2.f - q.1) ++ (nB false (q.2.t - q.2.f) ++ ownC q.2.a)
theorem rdS_has {b : List UInt8} {k n : Nat} {last : Int} {x : Sp} (h : rdS b k last = some (x, n)) : last ≤ x.f ∧ x.f ≤ last + 16777216 ∧ x.f ≤ x.t ∧ x.t ≤ x.f + 16777216 ∧ k + 3 ≤ n ∧ n ≤ b.length ∧ x.a.length ≤ 16 ∧ (∀ y ∈ x.a, y.Rng) ∧ rightC x.a = true ∧ (b.drop k).take (n - k) = encS (last, x) := by
  unfold rdS at h
  cases h1 : num7 b k with
  | none => rw [h1] at h; cases h
  | some g =>
    obtain ⟨gx, gn⟩ := g
    rw [h1] at h
    simp only [Option.bind_some] at h
    cases h2 : num7 b gn with
    | none => rw [h2] at h; cases h
    | some l =>
      obtain ⟨lx, ln⟩ := l
      rw [h2] at h
      simp only [Option.bind_some] at h
      cases h3 : gotO b ln with
      | none => rw [h3] at h; cases h
      | some q =>
        obtain ⟨qa, qn⟩ := q
        rw [h3] at h
        simp only [Option.map_some, Option.some.injEq, Prod.mk.injEq] at h
        obtain ⟨rfl, rfl⟩ := h
        obtain ⟨_, _, _, a1, a2, a3, a4⟩ := num7_has h1
        obtain ⟨_, _, _, b1, b2, b3, b4⟩ := num7_has h2
        obtain ⟨c1, c2, c3, c4, c5⟩ := gotO_has h3
        refine ⟨by dsimp only; omega, by dsimp only; omega, by dsimp only; omega, by dsimp only; omega, by omega, c4, right_len c1, c2, c1, ?_⟩
        unfold encS
        dsimp only
        rw [show last + (gx : Int) - last = gx by omega, show last + (gx : Int) + lx - (last + gx) = lx by omega, ← a4, ← b4, ← c5]
        rw [show qn - k = (gn - k) + ((ln - gn) + (qn - ln)) by omega, List.take_add, List.drop_drop, show k + (gn - k) = gn by omega, List.take_add, List.drop_drop, show gn + (ln - gn) = ln by omega]

def ReadR7 (o : Option (Sp × Nat)) (w : World) (e : Ending) (w' : World) : Prop :=
  Below w.heap.size w w' ∧ match o with
    | none => e = .returned (.tuple #[.agg #[.int .i64 0, .int .i64 0, .slice none 0 0], .int .i64 0, .bool false])
    | some (x, n) => ∃ A c, e = .returned (.tuple #[.agg #[.int .i64 x.f, .int .i64 x.t, .slice A x.a.length c], .int .i64 n, .bool true]) ∧ LOwn w' w.heap.size (.slice A x.a.length c) x.a
theorem get6_k (A : Option Addr) (c : Nat) (b : List UInt8) (k : Nat) (w : World) (hk : k ≤ b.length) (hn : b.length ≤ 1099511627776) (h : Lies w w.heap.size A b) :
    Calls Tryz.prog 103 #[.slice A b.length c, .int .i64 k] w fun e w' => Below w.heap.size w w' ∧ ((∃ A2 c2, gotO b k = none ∧ e = .returned (.tuple #[.slice A2 0 c2, .int .i64 0, .int .i64 5])) ∨ ∃ l n A2 c2, gotO b k = some (l, n) ∧ e = .returned (.tuple #[.slice A2 l.length c2, .int .i64 n, .int .i64 0]) ∧ LOwn w' w.heap.size (.slice A2 l.length c2) l) := by
  refine (get6_any A c b k w hn h).mono ?_
  rintro e w' ⟨v, rfl, ho, hb⟩
  refine ⟨hb, ?_⟩
  cases hg : gotO b k with
  | none =>
    obtain ⟨g1, g2, g3⟩ := ge_none hk hg
    rw [g2] at ho
    rw [g1, g3]
    obtain ⟨A2, c2, rfl, _⟩ := ho.form
    exact .inl ⟨A2, c2, rfl, rfl⟩
  | some q =>
    obtain ⟨l, n⟩ := q
    obtain ⟨g1, g2, g3⟩ := ge_some hk hg
    rw [g2] at ho
    rw [g1, g3]
    obtain ⟨A2, c2, rfl, _⟩ := ho.form
    exact .inr ⟨l, n, A2, c2, rfl, rfl, ho⟩

theorem spAt_res {fn : Func} {p u v : Tmp} (h : fn.results = #[.cell p 77, .tmp u, .tmp v]) (tmps : Array Value) (w : World) (g : Nat) (r : Ps) (hp : tmps.getD p undef = .pointer (some ⟨g, 0, none⟩)) (hs : SpAt w g r) :
    (results fn tmps).run Tryz.prog w = .ok (.tuple #[.agg (pK r), tmps.getD u undef, tmps.getD v undef]) w := res_row_tmp2 h tmps w g 77 (pK r) (0, 0) _ hp hs Tryz.underlying77 rfl (by kernel_rfl)
set_option maxRecDepth 100000 in
set_option maxHeartbeats 4000000 in
theorem read7_any (A : Option Addr) (c : Nat) (b : List UInt8) (k : Nat) (last : Int) (w : World) (hk : k ≤ b.length) (hn : b.length ≤ 1099511627776) (h0 : 0 ≤ last) (h1 : last ≤ 1099511627776) (h : Lies w w.heap.size A b) :
    Calls Tryz.prog 88 #[.slice A b.length c, .int .i64 k, .int .i64 last] w (ReadR7 (rdS b k last) w) := by
  have hb0 := below_lnew w (.cells #[.int .i64 0, .int .i64 0, .slice none 0 0] 77)
  have HX := Lib.hid (spAt_new w ⟨0, 0, [], none, 0⟩)
  have HL := Lib.hid ((h.below hb0).more (show w.heap.size ≤ (w.alloc (.cells #[.int .i64 0, .int .i64 0, .slice none 0 0] 77)).heap.size by simp))
  have HB := Lib.hid hb0
  unfold pK at HX
  simp only [List.length_nil] at HX
  have hzW : (w.alloc (.cells #[.int .i64 0, .int .i64 0, .slice none 0 0] 77)).heap.size = w.heap.size + 1 := by simp
  have hcf := HX.out.frozen
  have hc0 := HX.out.fr
  have hc1 := HX.out.to
  have hc2 := HX.out.at_
  have hlt := HX.out.lt
  dsimp only [List.length_nil] at hc0 hc1 hc2
  clear h hb0
  rcases u7_cases A c b k hk hn with ⟨gx, gn, hg, hg1, hg2, hg3, hU⟩ | ⟨hg, hU⟩
  · rcases u7_cases A c b gn hg2 hn with ⟨lx, ln, hl, hl1, hl2, hl3, hU2⟩ | ⟨hl, hU2⟩
    · have HR := Lib.hid (rdS_3 (last := last) hg hl)
      have HU := Lib.hid hU
      have HU2 := Lib.hid hU2
      clear hU hU2 hg hl
      go_enter Tryz.func88, Tryz.ntmps88
      go_wp2_with fail
      generalize w.alloc (.cells #[.int .i64 0, .int .i64 0, .slice none 0 0] 77) = W at *
      refine (HU.out W HL.out).mono ?_
      rintro e w1 ⟨rfl, rfl⟩
      go_wp2_with fail
      refine (HU2.out W HL.out).mono ?_
      rintro e w1 ⟨rfl, rfl⟩
      go_wp2_with fail
      refine (get6_k A c b ln W hl2 hn HL.out).mono ?_
      rintro e w3 ⟨hb3, ⟨A2, c2, hno, rfl⟩ | ⟨ls, n, A2, c2, hgo, rfl, ho⟩⟩
      · rw [hno] at HR
        have hX3 := HX.out.below hb3 hlt
        have d0 := hX3.frozen
        have d1 := hX3.fr
        have d2 := hX3.to
        have d3 := hX3.at_
        dsimp only [List.length_nil] at d1 d2 d3
        have HB3 := Lib.hid (HB.out.trans (hb3.mono (by omega)))
        clear hb3 hno
        go_wp2_with fail
        refine bodyPost_ret (spAt_res rfl _ _ w.heap.size ⟨0, 0, [], none, 0⟩ rfl (hX3.setAll ⟨0, 0, [], none, 0⟩)) rfl ⟨?_, ?_⟩
        · exact ((HB3.out.setCell (p := ⟨w.heap.size, 0, none⟩) (Nat.le_refl _) _).setCell (p := ⟨w.heap.size, 1, none⟩) (Nat.le_refl _) _).setCell (p := ⟨w.heap.size, 2, none⟩) (Nat.le_refl _) _
        · rw [HR.out]
          rfl
      · rw [hgo] at HR
        have hX3 := HX.out.below hb3 hlt
        have d0 := hX3.frozen
        have d1 := hX3.fr
        have d2 := hX3.to
        have d3 := hX3.at_
        dsimp only [List.length_nil] at d1 d2 d3
        have HB3 := Lib.hid (HB.out.trans (hb3.mono (by omega)))
        clear hb3 hgo
        go_wp2_with fail
        refine bodyPost_ret (spAt_res rfl _ _ w.heap.size ⟨last + gx, last + gx + lx, ls, A2, c2⟩ rfl (hX3.setAll ⟨last + gx, last + gx + lx, ls, A2, c2⟩)) rfl ⟨?_, ?_⟩
        · exact ((HB3.out.setCell (p := ⟨w.heap.size, 0, none⟩) (Nat.le_refl _) _).setCell (p := ⟨w.heap.size, 1, none⟩) (Nat.le_refl _) _).setCell (p := ⟨w.heap.size, 2, none⟩) (Nat.le_refl _) _
        · rw [HR.out]
          exact ⟨A2, c2, rfl, (((ho.set _ (show w.heap.size < _ by omega)).set _ (show w.heap.size < _ by omega)).set _ (show w.heap.size < _ by omega)).base (by omega)⟩
    · have HR := Lib.hid (rdS_2 (last := last) hg hl)
      have HU := Lib.hid hU
      rcases hU2 with ⟨X, N, hU2⟩ | ⟨X, N, hx, hx2, hU2⟩
      · have HU2 := Lib.hid hU2
        clear hU hU2 hg hl
        go_enter Tryz.func88, Tryz.ntmps88
        go_wp2_with fail
        generalize w.alloc (.cells #[.int .i64 0, .int .i64 0, .slice none 0 0] 77) = W at *
        refine (HU.out W HL.out).mono ?_
        rintro e w1 ⟨rfl, rfl⟩
        go_wp2_with fail
        refine (HU2.out W HL.out).mono ?_
        rintro e w1 ⟨rfl, rfl⟩
        go_wp2_with fail
        refine bodyPost_ret (spAt_res rfl _ _ w.heap.size ⟨0, 0, [], none, 0⟩ rfl (HX.out.setAll ⟨0, 0, [], none, 0⟩)) rfl ⟨?_, ?_⟩
        · exact ((HB.out.setCell (p := ⟨w.heap.size, 0, none⟩) (Nat.le_refl _) _).setCell (p := ⟨w.heap.size, 1, none⟩) (Nat.le_refl _) _).setCell (p := ⟨w.heap.size, 2, none⟩) (Nat.le_refl _) _
        · rw [HR.out]
          rfl
      · have HU2 := Lib.hid hU2
        clear hU hU2 hg hl
        go_enter Tryz.func88, Tryz.ntmps88
        go_wp2_with fail
        generalize w.alloc (.cells #[.int .i64 0, .int .i64 0, .slice none 0 0] 77) = W at *
        refine (HU.out W HL.out).mono ?_
        rintro e w1 ⟨rfl, rfl⟩
        go_wp2_with fail
        refine (HU2.out W HL.out).mono ?_
        rintro e w1 ⟨rfl, rfl⟩
        go_wp2_with fail
        refine bodyPost_ret (spAt_res rfl _ _ w.heap.size ⟨0, 0, [], none, 0⟩ rfl (HX.out.setAll ⟨0, 0, [], none, 0⟩)) rfl ⟨?_, ?_⟩
        · exact ((HB.out.setCell (p := ⟨w.heap.size, 0, none⟩) (Nat.le_refl _) _).setCell (p := ⟨w.heap.size, 1, none⟩) (Nat.le_refl _) _).setCell (p := ⟨w.heap.size, 2, none⟩) (Nat.le_refl _) _
        · rw [HR.out]
          rfl
  · have HR := Lib.hid (rdS_1 (last := last) hg)
    rcases hU with ⟨X, N, hU⟩ | ⟨X, N, hx, hx2, hU⟩
    · have HU := Lib.hid hU
      clear hU hg
      go_enter Tryz.func88, Tryz.ntmps88
      go_wp2_with fail
      generalize w.alloc (.cells #[.int .i64 0, .int .i64 0, .slice none 0 0] 77) = W at *
      refine (HU.out W HL.out).mono ?_
      rintro e w1 ⟨rfl, rfl⟩
      go_wp2_with fail
      refine bodyPost_ret (spAt_res rfl _ _ w.heap.size ⟨0, 0, [], none, 0⟩ rfl (HX.out.setAll ⟨0, 0, [], none, 0⟩)) rfl ⟨?_, ?_⟩
      · exact ((HB.out.setCell (p := ⟨w.heap.size, 0, none⟩) (Nat.le_refl _) _).setCell (p := ⟨w.heap.size, 1, none⟩) (Nat.le_refl _) _).setCell (p := ⟨w.heap.size, 2, none⟩) (Nat.le_refl _) _
      · rw [HR.out]
        rfl
    · have HU := Lib.hid hU
      clear hU hg
      go_enter Tryz.func88, Tryz.ntmps88
      go_wp2_with fail
      generalize w.alloc (.cells #[.int .i64 0, .int .i64 0, .slice none 0 0] 77) = W at *
      refine (HU.out W HL.out).mono ?_
      rintro e w1 ⟨rfl, rfl⟩
      go_wp2_with fail
      refine bodyPost_ret (spAt_res rfl _ _ w.heap.size ⟨0, 0, [], none, 0⟩ rfl (HX.out.setAll ⟨0, 0, [], none, 0⟩)) rfl ⟨?_, ?_⟩
      · exact ((HB.out.setCell (p := ⟨w.heap.size, 0, none⟩) (Nat.le_refl _) _).setCell (p := ⟨w.heap.size, 1, none⟩) (Nat.le_refl _) _).setCell (p := ⟨w.heap.size, 2, none⟩) (Nat.le_refl _) _
      · rw [HR.out]
        rfl
end Go.Proofs.YtbkfkdiadeaooaaGreat

namespace Go.Proofs.YtbkfkdiadeaooaaGreat
open Go Go.RowKit

/-- so many spans from a place on: they, the place behind, where the last one ends -/
def runS (b : List UInt8) (k0 : Nat) : Nat → Option (List Sp × Nat × Int)
  | 0 => some ([], k0, 0)
  | j + 1 => (runS b k0 j).bind fun s => (rdS b s.2.1 s.2.2).map fun q => (s.1 ++ [q.1], q.2, q.1.t)
theorem runS_succ {b : List UInt8} {k0 j k n : Nat} {ls : List Sp} {last : Int} {x : Sp} (h : runS b k0 j = some (ls, k, last)) (hr : rdS b k last = some (x, n)) : runS b k0 (j + 1) = some (ls ++ [x], n, x.t) := by
  rw [runS, h]
  simp only [Option.bind_some]
  rw [hr]
  rfl
theorem runS_stop {b : List UInt8} {k0 j k : Nat} {ls : List Sp} {last : Int} (h : runS b k0 j = some (ls, k, last)) (hr : rdS b k last = none) : runS b k0 (j + 1) = none := by
  rw [runS, h]
  simp only [Option.bind_some]
  rw [hr]
  rfl
theorem runS_none {b : List UInt8} {k0 j m : Nat} (h : runS b k0 j = none) : runS b k0 (j + m) = none := by
  induction m with
  | zero => exact h
  | succ m ih => rw [← Nat.add_assoc, runS, ih]; rfl
theorem runS_has {b : List UInt8} {k0 : Nat} (hk : k0 ≤ b.length) : ∀ {j k : Nat} {ls : List Sp} {last : Int}, runS b k0 j = some (ls, k, last) → k0 ≤ k ∧ k ≤ b.length ∧ ls.length = j ∧ 0 ≤ last ∧ last ≤ j * 33554432 ∧ ∀ x ∈ ls, x.a.length ≤ 16 ∧ ∀ y ∈ x.a, y.Rng
  | 0, k, ls, last, h => by
    simp only [runS, Option.some.injEq, Prod.mk.injEq] at h
    obtain ⟨rfl, rfl, rfl⟩ := h
    exact ⟨Nat.le_refl _, hk, rfl, by omega, by omega, fun x hx => absurd hx (by simp)⟩
  | j + 1, k, ls, last, h => by
    rw [runS] at h
    cases h1 : runS b k0 j with
    | none => rw [h1] at h; cases h
    | some s =>
      obtain ⟨ls', k', last'⟩ := s
      rw [h1] at h
      simp only [Option.bind_some] at h
      cases h2 : rdS b k' last' with
      | none => rw [h2] at h; cases h
      | some q =>
        obtain ⟨x, n⟩ := q
        rw [h2] at h
        simp only [Option.map_some, Option.some.injEq, Prod.mk.injEq] at h
        obtain ⟨rfl, rfl, rfl⟩ := h
        obtain ⟨a1, a2, a3, a4, a5, a6⟩ := runS_has hk h1
        obtain ⟨b1, b2, b3, b4, b5, b6, b7, b8, _, _⟩ := rdS_has h2
        refine ⟨by omega, by omega, by simp [a3], by omega, by omega, fun y hy => ?_⟩
        rcases List.mem_append.1 hy with hy | hy
        · exact a6 y hy
        · rw [List.mem_singleton] at hy
          subst hy
          exact ⟨b7, b8⟩
def qsp (q : Ps × Nat) : Sp := q.1.sp
/-- q is read next behind pre -/
def NxS (b : List UInt8) (k0 M B : Nat) (pre : List (Ps × Nat)) (q : Ps × Nat) (W : World) : Prop :=
  ∃ k last, runS b k0 pre.length = some (pre.map qsp, k, last) ∧ pre.length < M ∧ rdS b k last = some (q.1.sp, q.2) ∧ LOwn W B (.slice q.1.A q.1.a.length q.1.c) q.1.a
/-- all is read, or no more can be -/
def SdS (b : List UInt8) (k0 M : Nat) (xs : List (Ps × Nat)) : Prop :=
  ∃ k last, runS b k0 xs.length = some (xs.map qsp, k, last) ∧ (xs.length = M ∨ (xs.length < M ∧ rdS b k last = none))

theorem said_any (A : Option Addr) (n c : Nat) (i m : Int) (w : World) : Calls Tryz.prog 64 #[.slice A n c, .int .i64 i, .int .i64 m] w fun e w' =>
    e = .returned (.func (.func 87) #[] #[.pointer (some ⟨w.heap.size + 1 + 1, 0, none⟩), .pointer (some ⟨w.heap.size, 0, none⟩), .pointer (some ⟨w.heap.size + 1, 0, none⟩)]) ∧
      ((w.alloc (.cells #[.slice A n c] 22)).alloc (.cells #[.int .i64 i] 3)).alloc (.cells #[.int .i64 m] 3) = w' := by
  go_enter Tryz.func64, Tryz.ntmps64
  go_wp2
  go_ret
  exact ⟨rfl, rfl⟩

attribute [local go_sem] Oper.semAt_some wideFn wideDepth
set_option maxRecDepth 100000 in
set_option maxHeartbeats 4000000 in
theorem said_seq (gm gb ga n0 c M k0 : Nat) (A : Option Addr) (b : List UInt8) (w : World) (hgm : gm < w.heap.size) (hgb : gb < w.heap.size) (hga : ga < w.heap.size) (hna : n0 ≤ ga) (hcm : w.cell? ⟨gm, 0, none⟩ = some (.int .i64 M)) (hcb : w.cell? ⟨gb, 0, none⟩ = some (.slice A b.length c))
    (hca : Boxed w ga 3 (.int .i64 k0)) (hP : Lies w n0 A b) (hn : n0 ≤ w.heap.size) (hM : M ≤ 4000) (hk0 : k0 ≤ b.length) (hsz : b.length ≤ 1099511627776) :
    SeqC 87 #[.pointer (some ⟨gm, 0, none⟩), .pointer (some ⟨gb, 0, none⟩), .pointer (some ⟨ga, 0, none⟩)] (fun q : Ps × Nat => #[.agg (pK q.1), .int .i64 q.2]) (fun k => k = ga) (fun k => k < n0 ∨ k = gb ∨ k = ga)
      (NxS b k0 M w.heap.size) (SdS b k0 M) w := by
  intro l J Jx W hz hb hJ hJx hY h0
  have hcM := (hb.cell (p := ⟨gm, 0, none⟩) hgm).trans hcm
  have hcB := (hb.cell (p := ⟨gb, 0, none⟩) hgb).trans hcb
  have hbB := hb.block gb hgb
  have hbA : Boxed W ga 3 (.int .i64 k0) := Boxed.below hca hb hga
  have hPW := Lib.hid (hP.below (hb.mono hn))
  have hzw := hb.size
  clear hcm hcb hca hP
  have hzh := Lib.hid hz
  clear hz
  refine callsIn_of_wp Tryz.func87 rfl trivial ?_ rfl
  simp only [Tryz.ntmps87, List.size_toArray, List.length_cons, List.length_nil, Nat.reduceAdd, Nat.reduceSub, Array.replicate_succ, Array.replicate_zero, List.push_toArray, List.append_toArray, List.nil_append, List.cons_append]
  have hMi : (M : Int) ≤ 4000 := by omega
  gi_wp2
  gi_loopw [5, 10] (fun a i wr => ∃ (j k : Nat) (last : Int) (pre : List (Ps × Nat)), j ≤ M ∧ i = .int .i64 j ∧ a = .int .i64 last ∧ Hid (runS b k0 j = some (pre.map qsp, k, last)) ∧ Hid (pre.length = j) ∧ Hid (J pre wr) ∧ Hid (Below n0 W wr) ∧ Hid (Boxed wr ga 3 (.int .i64 k)) ∧ Hid (wr.cell? ⟨gb, 0, none⟩ = some (.slice A b.length c)) ∧ w.heap.size ≤ wr.heap.size) (fun _ i _ => M - (intOf i).toNat)
  case atStart => exact ⟨0, k0, 0, [], by omega, rfl, rfl, rfl, rfl, h0, Below.refl _ _, hbA, hcB, hzw⟩
  case round =>
    obtain ⟨j, k, last, pre, hj, rfl, rfl, hR, hpl, hJr, hBr, hAr, hcr, hnr⟩ := hrel
    by_cases hlt : j < M
    · obtain ⟨q1, q2, q3, q4, q5, _⟩ := runS_has hk0 hR.out
      have hcb2 := hcr.out
      have hca2 := hAr.out.cell
      have HLI := Lib.hid ((hPW.out.below hBr.out).more (show n0 ≤ wr.heap.size by omega))
      have HRD := Lib.hid (read7_any A c b k last wr q2 hsz q4 (by omega) HLI.out)
      clear q1 q3
      cases hrd : rdS b k last with
      | none =>
        rw [hrd] at HRD
        have HSD := Lib.hid (show SdS b k0 M pre from ⟨k, last, by rw [hpl.out]; exact hR.out, .inr ⟨by rw [hpl.out]; exact hlt, hrd⟩⟩)
        clear hrd
        gi_wp2_with (gi_at_call 88; refine (callsIn_wide.2 HRD.out).mono ?_; rintro e w1 ⟨hb1, rfl⟩)
        refine bodyPost_ret (results_none rfl _ _ _) rfl ?_
        exact ⟨⟨_, rfl⟩, .inl ⟨_, HSD.out, hJ _ _ _ (lets_alloc _ _) (hJ _ _ _ (lets_below hb1) hJr.out)⟩⟩
      | some q =>
        obtain ⟨⟨xf, xt, xa⟩, n⟩ := q
        rw [hrd] at HRD
        have HRS := Lib.hid (runS_succ hR.out hrd)
        have HRB := Lib.hid (rdS_has hrd)
        have hga2 : ga < wr.heap.size := by omega
        have hgb2 : gb < wr.heap.size := by omega
        clear q4 q5
        gi_wp2_with (gi_at_call 88
                     refine (callsIn_wide.2 HRD.out).mono ?_
                     rintro e w1 ⟨hb1, A1, c1, rfl, ho1⟩
                     have hz1 := hb1.size
                     have hbn := below_lnew w1 (.cells (pK ⟨xf, xt, xa, A1, c1⟩) 77)
                     have HX := Lib.hid (spAt_new w1 ⟨xf, xt, xa, A1, c1⟩)
                     have HBW := Lib.hid (hb1.trans (hbn.mono hz1))
                     have hnx : NxS b k0 M w.heap.size pre (⟨xf, xt, xa, A1, c1⟩, n) _ := ⟨k, last, by rw [hpl.out]; exact hR.out, by rw [hpl.out]; exact hlt, hrd, (ho1.below hbn).base hnr⟩
                     obtain ⟨fn, tmps, assign, body, hy, hRR⟩ := hY pre (⟨xf, xt, xa, A1, c1⟩, n) wr _ hJr.out (lets_below HBW.out) hnx
                     simp only [pK] at hy HX HBW hRR
                     clear hbn hb1 ho1)
        refine hRR.mono ?_
        rintro e W3 (⟨rfl, hJ3, hk3⟩ | ⟨rfl, hJx3⟩)
        · have hs3 : SpAt W3 w1.heap.size ⟨xf, xt, xa, A1, c1⟩ := hk3.blk _ _ HX.out (.inr hz1)
          have d1 := hs3.to
          have ha3 : Boxed W3 ga 3 (.int .i64 k) := hk3.blk _ _ ((HBW.out.block ga hga2).trans hAr.out) (.inl (.inr (.inr rfl)))
          have hc3 : W3.cell? ⟨gb, 0, none⟩ = some (.slice A b.length c) := by
            have h1 := (HBW.out.cell (p := ⟨gb, 0, none⟩) hgb2).trans hcr.out
            obtain ⟨o, ho, _⟩ := cells_of_cell h1
            exact (World.cell?_of_block ((hk3.blk _ _ ho (.inl (.inr (.inl rfl)))).trans ho.symm)).trans h1
          have ac := ha3.cell
          have af := ha3.frozen
          have hz3 := hk3.size
          simp only [World.size_alloc] at hz3
          have HB3 := Lib.hid (hBr.out.trans ((HBW.out.mono (show n0 ≤ wr.heap.size by omega)).trans (hk3.old (n := n0) (fun _ h => .inl h) (by simp; omega))))
          have HJ3 := Lib.hid (hJ _ _ _ (lets_set (E := fun k => k = ga) W3 ⟨ga, 0, none⟩ (.int .i64 n) rfl) hJ3)
          have HA3 := Lib.hid (Boxed.set (.int .i64 n) ha3)
          have HPL := Lib.hid (show (pre ++ [((⟨xf, xt, xa, A1, c1⟩ : Ps), n)]).length = j + 1 by rw [List.length_append, hpl.out]; rfl)
          have HMP := Lib.hid (show (pre ++ [((⟨xf, xt, xa, A1, c1⟩ : Ps), n)]).map qsp = pre.map qsp ++ [⟨xf, xt, xa⟩] by rw [List.map_append]; rfl)
          have HC3 := Lib.hid (show (W3.setCell ⟨ga, 0, none⟩ (.int .i64 n)).cell? ⟨gb, 0, none⟩ = some (.slice A b.length c) from by
            by_cases e : gb = ga
            · exfalso
              subst e
              rw [ac] at hc3
              cases hc3
            · exact (World.cell?_of_block (Below.heap_setCell W3 ⟨ga, 0, none⟩ (.int .i64 n) gb (fun q => e q))).trans hc3)
          dsimp only at d1
          clear hs3 hk3 ha3 hc3 hJ3
          gi_wp2
          go_roundw
          case rel => exact ⟨j + 1, n, xt, pre ++ [(⟨xf, xt, xa, A1, c1⟩, n)], by omega, by go_num, rfl, by rw [HMP.out]; exact HRS, HPL, HJ3, HB3.out.setCell (p := ⟨ga, 0, none⟩) hna _, HA3, HC3, by simp; omega⟩
          case measure => simp [intOf]; omega
        · gi_wp2
          refine bodyPost_ret (results_none rfl _ _ _) rfl ?_
          exact ⟨⟨_, rfl⟩, .inr ⟨_, hJx3⟩⟩
    · obtain rfl : j = M := by omega
      gi_wp2
      go_end0
      exact ⟨⟨_, rfl⟩, .inl ⟨_, ⟨k, last, by rw [hpl.out]; exact hR.out, .inl hpl.out⟩, hJr.out⟩⟩
end Go.Proofs.YtbkfkdiadeaooaaGreat
