/-
  A span's bytes read: as data; the contract of locs.read.
-/
import Derived.Test.YtggofdahnbchjaaL7I
namespace Go.Proofs.Ytggofdahnbchjaa
open Go Go.RowKit

/-- a number of at most 2^24 at a place, and the place behind it -/
def num7 (b : List UInt8) (k : Nat) : Option (Nat × Nat) := if good false (b.drop k) ∧ hv false (b.drop k) ≤ 16777216 then some ((hv false (b.drop k)).toNat, k + lg (b.drop k) 10) else none
/-- a span at a place, and the place behind it -/
def rdS (b : List UInt8) (k : Nat) (last : Int) : Option (Sp × Nat) :=
  (num7 b k).bind fun g => (num7 b g.2).bind fun l => (gotO b l.2).map fun q => (⟨last + g.1, last + g.1 + l.1, q.1⟩, q.2)
theorem num7_has {b : List UInt8} {k x n : Nat} (h : num7 b k = some (x, n)) : good false (b.drop k) ∧ hv false (b.drop k) = x ∧ k + lg (b.drop k) 10 = n ∧ k + 1 ≤ n ∧ n ≤ b.length ∧ x ≤ 16777216 ∧ (b.drop k).take (n - k) = nB false x := by
  unfold num7 at h
  split at h
  · rename_i hg
    simp only [Option.some.injEq, Prod.mk.injEq] at h
    obtain ⟨h1, h2⟩ := h
    have hr := hv_rng hg.1
    simp only [rng, Bool.false_eq_true, if_false] at hr
    have h3 : hv false (b.drop k) = x := by omega
    obtain ⟨g1, g2, _, _⟩ := lg_has 10 (b.drop k) hg.1.1
    have g0 := hg.1.1
    simp at g2
    refine ⟨hg.1, h3, h2, by omega, by omega, by omega, ?_⟩
    rw [← h2, ← h3, Nat.add_sub_cancel_left]
    exact good_take hg.1
  · cases h
def URet (A : Option Addr) (c : Nat) (b : List UInt8) (k : Nat) (X N E : Int) : Prop :=
  ∀ w : World, Lies w w.heap.size A b → Calls Try.prog 40 #[.slice A b.length c, .int .i64 k] w fun e w' => e = .returned (.tuple #[.int .u64 X, .int .i64 N, .int .i64 E]) ∧ w = w'
theorem u7_cases (A : Option Addr) (c : Nat) (b : List UInt8) (k : Nat) (hk : k ≤ b.length) (hn : b.length ≤ 1099511627776) :
    (∃ x n : Nat, num7 b k = some (x, n) ∧ k + 1 ≤ n ∧ n ≤ b.length ∧ x ≤ 16777216 ∧ URet A c b k x n 0) ∨ (num7 b k = none ∧ ((∃ X N, URet A c b k X N 5) ∨ ∃ X N, 16777216 < X ∧ X < 18446744073709551616 ∧ URet A c b k X N 0)) := by
  by_cases hg : good false (b.drop k)
  · obtain ⟨q1, q2, q3⟩ := rd_ok hk hg
    have hr := hv_rng hg
    simp only [rng, Bool.false_eq_true, if_false] at hr
    by_cases h16 : hv false (b.drop k) ≤ 16777216
    · have h1 : num7 b k = some ((hv false (b.drop k)).toNat, k + lg (b.drop k) 10) := if_pos ⟨hg, h16⟩
      obtain ⟨_, h3, h4, h5, h6, h7, _⟩ := num7_has h1
      refine .inl ⟨_, _, h1, h5, h6, h7, fun w hw => ?_⟩
      have := U_any A c b k w w.heap.size hn hw
      rw [q1, q2, q3, h3] at this
      exact this
    · refine .inr ⟨if_neg (fun q => h16 q.2), .inr ⟨hv false (b.drop k), k + lg (b.drop k) 10, by omega, hr.2, fun w hw => ?_⟩⟩
      have := U_any A c b k w w.heap.size hn hw
      rw [q1, q2, q3] at this
      exact this
  · obtain ⟨q1, q2, q3⟩ := rd_form hk hg
    refine .inr ⟨if_neg (fun q => hg q.1), .inl ⟨0, 0, fun w hw => ?_⟩⟩
    have := U_any A c b k w w.heap.size hn hw
    rw [q1, q2, q3] at this
    exact this
theorem rdS_1 {b : List UInt8} {k : Nat} {last : Int} (h : num7 b k = none) : rdS b k last = none := by unfold rdS; rw [h]; rfl
theorem rdS_2 {b : List UInt8} {k x n : Nat} {last : Int} (h : num7 b k = some (x, n)) (h2 : num7 b n = none) : rdS b k last = none := by unfold rdS; rw [h]; simp only [Option.bind_some]; rw [h2]; rfl
theorem rdS_3 {b : List UInt8} {k x n y m : Nat} {last : Int} (h : num7 b k = some (x, n)) (h2 : num7 b n = some (y, m)) : rdS b k last = (gotO b m).map fun q => (⟨last + x, last + x + y, q.1⟩, q.2) := by unfold rdS; rw [h]; simp only [Option.bind_some]; rw [h2]; rfl
/-- what a span's bytes are -/
def encS (q : Int × Sp) : List UInt8 := nB false (q.2.f - q.1) ++ (nB false (q.2.t - q.2.f) ++ ownC q.2.a)
theorem rdS_has {b : List UInt8} {k n : Nat} {last : Int} {x : Sp} (h : rdS b k last = some (x, n)) : last ≤ x.f ∧ x.f ≤ last + 16777216 ∧ x.f ≤ x.t ∧ x.t ≤ x.f + 16777216 ∧ k + 3 ≤ n ∧ n ≤ b.length ∧ x.a.length ≤ 16 ∧ (∀ y ∈ x.a, y.Rng) ∧ rightC x.a = true ∧ (b.drop k).take (n - k) = encS (last, x) := by
  unfold rdS at h
  cases h1 : num7 b k with
  | none => rw [h1] at h; cases h
  | some g =>
    obtain ⟨gx, gn⟩ := g
    rw [h1] at h
    simp only [Option.bind_some] at h
    cases h2 : num7 b gn with
    | none => rw [h2] at h; cases h
    | some l =>
      obtain ⟨lx, ln⟩ := l
      rw [h2] at h
      simp only [Option.bind_some] at h
      cases h3 : gotO b ln with
      | none => rw [h3] at h; cases h
      | some q =>
        obtain ⟨qa, qn⟩ := q
        rw [h3] at h
        simp only [Option.map_some, Option.some.injEq, Prod.mk.injEq] at h
        obtain ⟨rfl, rfl⟩ := h
        obtain ⟨_, _, _, a1, a2, a3, a4⟩ := num7_has h1
        obtain ⟨_, _, _, b1, b2, b3, b4⟩ := num7_has h2
        obtain ⟨c1, c2, c3, c4, c5⟩ := gotO_has h3
        refine ⟨by dsimp only; omega, by dsimp only; omega, by dsimp only; omega, by dsimp only; omega, by omega, c4, right_len c1, c2, c1, ?_⟩
        unfold encS
        dsimp only
        rw [show last + (gx : Int) - last = gx by omega, show last + (gx : Int) + lx - (last + gx) = lx by omega, ← a4, ← b4, ← c5]
        rw [show qn - k = (gn - k) + ((ln - gn) + (qn - ln)) by omega, List.take_add, List.drop_drop, show k + (gn - k) = gn by omega, List.take_add, List.drop_drop, show gn + (ln - gn) = ln by omega]

def ReadR7 (o : Option (Sp × Nat)) (w : World) (e : Ending) (w' : World) : Prop :=
  Below w.heap.size w w' ∧ match o with
    | none => e = .returned (.tuple #[.agg #[.int .i64 0, .int .i64 0, .slice none 0 0], .int .i64 0, .bool false])
    | some (x, n) => ∃ A c, e = .returned (.tuple #[.agg #[.int .i64 x.f, .int .i64 x.t, .slice A x.a.length c], .int .i64 n, .bool true]) ∧ LOwn w' w.heap.size (.slice A x.a.length c) x.a
theorem get6_k (A : Option Addr) (c : Nat) (b : List UInt8) (k : Nat) (w : World) (hk : k ≤ b.length) (hn : b.length ≤ 1099511627776) (h : Lies w w.heap.size A b) :
    Calls Try.prog 72 #[.slice A b.length c, .int .i64 k] w fun e w' => Below w.heap.size w w' ∧ ((∃ A2 c2, gotO b k = none ∧ e = .returned (.tuple #[.slice A2 0 c2, .int .i64 0, .int .i64 5])) ∨ ∃ l n A2 c2, gotO b k = some (l, n) ∧ e = .returned (.tuple #[.slice A2 l.length c2, .int .i64 n, .int .i64 0]) ∧ LOwn w' w.heap.size (.slice A2 l.length c2) l) := by
  refine (get6_any A c b k w hn h).mono ?_
  rintro e w' ⟨v, rfl, ho, hb⟩
  refine ⟨hb, ?_⟩
  cases hg : gotO b k with
  | none =>
    obtain ⟨g1, g2, g3⟩ := ge_none hk hg
    rw [g2] at ho
    rw [g1, g3]
    obtain ⟨A2, c2, rfl, _⟩ := ho.form
    exact .inl ⟨A2, c2, rfl, rfl⟩
  | some q =>
    obtain ⟨l, n⟩ := q
    obtain ⟨g1, g2, g3⟩ := ge_some hk hg
    rw [g2] at ho
    rw [g1, g3]
    obtain ⟨A2, c2, rfl, _⟩ := ho.form
    exact .inr ⟨l, n, A2, c2, rfl, rfl, ho⟩

theorem spAt_res {fn : Func} {p u v : Tmp} (h : fn.results = #[.cell p 46, .tmp u, .tmp v]) (tmps : Array Value) (w : World) (g : Nat) (r : Ps) (hp : tmps.getD p undef = .pointer (some ⟨g, 0, none⟩)) (hs : SpAt w g r) :
    (results fn tmps).run Try.prog w = .ok (.tuple #[.agg (pK r), tmps.getD u undef, tmps.getD v undef]) w := res_row_tmp2 h tmps w g 46 (pK r) (0, 0) _ hp hs Try.underlying46 rfl (by kernel_rfl)
set_option maxRecDepth 100000 in
set_option maxHeartbeats 4000000 in
theorem read7_any (A : Option Addr) (c : Nat) (b : List UInt8) (k : Nat) (last : Int) (w : World) (hk : k ≤ b.length) (hn : b.length ≤ 1099511627776) (h0 : 0 ≤ last) (h1 : last ≤ 1099511627776) (h : Lies w w.heap.size A b) :
    Calls Try.prog 59 #[.slice A b.length c, .int .i64 k, .int .i64 last] w (ReadR7 (rdS b k last) w) := by
  have hb0 := below_lnew w (.cells #[.int .i64 0, .int .i64 0, .slice none 0 0] 46)
  have HX := Lib.hid (spAt_new w ⟨0, 0, [], none, 0⟩)
  have HL := Lib.hid ((h.below hb0).more (show w.heap.size ≤ (w.alloc (.cells #[.int .i64 0, .int .i64 0, .slice none 0 0] 46)).heap.size by simp))
  have HB := Lib.hid hb0
  unfold pK at HX
  simp only [List.length_nil] at HX
  have hzW : (w.alloc (.cells #[.int .i64 0, .int .i64 0, .slice none 0 0] 46)).heap.size = w.heap.size + 1 := by simp
  have hcf := HX.out.frozen
  have hc0 := HX.out.fr
  have hc1 := HX.out.to
  have hc2 := HX.out.at_
  have hlt := HX.out.lt
  dsimp only [List.length_nil] at hc0 hc1 hc2
  clear h hb0
  rcases u7_cases A c b k hk hn with ⟨gx, gn, hg, hg1, hg2, hg3, hU⟩ | ⟨hg, hU⟩
  · rcases u7_cases A c b gn hg2 hn with ⟨lx, ln, hl, hl1, hl2, hl3, hU2⟩ | ⟨hl, hU2⟩
    · have HR := Lib.hid (rdS_3 (last := last) hg hl)
      have HU := Lib.hid hU
      have HU2 := Lib.hid hU2
      clear hU hU2 hg hl
      go_enter Try.func59, Try.ntmps59
      go_wp2_with fail
      generalize w.alloc (.cells #[.int .i64 0, .int .i64 0, .slice none 0 0] 46) = W at *
      refine (HU.out W HL.out).mono ?_
      rintro e w1 ⟨rfl, rfl⟩
      go_wp2_with fail
      refine (HU2.out W HL.out).mono ?_
      rintro e w1 ⟨rfl, rfl⟩
      go_wp2_with fail
      refine (get6_k A c b ln W hl2 hn HL.out).mono ?_
      rintro e w3 ⟨hb3, ⟨A2, c2, hno, rfl⟩ | ⟨ls, n, A2, c2, hgo, rfl, ho⟩⟩
      · rw [hno] at HR
        have hX3 := HX.out.below hb3 hlt
        have d0 := hX3.frozen
        have d1 := hX3.fr
        have d2 := hX3.to
        have d3 := hX3.at_
        dsimp only [List.length_nil] at d1 d2 d3
        have HB3 := Lib.hid (HB.out.trans (hb3.mono (by omega)))
        clear hb3 hno
        go_wp2_with fail
        refine bodyPost_ret (spAt_res rfl _ _ w.heap.size ⟨0, 0, [], none, 0⟩ rfl (hX3.setAll ⟨0, 0, [], none, 0⟩)) rfl ⟨?_, ?_⟩
        · exact ((HB3.out.setCell (p := ⟨w.heap.size, 0, none⟩) (Nat.le_refl _) _).setCell (p := ⟨w.heap.size, 1, none⟩) (Nat.le_refl _) _).setCell (p := ⟨w.heap.size, 2, none⟩) (Nat.le_refl _) _
        · rw [HR.out]
          rfl
      · rw [hgo] at HR
        have hX3 := HX.out.below hb3 hlt
        have d0 := hX3.frozen
        have d1 := hX3.fr
        have d2 := hX3.to
        have d3 := hX3.at_
        dsimp only [List.length_nil] at d1 d2 d3
        have HB3 := Lib.hid (HB.out.trans (hb3.mono (by omega)))
        clear hb3 hgo
        go_wp2_with fail
        refine bodyPost_ret (spAt_res rfl _ _ w.heap.size ⟨last + gx, last + gx + lx, ls, A2, c2⟩ rfl (hX3.setAll ⟨last + gx, last + gx + lx, ls, A2, c2⟩)) rfl ⟨?_, ?_⟩
        · exact ((HB3.out.setCell (p := ⟨w.heap.size, 0, none⟩) (Nat.le_refl _) _).setCell (p := ⟨w.heap.size, 1, none⟩) (Nat.le_refl _) _).setCell (p := ⟨w.heap.size, 2, none⟩) (Nat.le_refl _) _
        · rw [HR.out]
          exact ⟨A2, c2, rfl, (((ho.set _ (show w.heap.size < _ by omega)).set _ (show w.heap.size < _ by omega)).set _ (show w.heap.size < _ by omega)).base (by omega)⟩
    · have HR := Lib.hid (rdS_2 (last := last) hg hl)
      have HU := Lib.hid hU
      rcases hU2 with ⟨X, N, hU2⟩ | ⟨X, N, hx, hx2, hU2⟩
      · have HU2 := Lib.hid hU2
        clear hU hU2 hg hl
        go_enter Try.func59, Try.ntmps59
        go_wp2_with fail
        generalize w.alloc (.cells #[.int .i64 0, .int .i64 0, .slice none 0 0] 46) = W at *
        refine (HU.out W HL.out).mono ?_
        rintro e w1 ⟨rfl, rfl⟩
        go_wp2_with fail
        refine (HU2.out W HL.out).mono ?_
        rintro e w1 ⟨rfl, rfl⟩
        go_wp2_with fail
        refine bodyPost_ret (spAt_res rfl _ _ w.heap.size ⟨0, 0, [], none, 0⟩ rfl (HX.out.setAll ⟨0, 0, [], none, 0⟩)) rfl ⟨?_, ?_⟩
        · exact ((HB.out.setCell (p := ⟨w.heap.size, 0, none⟩) (Nat.le_refl _) _).setCell (p := ⟨w.heap.size, 1, none⟩) (Nat.le_refl _) _).setCell (p := ⟨w.heap.size, 2, none⟩) (Nat.le_refl _) _
        · rw [HR.out]
          rfl
      · have HU2 := Lib.hid hU2
        clear hU hU2 hg hl
        go_enter Try.func59, Try.ntmps59
        go_wp2_with fail
        generalize w.alloc (.cells #[.int .i64 0, .int .i64 0, .slice none 0 0] 46) = W at *
        refine (HU.out W HL.out).mono ?_
        rintro e w1 ⟨rfl, rfl⟩
        go_wp2_with fail
        refine (HU2.out W HL.out).mono ?_
        rintro e w1 ⟨rfl, rfl⟩
        go_wp2_with fail
        refine bodyPost_ret (spAt_res rfl _ _ w.heap.size ⟨0, 0, [], none, 0⟩ rfl (HX.out.setAll ⟨0, 0, [], none, 0⟩)) rfl ⟨?_, ?_⟩
        · exact ((HB.out.setCell (p := ⟨w.heap.size, 0, none⟩) (Nat.le_refl _) _).setCell (p := ⟨w.heap.size, 1, none⟩) (Nat.le_refl _) _).setCell (p := ⟨w.heap.size, 2, none⟩) (Nat.le_refl _) _
        · rw [HR.out]
          rfl
  · have HR := Lib.hid (rdS_1 (last := last) hg)
    rcases hU with ⟨X, N, hU⟩ | ⟨X, N, hx, hx2, hU⟩
    · have HU := Lib.hid hU
      clear hU hg
      go_enter Try.func59, Try.ntmps59
      go_wp2_with fail
      generalize w.alloc (.cells #[.int .i64 0, .int .i64 0, .slice none 0 0] 46) = W at *
      refine (HU.out W HL.out).mono ?_
      rintro e w1 ⟨rfl, rfl⟩
      go_wp2_with fail
      refine bodyPost_ret (spAt_res rfl _ _ w.heap.size ⟨0, 0, [], none, 0⟩ rfl (HX.out.setAll ⟨0, 0, [], none, 0⟩)) rfl ⟨?_, ?_⟩
      · exact ((HB.out.setCell (p := ⟨w.heap.size, 0, none⟩) (Nat.le_refl _) _).setCell (p := ⟨w.heap.size, 1, none⟩) (Nat.le_refl _) _).setCell (p := ⟨w.heap.size, 2, none⟩) (Nat.le_refl _) _
      · rw [HR.out]
        rfl
    · have HU := Lib.hid hU
      clear hU hg
      go_enter Try.func59, Try.ntmps59
      go_wp2_with fail
      generalize w.alloc (.cells #[.int .i64 0, .int .i64 0, .slice none 0 0] 46) = W at *
      refine (HU.out W HL.out).mono ?_
      rintro e w1 ⟨rfl, rfl⟩
      go_wp2_with fail
      refine bodyPost_ret (spAt_res rfl _ _ w.heap.size ⟨0, 0, [], none, 0⟩ rfl (HX.out.setAll ⟨0, 0, [], none, 0⟩)) rfl ⟨?_, ?_⟩
      · exact ((HB.out.setCell (p := ⟨w.heap.size, 0, none⟩) (Nat.le_refl _) _).setCell (p := ⟨w.heap.size, 1, none⟩) (Nat.le_refl _) _).setCell (p := ⟨w.heap.size, 2, none⟩) (Nat.le_refl _) _
      · rw [HR.out]
        rfl
end Go.Proofs.Ytggofdahnbchjaa
