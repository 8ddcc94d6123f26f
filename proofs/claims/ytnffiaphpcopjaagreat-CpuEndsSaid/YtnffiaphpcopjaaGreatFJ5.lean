/-
  Merged for a claim: C4K2, C4L2, C4S, C4T.
-/
import Derived.Test.YtnffiaphpcopjaaGreatFC4K
import Derived.Test.YtnffiaphpcopjaaGreatFC4L
import Derived.Test.YtnffiaphpcopjaaGreatFC4Q
namespace Go.Proofs.YtnffiaphpcopjaaGreat
open Go Go.RowKit

section
variable {w : World} {S : Nat → Prop} {g : Nat} {m : Mc} {p : Mp}
theorem pc_any (h : MIn w S g m p) : Calls Tryz.prog 17 #[.pointer (some ⟨g, 0, none⟩)] w fun e w' => e = .returned (.int .i64 m.pc) ∧ w = w' := by
  have c := h.cells.2.1
  clear h
  go_enter Tryz.func17, Tryz.ntmps17
  go_wp2
  go_ret
  exact ⟨rfl, rfl⟩
theorem left_any (h : MIn w S g m p) : Calls Tryz.prog 24 #[.pointer (some ⟨g, 0, none⟩)] w fun e w' => e = .returned (.int .i64 m.input.length) ∧ w = w' := by
  have c := h.cells.2.2.2.2.1
  clear h
  go_enter Tryz.func24, Tryz.ntmps24
  go_wp2
  go_ret
  exact ⟨rfl, rfl⟩
set_option maxRecDepth 100000 in
theorem words_any (h : MIn w S g m p) (hl : m.words.length ≤ 1099511627776) : Calls Tryz.prog 22 #[.pointer (some ⟨g, 0, none⟩)] w (MadeI w m.words) := by
  have c := h.cells.2.2.2.1
  have HC := Lib.hid (cloneI_some ⟨p.gw, 0, none⟩ m.words.length m.words w (fun _ => ⟨p.gw, 0, rfl, h.lt _ h.gwS, fun j hj => by rw [Nat.zero_add]; exact h.words.cell hj⟩) hl)
  clear h
  go_enter Tryz.func22, Tryz.ntmps22
  go_wp2_with fail
  refine HC.out.mono ?_
  rintro e w1 ⟨v, rfl, h1⟩
  obtain ⟨A1, c1, rfl⟩ := h1.1.form
  have H1 := Lib.hid h1
  clear h1
  go_wp2_with fail
  go_ret
  exact ⟨_, rfl, H1.out⟩
end

end Go.Proofs.YtnffiaphpcopjaaGreat

namespace Go.Proofs.YtnffiaphpcopjaaGreat
open Go Go.RowKit

section
variable {w : World} {S : Nat → Prop} {g : Nat} {m : Mc} {p : Mp}
def StepR (m : Mc) (S : Nat → Prop) (g : Nat) (w : World) (e : Ending) (w' : World) : Prop := e = .returned (.int .u8 (stepM m).how) ∧ ∃ p', MIn w' (grow S w w') g (stepM m) p' ∧ Keeps S w w'
set_option maxRecDepth 100000 in
theorem step_any (h : MIn w S g m p) (ho : Okm m 0) : Calls Tryz.prog 14 #[.pointer (some ⟨g, 0, none⟩)] w (StepR m S g w) := by
  have HH := Lib.hid (how_any h)
  by_cases h0 : m.how = 0
  · have HS := Lib.hid (show stepM m = doM m by unfold stepM; rw [if_pos h0])
    have HD := Lib.hid (do_all h ho)
    rw [h0] at HH
    clear h0 h ho
    unfold DoR at HD
    go_enter Tryz.func14, Tryz.ntmps14
    go_wp2_with fail
    refine HH.out.mono ?_
    rintro e w' ⟨rfl, rfl⟩
    go_wp2_with fail
    refine HD.out.mono ?_
    rintro e w1 ⟨rfl, p', h1, h2⟩
    have H1 := Lib.hid h1
    have H2 := Lib.hid h2
    have HH1 := Lib.hid (how_any h1)
    clear h1 h2
    go_wp2_with fail
    refine HH1.out.mono ?_
    rintro e w' ⟨rfl, rfl⟩
    go_wp2_with fail
    go_ret
    unfold StepR
    rw [HS.out]
    exact ⟨rfl, p', H1.out, H2.out⟩
  · have HS := Lib.hid (show stepM m = m by unfold stepM; rw [if_neg h0])
    have b0 := nbeq_of h0
    have H := Lib.hid h
    clear h0 h ho
    go_enter Tryz.func14, Tryz.ntmps14
    go_wp2_with fail
    refine HH.out.mono ?_
    rintro e w' ⟨rfl, rfl⟩
    go_wp2_with fail
    refine HH.out.mono ?_
    rintro e w' ⟨rfl, rfl⟩
    go_wp2_with fail
    go_ret
    unfold StepR
    rw [HS.out]
    exact ⟨rfl, p, H.out.more (fun k hs => .inl hs) (grow_lt H.out.lt (Nat.le_refl _)), Keeps.refl _ _⟩

set_option maxRecDepth 100000 in
set_option maxHeartbeats 400000 in
/-- two rows of numbers that are alike -/
theorem numbers_eq (A A2 : Option Addr) (c c2 : Nat) (l : List Int) (w : World) (h1 : ILs w A l) (h2 : ILs w A2 l) (hc : l.length ≤ c) (hc2 : l.length ≤ c2) (hl : l.length ≤ 1099511627776) :
    Calls Tryz.prog 18 #[.slice A l.length c, .slice A2 l.length c2] w fun e w' => e = .returned (.bool true) ∧ Below w.heap.size w w' := by
  have H1 := Lib.hid h1
  have H2 := Lib.hid h2
  have hne : ((l.length : Int) != (l.length : Int)) = false := by simp
  clear h1 h2
  go_enter Tryz.func18, Tryz.ntmps18
  go_wp2_with fail
  go_loopw [5] (fun v wr => ∃ k : Nat, k ≤ l.length ∧ v = .int .i64 k ∧ Hid (Below w.heap.size w wr)) (fun v _ => l.length - (intOf v).toNat)
  case atStart => exact ⟨0, by omega, rfl, Below.refl _ _⟩
  case round =>
    obtain ⟨k, hk, rfl, hb⟩ := hrel
    by_cases hlt : k < l.length
    · obtain ⟨g1, o1, rfl, _, q1⟩ := H1.out.below hb.out (by omega)
      obtain ⟨g2, o2, rfl, _, q2⟩ := H2.out.below hb.out (by omega)
      have c1 := q1 k hlt
      have d1 := q2 k hlt
      have hnx : ((l.getD k 0) != (l.getD k 0)) = false := by simp
      generalize l.getD k 0 = x at *
      clear q1 q2
      go_wp2_with fail
      go_region
      all_goals
        go_wp2_with fail
        go_roundw
        case rel => exact ⟨k + 1, by omega, by go_num, hb.out.drew⟩
        case measure => simp [intOf]; omega
    · obtain rfl : k = l.length := by omega
      go_wp2_with fail
      go_ret
      exact ⟨rfl, hb.out⟩
end

end Go.Proofs.YtnffiaphpcopjaaGreat

namespace Go.Proofs.YtnffiaphpcopjaaGreat
open Go Go.RowKit

/-- a machine of the call's own, in blocks below N -/
def One (w0 : World) (N : Nat) (w : World) (g : Nat) (M : Mc) : Prop :=
  ∃ S p, MIn w S g M p ∧ (∀ k, S k → w0.heap.size ≤ k ∧ k < N) ∧ N ≤ w.heap.size ∧ w0.heap.size ≤ N ∧ Below w0.heap.size w0 w
/-- two of them, apart -/
def Two (w0 : World) (N : Nat) (w : World) (g1 g2 : Nat) (M1 M2 : Mc) : Prop :=
  ∃ S1 S2 p1 p2, MIn w S1 g1 M1 p1 ∧ MIn w S2 g2 M2 p2 ∧ (∀ k, S1 k → ¬ S2 k) ∧ (∀ k, S1 k → w0.heap.size ≤ k ∧ k < N) ∧ (∀ k, S2 k → w0.heap.size ≤ k ∧ k < N) ∧ N ≤ w.heap.size ∧ w0.heap.size ≤ N ∧ Below w0.heap.size w0 w
section
variable {w0 w w' : World} {N g g1 g2 : Nat} {M M1 M2 : Mc}
theorem One.keep (h : One w0 N w g M) (hb : Below N w w') : One w0 N w' g M := by
  obtain ⟨S, p, h1, h2, h3, h4, h5⟩ := h
  exact ⟨S, p, h1.same (fun k hk => hb.block k (h2 k hk).2) hb.size, h2, Nat.le_trans h3 hb.size, h4, h5.trans (hb.mono h4)⟩
theorem Two.keep (h : Two w0 N w g1 g2 M1 M2) (hb : Below N w w') : Two w0 N w' g1 g2 M1 M2 := by
  obtain ⟨S1, S2, p1, p2, h1, h2, hd, h3, h4, h5, h6, h7⟩ := h
  exact ⟨S1, S2, p1, p2, h1.same (fun k hk => hb.block k (h3 k hk).2) hb.size, h2.same (fun k hk => hb.block k (h4 k hk).2) hb.size, hd, h3, h4, Nat.le_trans h5 hb.size, h6, h7.trans (hb.mono h6)⟩
theorem One.sz (h : One w0 N w g M) : N ≤ w.heap.size ∧ w0.heap.size ≤ N ∧ Below w0.heap.size w0 w := by
  obtain ⟨S, p, h1, h2, h3, h4, h5⟩ := h
  exact ⟨h3, h4, h5⟩
theorem Two.sz (h : Two w0 N w g1 g2 M1 M2) : N ≤ w.heap.size ∧ w0.heap.size ≤ N ∧ Below w0.heap.size w0 w := by
  obtain ⟨S1, S2, p1, p2, h1, h2, hd, h3, h4, h5, h6, h7⟩ := h
  exact ⟨h5, h6, h7⟩
theorem Two.one (h : Two w0 N w g1 g2 M1 M2) : One w0 N w g1 M1 := by
  obtain ⟨S1, S2, p1, p2, h1, h2, hd, h3, h4, h5, h6, h7⟩ := h
  exact ⟨S1, p1, h1, h3, h5, h6, h7⟩
theorem Two.two (h : Two w0 N w g1 g2 M1 M2) : One w0 N w g2 M2 := by
  obtain ⟨S1, S2, p1, p2, h1, h2, hd, h3, h4, h5, h6, h7⟩ := h
  exact ⟨S2, p2, h2, h4, h5, h6, h7⟩
theorem Two.swap (h : Two w0 N w g1 g2 M1 M2) : Two w0 N w g2 g1 M2 M1 := by
  obtain ⟨S1, S2, p1, p2, h1, h2, hd, h3, h4, h5, h6, h7⟩ := h
  exact ⟨S2, S1, p2, p1, h2, h1, fun k h2 h1 => hd k h1 h2, h4, h3, h5, h6, h7⟩
/-- what has turned the first one leaves the second -/
theorem Two.turn {S1 : Nat → Prop} {p1 p1' : Mp} {M1' : Mc} (h1 : MIn w S1 g1 M1 p1) (hS1 : ∀ k, S1 k → w0.heap.size ≤ k ∧ k < N) (h : ∃ S2 p2, MIn w S2 g2 M2 p2 ∧ (∀ k, S1 k → ¬ S2 k) ∧ (∀ k, S2 k → w0.heap.size ≤ k ∧ k < N) ∧ N ≤ w.heap.size ∧ w0.heap.size ≤ N ∧ Below w0.heap.size w0 w)
    (hM : MIn w' (grow S1 w w') g1 M1' p1') (hk : Keeps S1 w w') : Two w0 w'.heap.size w' g1 g2 M1' M2 := by
  obtain ⟨S2, p2, h2, hd, h4, h5, h6, h7⟩ := h
  refine ⟨grow S1 w w', S2, p1', p2, hM, h2.keep hk (fun k hs h1' => hd k h1' hs), fun k hk1 hk2 => ?_, fun k hk1 => ?_, fun k hk2 => ?_, Nat.le_refl _, by have := hk.size; omega, ?_⟩
  · rcases hk1 with h | h
    · exact hd k h hk2
    · have := h2.lt k hk2; omega
  · have hl := hM.lt k hk1
    rcases hk1 with h | h
    · exact ⟨(hS1 k h).1, hl⟩
    · exact ⟨by omega, hl⟩
  · exact ⟨(h4 k hk2).1, by have := h2.lt k hk2; have := hk.size; omega⟩
  · exact h7.trans (hk.below (fun k h => (hS1 k h).1) (by omega))
theorem two_run (h : Two w0 N w g1 g2 M1 M2) (fuel : Int) (ho : Okm M1 fuel.toNat) : Calls Tryz.prog 21 #[.pointer (some ⟨g1, 0, none⟩), .int .i64 fuel] w fun e w' =>
    e = .returned (.tuple #[.int .u8 (runM fuel.toNat M1).1.how, .int .i64 (runM fuel.toNat M1).2]) ∧ Two w0 w'.heap.size w' g1 g2 (runM fuel.toNat M1).1 M2 := by
  obtain ⟨S1, S2, p1, p2, h1, h2, hd, h3, h4, h5, h6, h7⟩ := h
  exact (run_any h1 fuel ho).mono fun e w' ⟨he, p', hM, hk⟩ => ⟨he, Two.turn h1 h3 ⟨S2, p2, h2, hd, h4, h5, h6, h7⟩ hM hk⟩
theorem one_step (h : One w0 N w g M) (ho : Okm M 0) : Calls Tryz.prog 14 #[.pointer (some ⟨g, 0, none⟩)] w fun e w' => e = .returned (.int .u8 (stepM M).how) ∧ One w0 w'.heap.size w' g (stepM M) ∧ Below N w' w' := by
  obtain ⟨S, p, h1, h2, h3, h4, h5⟩ := h
  refine (step_any h1 ho).mono fun e w' ⟨he, p', hM, hk⟩ => ⟨he, ⟨grow S w w', p', hM, fun k hk1 => ?_, Nat.le_refl _, by have := hk.size; omega, h5.trans (hk.below (fun k h => (h2 k h).1) (by omega))⟩, Below.refl _ _⟩
  have hl := hM.lt k hk1
  rcases hk1 with h | h
  · exact ⟨(h2 k h).1, hl⟩
  · exact ⟨by omega, hl⟩

/-- numbers that are read and may be written, in blocks from N on -/
def Nums (N : Nat) (w : World) (A : Option Addr) (n : Nat) : Prop := ∀ j, j < n → ∃ g o x, A = some ⟨g, o, none⟩ ∧ N ≤ g ∧ g < w.heap.size ∧ w.cell? ⟨g, o + j, none⟩ = some (.int .i64 x) ∧ w.frozen? ⟨g, o + j, none⟩ = false
theorem Nums.below {A : Option Addr} {n : Nat} (h : Nums N w A n) (hb : Below w.heap.size w w') : Nums N w' A n := fun j hj => by
  obtain ⟨g, o, x, h1, h2, h3, h4, h5⟩ := h j hj
  exact ⟨g, o, x, h1, h2, Nat.lt_of_lt_of_le h3 hb.size, (hb.cell (p := ⟨g, o + j, none⟩) h3).trans h4, (hb.frozen (p := ⟨g, o + j, none⟩) h3).trans h5⟩
theorem Nums.set {A : Option Addr} {n : Nat} (h : Nums N w A n) (p : Addr) (y : Int) : Nums N (w.setCell p (.int .i64 y)) A n := fun j hj => by
  obtain ⟨g, o, x, h1, h2, h3, h4, h5⟩ := h j hj
  by_cases hp : p = ⟨g, o + j, none⟩
  · subst hp
    exact ⟨g, o, y, h1, h2, by simpa [World.setCell] using h3, by rw [World.cell?_setCell_same _ _ _ (by rw [h4])], by rw [World.frozen?_setCell]; exact h5⟩
  · exact ⟨g, o, x, h1, h2, by simpa [World.setCell] using h3, (World.cell?_setCell_other _ _ _ _ (fun e => hp e)).trans h4, by rw [World.frozen?_setCell]; exact h5⟩
theorem IRow.nums {v : Value} {l : List Int} (h : IRow w v l) (hN : ∀ k, v.ownBlock = some k → N ≤ k) : ∃ A c, v = .slice A l.length c ∧ l.length ≤ c ∧ ILs w A l ∧ Nums N w A l.length := by
  obtain ⟨A, c, e, hc, hl⟩ := h.ils
  refine ⟨A, c, e, hc, hl, fun j hj => ?_⟩
  obtain ⟨g, o, rfl, hg, hq⟩ := hl (by omega)
  subst e
  refine ⟨g, o, _, rfl, hN g rfl, hg, hq j hj, ?_⟩
  rcases h.2 with ⟨e, _⟩ | ⟨g', cap, cur, e, _, hh, _⟩
  · cases e
  · injection e with e1 e2 e3
    injection e1 with e1
    injection e1 with e4 e5 e6
    subst e4
    simp [World.frozen?, hh]
/-- numbers taken down of a machine -/
def Taken (N : Nat) (l : List Int) (w : World) (e : Ending) (w' : World) : Prop := ∃ A c, e = .returned (.slice A l.length c) ∧ l.length ≤ c ∧ ILs w' A l ∧ Nums N w' A l.length ∧ Below w.heap.size w w'
theorem MadeI.taken {l : List Int} {e : Ending} (h : MadeI w l e w') (hN : N ≤ w.heap.size) : Taken N l w e w' := by
  obtain ⟨v, rfl, h1, h2, h3⟩ := h
  obtain ⟨A, c, rfl, hc, hl, hn⟩ := h1.nums (N := N) (fun k e => Nat.le_trans hN (h3 k e))
  exact ⟨A, c, rfl, hc, hl, hn, h2⟩
theorem one_words (h : One w0 N w g M) (hl : M.words.length ≤ 1099511627776) : Calls Tryz.prog 22 #[.pointer (some ⟨g, 0, none⟩)] w (Taken N M.words w) := by
  obtain ⟨S, p, h1, h2, h3, h4, h5⟩ := h
  exact (words_any h1 hl).mono fun e w' he => he.taken h3
theorem one_regs (h : One w0 N w g M) : Calls Tryz.prog 19 #[.pointer (some ⟨g, 0, none⟩)] w (Taken N M.regs w) := by
  obtain ⟨S, p, h1, h2, h3, h4, h5⟩ := h
  exact (regs_any h1).mono fun e w' he => he.taken h3
theorem one_out (h : One w0 N w g M) (hl : M.out.length ≤ 1099511627776) : Calls Tryz.prog 23 #[.pointer (some ⟨g, 0, none⟩)] w (Taken N M.out w) := by
  obtain ⟨S, p, h1, h2, h3, h4, h5⟩ := h
  exact (out_any h1 hl).mono fun e w' he => he.taken h3
theorem one_pc (h : One w0 N w g M) : Calls Tryz.prog 17 #[.pointer (some ⟨g, 0, none⟩)] w fun e w' => e = .returned (.int .i64 M.pc) ∧ w = w' := by
  obtain ⟨S, p, h1, _⟩ := h
  exact pc_any h1
theorem one_left (h : One w0 N w g M) : Calls Tryz.prog 24 #[.pointer (some ⟨g, 0, none⟩)] w fun e w' => e = .returned (.int .i64 M.input.length) ∧ w = w' := by
  obtain ⟨S, p, h1, _⟩ := h
  exact left_any h1
theorem one_how (h : One w0 N w g M) : Calls Tryz.prog 16 #[.pointer (some ⟨g, 0, none⟩)] w fun e w' => e = .returned (.int .u8 M.how) ∧ w = w' := by
  obtain ⟨S, p, h1, _⟩ := h
  exact how_any h1
end

end Go.Proofs.YtnffiaphpcopjaaGreat

namespace Go.Proofs.YtnffiaphpcopjaaGreat
open Go Go.RowKit

theorem Okm.run : ∀ (n : Nat) {m : Mc} {k : Nat}, Okm m (n + k) → Okm (runM n m).1 k
  | 0, m, k, h => by rw [Nat.zero_add] at h; exact h
  | n + 1, m, k, h => by
    rw [runM]
    split
    · exact Okm.run n (Okm.do_ (by rwa [show n + 1 + k = n + k + 1 by omega] at h))
    · exact h.less (by omega)
theorem Okm.make {l : List UInt8} {inp : List Int} {st wd : Int} (h1 : l.length ≤ 1048576) (h2 : wd ≤ 65536) (n : Nat) (hn : n ≤ 10000) : Okm (m0 l st wd inp) n :=
  ⟨by simp only [m0]; omega, by simp only [m0, List.length_replicate]; omega, by simp only [m0, List.length_nil]; omega⟩

section
variable {w0 w w' : World} {N g1 g2 : Nat} {M M1 M2 : Mc}
theorem two_new {W w2 w3 w4 : World} {p1 p2 : Mp} (hB : Below W.heap.size W w2) (h1 : MIn w3 (grow none_ w2 w3) g1 M1 p1) (hb3 : Below w2.heap.size w2 w3) (h2 : MIn w4 (grow none_ w3 w4) g2 M2 p2) (hb4 : Below w3.heap.size w3 w4) : Two W w4.heap.size w4 g1 g2 M1 M2 := by
  have z1 := hB.size
  have z2 := hb3.size
  have z3 := hb4.size
  refine ⟨_, _, p1, p2, h1.same (fun k hk => hb4.block k (h1.lt k hk)) hb4.size, h2, fun k ha hb => ?_, fun k ha => ?_, fun k hb => ?_, Nat.le_refl _, by omega, (hB.trans (hb3.mono z1)).trans (hb4.mono (by omega))⟩
  · rcases ha with h | h
    · exact absurd h (fun h => h)
    rcases hb with h' | h'
    · exact absurd h' (fun h => h)
    have := h.2; have := h'.1; omega
  · rcases ha with h | h
    · exact absurd h (fun h => h)
    have := h.1; have := h.2; omega
  · rcases hb with h | h
    · exact absurd h (fun h => h)
    have := h.1; have := h.2; omega
theorem One.regs16 (h : One w0 N w g1 M) : M.regs.length = 16 := by
  obtain ⟨S, p, h1, _⟩ := h
  exact h1.regs
/-- what the loops keep -/
def FuelI (w0 : World) (N g1 g2 : Nat) (M : Mc) (A1 A2 A3 : Option Addr) (n1 n2 n3 : Nat) (wr : World) : Prop := Two w0 N wr g1 g2 M M ∧ Nums N wr A1 n1 ∧ Nums N wr A2 n2 ∧ Nums N wr A3 n3
theorem FuelI.set {A1 A2 A3 : Option Addr} {n1 n2 n3 : Nat} (h : FuelI w0 N g1 g2 M A1 A2 A3 n1 n2 n3 w) (g o : Nat) (y : Int) (hg : N ≤ g) : FuelI w0 N g1 g2 M A1 A2 A3 n1 n2 n3 (w.setCell ⟨g, o, none⟩ (.int .i64 y)) :=
  ⟨h.1.keep ((Below.refl N w).setCell hg _), h.2.1.set _ _, h.2.2.1.set _ _, h.2.2.2.set _ _⟩
end

/-- two machines that are alike, and rows of numbers taken down -/
def Pm (w0 : World) (N g1 g2 : Nat) (M : Mc) (rows : List (Option Addr × List Int)) (w : World) : Prop := Two w0 N w g1 g2 M M ∧ ∀ r ∈ rows, ILs w r.1 r.2 ∧ Nums N w r.1 r.2.length
section
variable {w0 w w' : World} {N g1 g2 : Nat} {M : Mc} {rows : List (Option Addr × List Int)}
theorem Pm.below (h : Pm w0 N g1 g2 M rows w) (hb : Below w.heap.size w w') : Pm w0 N g1 g2 M rows w' :=
  ⟨h.1.keep (hb.mono h.1.sz.1), fun r hr => ⟨(h.2 r hr).1.below hb, (h.2 r hr).2.below hb⟩⟩
theorem Pm.drop {rows' : List (Option Addr × List Int)} (h : Pm w0 N g1 g2 M rows w) (hr : ∀ r ∈ rows', r ∈ rows) : Pm w0 N g1 g2 M rows' w := ⟨h.1, fun r h' => h.2 r (hr r h')⟩
/-- a row was taken down -/
def PmR (w0 : World) (N g1 g2 : Nat) (M : Mc) (rows : List (Option Addr × List Int)) (l : List Int) (e : Ending) (w' : World) : Prop := ∃ A c, e = .returned (.slice A l.length c) ∧ l.length ≤ c ∧ Pm w0 N g1 g2 M ((A, l) :: rows) w'
theorem Pm.taken {l : List Int} {e : Ending} (h : Pm w0 N g1 g2 M rows w) (ht : Taken N l w e w') : PmR w0 N g1 g2 M rows l e w' := by
  obtain ⟨A, c, rfl, hc, h1, h2, hb⟩ := ht
  refine ⟨A, c, rfl, hc, (h.below hb).1, fun r hr => ?_⟩
  rcases List.mem_cons.1 hr with rfl | hr
  · exact ⟨h1, h2⟩
  · exact (h.below hb).2 r hr
theorem pm_words1 (h : Pm w0 N g1 g2 M rows w) (hl : M.words.length ≤ 1099511627776) : Calls Tryz.prog 22 #[.pointer (some ⟨g1, 0, none⟩)] w (PmR w0 N g1 g2 M rows M.words) := (one_words h.1.one hl).mono fun _ _ he => h.taken he
theorem pm_words2 (h : Pm w0 N g1 g2 M rows w) (hl : M.words.length ≤ 1099511627776) : Calls Tryz.prog 22 #[.pointer (some ⟨g2, 0, none⟩)] w (PmR w0 N g1 g2 M rows M.words) := (one_words h.1.two hl).mono fun _ _ he => h.taken he
theorem pm_regs1 (h : Pm w0 N g1 g2 M rows w) : Calls Tryz.prog 19 #[.pointer (some ⟨g1, 0, none⟩)] w (PmR w0 N g1 g2 M rows M.regs) := (one_regs h.1.one).mono fun _ _ he => h.taken he
theorem pm_regs2 (h : Pm w0 N g1 g2 M rows w) : Calls Tryz.prog 19 #[.pointer (some ⟨g2, 0, none⟩)] w (PmR w0 N g1 g2 M rows M.regs) := (one_regs h.1.two).mono fun _ _ he => h.taken he
theorem pm_out1 (h : Pm w0 N g1 g2 M rows w) (hl : M.out.length ≤ 1099511627776) : Calls Tryz.prog 23 #[.pointer (some ⟨g1, 0, none⟩)] w (PmR w0 N g1 g2 M rows M.out) := (one_out h.1.one hl).mono fun _ _ he => h.taken he
theorem pm_out2 (h : Pm w0 N g1 g2 M rows w) (hl : M.out.length ≤ 1099511627776) : Calls Tryz.prog 23 #[.pointer (some ⟨g2, 0, none⟩)] w (PmR w0 N g1 g2 M rows M.out) := (one_out h.1.two hl).mono fun _ _ he => h.taken he
theorem pm_num (h : Pm w0 N g1 g2 M rows w) (A A2 : Option Addr) (c c2 : Nat) (l : List Int) (h1 : (A, l) ∈ rows) (h2 : (A2, l) ∈ rows) (hc : l.length ≤ c) (hc2 : l.length ≤ c2) (hl : l.length ≤ 1099511627776) :
    Calls Tryz.prog 18 #[.slice A l.length c, .slice A2 l.length c2] w fun e w' => e = .returned (.bool true) ∧ Pm w0 N g1 g2 M rows w' :=
  (numbers_eq A A2 c c2 l w (h.2 _ h1).1 (h.2 _ h2).1 hc hc2 hl).mono fun _ _ ⟨he, hb⟩ => ⟨he, h.below hb⟩
theorem Pm.fuelI {A1 A2 A3 : Option Addr} {l1 l2 l3 : List Int} (h : Pm w0 N g1 g2 M rows w) (h1 : (A1, l1) ∈ rows) (h2 : (A2, l2) ∈ rows) (h3 : (A3, l3) ∈ rows) : FuelI w0 N g1 g2 M A1 A2 A3 l1.length l2.length l3.length w := ⟨h.1, (h.2 _ h1).2, (h.2 _ h2).2, (h.2 _ h3).2⟩
end

end Go.Proofs.YtnffiaphpcopjaaGreat
