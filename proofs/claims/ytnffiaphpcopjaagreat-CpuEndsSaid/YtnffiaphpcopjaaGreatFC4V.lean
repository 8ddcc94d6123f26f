/-
  Merged for a claim: C4V.
-/
import Derived.Test.YtnffiaphpcopjaaGreatFJ5
namespace Go.Proofs.YtnffiaphpcopjaaGreat
open Go Go.RowKit

/-- a machine, and rows of numbers taken down -/
def Pq (w0 : World) (N g : Nat) (M : Mc) (rows : List (Option Addr × List Int)) (w : World) : Prop := One w0 N w g M ∧ ∀ r ∈ rows, ILs w r.1 r.2
/-- the rows are apart from the machine -/
def Po (w0 : World) (N g : Nat) (M : Mc) (rows : List (Option Addr × List Int)) (w : World) : Prop := Pq w0 N g M rows w ∧ ∀ r ∈ rows, Nums N w r.1 r.2.length
/-- a row was taken down -/
def PqR (w0 : World) (N g : Nat) (M : Mc) (rows : List (Option Addr × List Int)) (l : List Int) (e : Ending) (w' : World) : Prop := ∃ A c, e = .returned (.slice A l.length c) ∧ l.length ≤ c ∧ Pq w0 N g M ((A, l) :: rows) w'
def PoR (w0 : World) (N g : Nat) (M : Mc) (rows : List (Option Addr × List Int)) (l : List Int) (e : Ending) (w' : World) : Prop := ∃ A c, e = .returned (.slice A l.length c) ∧ l.length ≤ c ∧ Po w0 N g M ((A, l) :: rows) w'
section
variable {w0 w w' : World} {N g : Nat} {M : Mc} {rows : List (Option Addr × List Int)}
theorem Pq.below (h : Pq w0 N g M rows w) (hb : Below w.heap.size w w') : Pq w0 N g M rows w' := ⟨h.1.keep (hb.mono h.1.sz.1), fun r hr => (h.2 r hr).below hb⟩
theorem Po.below (h : Po w0 N g M rows w) (hb : Below w.heap.size w w') : Po w0 N g M rows w' := ⟨h.1.below hb, fun r hr => (h.2 r hr).below hb⟩
theorem Pq.drop {rows' : List (Option Addr × List Int)} (h : Pq w0 N g M rows w) (hr : ∀ r ∈ rows', r ∈ rows) : Pq w0 N g M rows' w := ⟨h.1, fun r h' => h.2 r (hr r h')⟩
theorem Pq.taken {l : List Int} {e : Ending} (h : Pq w0 N g M rows w) (ht : Taken N l w e w') : PqR w0 N g M rows l e w' := by
  obtain ⟨A, c, rfl, hc, h1, h2, hb⟩ := ht
  refine ⟨A, c, rfl, hc, (h.below hb).1, fun r hr => ?_⟩
  rcases List.mem_cons.1 hr with rfl | hr
  · exact h1
  · exact (h.below hb).2 r hr
theorem Po.taken {l : List Int} {e : Ending} (h : Po w0 N g M rows w) (ht : Taken N l w e w') : PoR w0 N g M rows l e w' := by
  obtain ⟨A, c, rfl, hc, h1, h2, hb⟩ := ht
  refine ⟨A, c, rfl, hc, ⟨(h.1.below hb).1, fun r hr => ?_⟩, fun r hr => ?_⟩
  · rcases List.mem_cons.1 hr with rfl | hr
    · exact h1
    · exact (h.1.below hb).2 r hr
  · rcases List.mem_cons.1 hr with rfl | hr
    · exact h2
    · exact (h.below hb).2 r hr
theorem po_words (h : Po w0 N g M rows w) (hl : M.words.length ≤ 1099511627776) : Calls Tryz.prog 22 #[.pointer (some ⟨g, 0, none⟩)] w (PoR w0 N g M rows M.words) := (one_words h.1.1 hl).mono fun _ _ he => h.taken he
theorem po_regs (h : Po w0 N g M rows w) : Calls Tryz.prog 19 #[.pointer (some ⟨g, 0, none⟩)] w (PoR w0 N g M rows M.regs) := (one_regs h.1.1).mono fun _ _ he => h.taken he
theorem po_out (h : Po w0 N g M rows w) (hl : M.out.length ≤ 1099511627776) : Calls Tryz.prog 23 #[.pointer (some ⟨g, 0, none⟩)] w (PoR w0 N g M rows M.out) := (one_out h.1.1 hl).mono fun _ _ he => h.taken he
theorem pq_words (h : Pq w0 N g M rows w) (hl : M.words.length ≤ 1099511627776) : Calls Tryz.prog 22 #[.pointer (some ⟨g, 0, none⟩)] w (PqR w0 N g M rows M.words) := (one_words h.1 hl).mono fun _ _ he => h.taken he
theorem pq_regs (h : Pq w0 N g M rows w) : Calls Tryz.prog 19 #[.pointer (some ⟨g, 0, none⟩)] w (PqR w0 N g M rows M.regs) := (one_regs h.1).mono fun _ _ he => h.taken he
theorem pq_out (h : Pq w0 N g M rows w) (hl : M.out.length ≤ 1099511627776) : Calls Tryz.prog 23 #[.pointer (some ⟨g, 0, none⟩)] w (PqR w0 N g M rows M.out) := (one_out h.1 hl).mono fun _ _ he => h.taken he
theorem pq_num (h : Pq w0 N g M rows w) (A A2 : Option Addr) (c c2 : Nat) (l : List Int) (h1 : (A, l) ∈ rows) (h2 : (A2, l) ∈ rows) (hc : l.length ≤ c) (hc2 : l.length ≤ c2) (hl : l.length ≤ 1099511627776) :
    Calls Tryz.prog 18 #[.slice A l.length c, .slice A2 l.length c2] w fun e w' => e = .returned (.bool true) ∧ Pq w0 N g M rows w' :=
  (numbers_eq A A2 c c2 l w (h.2 _ h1) (h.2 _ h2) hc hc2 hl).mono fun _ _ ⟨he, hb⟩ => ⟨he, h.below hb⟩
/-- a step leaves the rows -/
theorem po_step (h : Po w0 N g M rows w) (ho : Okm M 0) : Calls Tryz.prog 14 #[.pointer (some ⟨g, 0, none⟩)] w fun e w' => e = .returned (.int .u8 (stepM M).how) ∧ Pq w0 w'.heap.size g (stepM M) rows w' := by
  obtain ⟨⟨⟨S, p, h1, h2, h3, h4, h5⟩, hr⟩, hn⟩ := h
  refine (step_any h1 ho).mono fun e w' ⟨he, p', hM, hk⟩ => ⟨he, ⟨grow S w w', p', hM, fun k hk1 => ?_, Nat.le_refl _, by have := hk.size; omega, h5.trans (hk.below (fun k h => (h2 k h).1) (by omega))⟩, fun r hm h0 => ?_⟩
  · have hl := hM.lt k hk1
    rcases hk1 with h | h
    · exact ⟨(h2 k h).1, hl⟩
    · exact ⟨by omega, hl⟩
  · obtain ⟨g1, o1, e1, hg1, hc1⟩ := hr r hm h0
    obtain ⟨g2, o2, x2, e2, hg2, -⟩ := hn r hm 0 h0
    rw [e1] at e2
    injection e2 with e2
    injection e2 with e2 e3
    subst e2
    refine ⟨g1, o1, e1, Nat.lt_of_lt_of_le hg1 hk.size, fun j hj => (cell_same (hk.block g1 hg1 (fun hs => ?_)) _).trans (hc1 j hj)⟩
    have := (h2 g1 hs).2
    omega
end

/-- New of anything -/
def NewP (code : List UInt8) (start words : Int) (input : List Int) (w : World) (P : Option Addr) (E : Int) (w' : World) : Prop :=
  Below w.heap.size w w' ∧ ((newOk code.length start words ∧ E = 0 ∧ ∃ g p, P = some ⟨g, 0, none⟩ ∧ MIn w' (grow none_ w w') g (m0 code start words input) p) ∨ (¬ newOk code.length start words ∧ P = none ∧ E = 1))
def NewA (code : List UInt8) (start words : Int) (input : List Int) (w : World) (e : Ending) (w' : World) : Prop := ∃ P E, e = .returned (.tuple #[.pointer P, .int .i64 E]) ∧ NewP code start words input w P E w'
theorem new_all (A A2 : Option Addr) (c c2 : Nat) (code : List UInt8) (input : List Int) (start words : Int) (w : World) (hcode : Lies w w.heap.size A code) (hin : ILs w A2 input) (hlen : input.length ≤ 1099511627776) :
    Calls Tryz.prog 10 #[.slice A code.length c, .int .i64 start, .int .i64 words, .slice A2 input.length c2] w (NewA code start words input w) := by
  by_cases hok : newOk code.length start words
  · have hok' := hok
    obtain ⟨h1, h2, h3, h4, h5⟩ := hok
    obtain ⟨n, rfl⟩ : ∃ n : Nat, words = n := ⟨words.toNat, by omega⟩
    exact (new_good A A2 c c2 code input start n w hcode hin hlen h1 h2 h3 h4 h5).mono fun e w' ⟨g, p, he, hM, hb⟩ => ⟨_, _, he, hb, .inl ⟨hok', rfl, g, p, rfl, hM⟩⟩
  · exact (new_bad A A2 c input.length c2 code.length start words w hok).mono fun e w' ⟨he, hw⟩ => ⟨_, _, he, by rw [hw]; exact Below.refl _ _, .inr ⟨hok, rfl, rfl⟩⟩

theorem one_new {W w w' : World} {g : Nat} {M : Mc} {p : Mp} (hB : Below W.heap.size W w) (h : MIn w' (grow none_ w w') g M p) (hb : Below w.heap.size w w') : One W w'.heap.size w' g M := by
  have z1 := hB.size
  refine ⟨_, p, h, fun k ha => ?_, Nat.le_refl _, Nat.le_trans z1 hb.size, hB.trans (hb.mono z1)⟩
  rcases ha with h | h
  · exact absurd h (fun h => h)
  have := h.1; have := h.2; omega

end Go.Proofs.YtnffiaphpcopjaaGreat
