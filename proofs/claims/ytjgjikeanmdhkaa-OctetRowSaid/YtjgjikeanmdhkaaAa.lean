/-
  Things that lie in a row.
-/
import Derived.Test.YtjgjikeanmdhkaaJ
namespace Go.Proofs.Ytjgjikeanmdhkaa
open Go.RowKit

def TLies (w : World) (B : Nat) (A : Option Addr) (xs : List Thing) : Prop :=
  0 < xs.length → ∃ g o, A = some ⟨g, o, none⟩ ∧ g < B ∧ ∀ j (h : j < xs.length), ∀ f u, (tCells xs[j])[f]? = some u → w.cell? ⟨g, o + j * 5 + f, none⟩ = some u
theorem TLies.keep {w w' : World} {B : Nat} {A : Option Addr} {xs : List Thing} (h : TLies w B A xs) (hb : Below B w w') : TLies w' B A xs := fun hl => by
  obtain ⟨g, o, e, hg, hc⟩ := h hl
  exact ⟨g, o, e, hg, fun j hj f u hu => (hb.cell (p := ⟨g, o + j * 5 + f, none⟩) hg).trans (hc j hj f u hu)⟩

/-- the five cells of a thing at a place -/
def TAt (w : World) (g o : Nat) (x : Thing) : Prop :=
  w.cell? ⟨g, o, none⟩ = some (.int .u8 (x.k.toNat : Int)) ∧ w.cell? ⟨g, o + 1, none⟩ = some (.int .i64 x.hi) ∧ w.cell? ⟨g, o + 2, none⟩ = some (.int .i64 x.lo) ∧ w.cell? ⟨g, o + 3, none⟩ = some (.int .i64 x.pl) ∧ w.cell? ⟨g, o + 4, none⟩ = some (.string (str x.tx))
theorem TLies.at_ {w : World} {B : Nat} {A : Option Addr} {xs : List Thing} (h : TLies w B A xs) {j : Nat} (hj : j < xs.length) : ∃ g o, A = some ⟨g, o, none⟩ ∧ g < B ∧ TAt w g (o + j * 5) xs[j] := by
  obtain ⟨g, o, e, hg, hc⟩ := h (by omega)
  exact ⟨g, o, e, hg, hc j hj 0 _ rfl, hc j hj 1 _ rfl, hc j hj 2 _ rfl, hc j hj 3 _ rfl, hc j hj 4 _ rfl⟩

def TOwn (w : World) (B : Nat) (v : Value) (xs : List Thing) : Prop := w.ownsRow B 45 5 v xs.length (xs.flatMap tCells)

theorem t_info : (Try.prog.info? 45).map (fun i => (i.zero, i.size, i.bytes)) = some (some (.agg #[.int .u8 0, .int .i64 0, .int .i64 0, .int .i64 0, .string ⟨#[]⟩]), 5, 48) := by kernel_rfl

theorem tCells_flat (xs : List Thing) : (xs.flatMap tCells).length = xs.length * 5 := by
  induction xs with
  | nil => simp
  | cons x xs ih => simp only [List.flatMap_cons, List.length_append, ih, List.length_cons]; simp [tCells]; omega

theorem tCells_get : ∀ (xs : List Thing) (j : Nat) (hj : j < xs.length) (f : Nat), f < 5 → (xs.flatMap tCells)[j * 5 + f]? = (tCells xs[j])[f]?
  | x :: xs, 0, _, f, hf => by
    rw [List.flatMap_cons, List.getElem?_append_left (by simp [tCells]; omega)]
    simp
  | x :: xs, j + 1, hj, f, hf => by
    rw [List.flatMap_cons, List.getElem?_append_right (by simp [tCells]; omega)]
    have e : (j + 1) * 5 + f - (tCells x).length = j * 5 + f := by simp [tCells]; omega
    rw [e]
    exact tCells_get xs j (by simpa using hj) f hf

theorem TOwn.at_ {w : World} {B n : Nat} {A : Option Addr} {c : Nat} {xs : List Thing} (h : TOwn w B (.slice A n c) xs) {j : Nat} (hj : j < xs.length) : n = xs.length ∧ n ≤ c ∧ ∃ g, A = some ⟨g, 0, none⟩ ∧ B ≤ g ∧ g < w.heap.size ∧ TAt w g (j * 5) xs[j] := by
  rcases h.2 with ⟨e, h0⟩ | ⟨g, cap, cur, e, hg, hh, hn, _⟩
  · omega
  · simp only [Value.slice.injEq] at e
    obtain ⟨rfl, rfl, rfl⟩ := e
    have hlt : g < w.heap.size := by
      rcases Nat.lt_or_ge g w.heap.size with h | h
      · exact h
      · rw [Array.getElem?_eq_none h] at hh; cases hh
    refine ⟨rfl, hn, g, rfl, hg, hlt, ?_⟩
    have hc : ∀ f u, f < 5 → (tCells xs[j])[f]? = some u → w.cell? ⟨g, j * 5 + f, none⟩ = some u := fun f u hf hu => by
      rw [World.ownsRow.cellAt h _ (by omega), tCells_get xs j hj f hf, hu]
    exact ⟨hc 0 _ (by omega) rfl, hc 1 _ (by omega) rfl, hc 2 _ (by omega) rfl, hc 3 _ (by omega) rfl, hc 4 _ (by omega) rfl⟩

theorem TOwn.form {w : World} {B : Nat} {v : Value} {xs : List Thing} (h : TOwn w B v xs) : ∃ A c, v = .slice A xs.length c ∧ xs.length ≤ c := by
  rcases h.2 with ⟨rfl, h0⟩ | ⟨g, cap, cur, rfl, _, _, hn, _⟩
  · exact ⟨none, 0, by rw [h0], by omega⟩
  · exact ⟨_, _, rfl, hn⟩
theorem TOwn.nil (w : World) (B : Nat) : TOwn w B (.slice none 0 0) [] := World.ownsRow_nil w B 45 5
theorem TOwn.lt {w : World} {B : Nat} {v : Value} {xs : List Thing} (h : TOwn w B v xs) : ∀ k, v.ownBlock = some k → B ≤ k ∧ k < w.heap.size := World.ownsRow.lt h
theorem TOwn.below {w w' : World} {B : Nat} {v : Value} {xs : List Thing} (h : TOwn w B v xs) (hb : Below w.heap.size w w') : TOwn w' B v xs :=
  World.ownsRow.kept h (row := none) ⟨hb.os, hb.tape, hb.output, hb.size, fun k hk _ => hb.block k hk⟩ (by
    cases hq : v.ownBlock with
    | none => exact .inl rfl
    | some k => exact .inr (by simp))

end Go.Proofs.Ytjgjikeanmdhkaa
