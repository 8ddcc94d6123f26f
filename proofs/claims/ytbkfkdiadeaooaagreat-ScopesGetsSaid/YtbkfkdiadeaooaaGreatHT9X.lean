/-
  Merged for a claim: T9X.
-/
import Derived.Test.YtbkfkdiadeaooaaGreatHJ19
import Derived.Test.YtbkfkdiadeaooaaGreatHT9W
namespace Go.Proofs.YtbkfkdiadeaooaaGreat
open Go Go.RowKit

section
variable {b : List UInt8} {s s' : RS} {m : Int}
theorem vd_of (hv : Vd b s) (h1 : s'.no = false → Vd b s') (h2 : s'.no = true → s'.at_ = s.at_) : Vd b s' := by
  cases e : s'.no with
  | false => exact h1 e
  | true => obtain ⟨i, e1, e2⟩ := hv; exact ⟨i, (h2 e).trans e1, e2⟩
theorem tk_at {E N a : Int} (h : (tkS E N a).no = true) : (tkS E N a).at_ = a := by
  unfold tkS at h ⊢
  split at h
  · cases h
  · rename_i q; rw [if_neg q]
theorem vd_tx (hv : Vd b s) : Vd b (txT b s) := vd_of hv (fun h => (tx_has hv h).1.vd) fun h => by
  unfold txT at h ⊢
  by_cases q : s.no = true
  · rw [if_pos q]
  · rw [if_neg q] at h ⊢; exact tk_at h
theorem vd_ox (hv : Vd b s) : Vd b (oxS b s) := vd_of hv (fun h => (ox_has hv h).vd) fun h => by
  unfold oxS at h ⊢
  by_cases q : s.no = true
  · rw [if_pos q]
  · rw [if_neg q] at h ⊢; exact tk_at h
theorem vd_sp (hv : Vd b s) : Vd b (spS b s) := vd_of hv (fun h => (sp_has hv h).1.vd) fun h => by
  unfold spS at h ⊢
  by_cases q : s.no = true
  · rw [if_pos q]
  · rw [if_neg q] at h ⊢; exact tk_at h
theorem vd_dn (hm : m ≤ 16777216) (hv : Vd b s) : Vd b (dnS b m s) := vd_of hv (fun h => by
    have e := (dn_nm hm h).2
    rw [← e]
    exact (nm_has hv (by rw [e]; exact h)).vd) fun h => by
  unfold dnS at h ⊢
  by_cases q : s.no = true
  · rw [if_pos q]
  · rw [if_neg q] at h ⊢
    by_cases q2 : rdE false b s.at_ = 0
    · rw [if_pos q2] at h ⊢
      by_cases q3 : rdX false b s.at_ ≤ m
      · rw [if_pos q3] at h; cases h
      · rw [if_neg q3]
    · rw [if_neg q2]
theorem vd_goL {δ τ : Type} {one : RS × τ → δ × (RS × τ)} (h : ∀ s : RS × τ, Vd b s.1 → Vd b (one s).2.1) : ∀ (n : Nat) (s : RS × τ), Vd b s.1 → Vd b (goL (fun q => q.1.no) one n s).2.1
  | 0, _, hv => hv
  | n + 1, s, hv => by
    cases e : s.1.no with
    | true => rw [goL_no (no := fun q : RS × τ => q.1.no) (n + 1) e]; exact hv
    | false => rw [goL_step (no := fun q : RS × τ => q.1.no) one n s e]; exact vd_goL h n _ (h s hv)
end
/-- a world on the way: the reader, nothing else turned, the variable in the making, the one that is to be answered -/
structure DvW (gr : Nat) (A : Option Addr) (c : Nat) (b : List UInt8) (s : RS) (w W : World) (g2 g3 : Nat) (k : List Value) : Prop where
  i : DdAt W gr A c b s
  l : Lies W gr A b
  g : w.grownBy W (some gr)
  c3 : CAt W g3 67 k
  c2 : CAt W g2 67 [.string ⟨#[]⟩, .int .u8 0, .int .i64 0, .string ⟨#[]⟩, .int .i64 0, .slice none 0 0]
  n : w.heap.size ≤ g2 ∧ g2 < g3 ∧ gr < w.heap.size
theorem grown_new {w W W2 : World} {r : Option Nat} (h : w.grownBy W r) (hb : Below w.heap.size W W2) : w.grownBy W2 r :=
  ⟨hb.os.trans h.os, hb.tape.trans h.tape, hb.output.trans h.output, Nat.le_trans h.size hb.size, fun k hk hne => (hb.block k hk).trans (h.block k hk hne)⟩
section
variable {gr : Nat} {A : Option Addr} {c : Nat} {b : List UInt8} {s s' : RS} {w W w' : World} {g2 g3 : Nat} {k : List Value}
theorem DvW.read (h : DvW gr A c b s w W g2 g3 k) (hr : DdAt w' gr A c b s') (hg : W.grownBy w' (some gr)) : DvW gr A c b s' w w' g2 g3 k := by
  have hn := h.n
  have h3 := h.c3.lt
  have hb : Below gr W w' := below_gr hg (Nat.le_refl _) (by omega)
  refine ⟨hr, h.l.below hb, grown_trans h.g hg, (hg.block g3 h3 (fun e => by injection e with e; omega)).trans h.c3, (hg.block g2 (by omega) (fun e => by injection e with e; omega)).trans h.c2, hn⟩
theorem DvW.set (h : DvW gr A c b s w W g2 g3 k) (j : Nat) (v : Value) : DvW gr A c b s w (W.setCell ⟨g3, j, none⟩ v) g2 g3 (k.set j v) := by
  have hn := h.n
  have hb : Below w.heap.size W (W.setCell ⟨g3, j, none⟩ v) := (Below.refl _ _).setCell (p := ⟨g3, j, none⟩) (by dsimp only; omega) v
  exact ⟨h.i.below hb hn.2.2, h.l.below (hb.mono (by omega)), grown_new h.g hb, h.c3.set j v, h.c2.other (by dsimp only; omega) v, hn⟩
theorem DvW.num (h : DvW gr A c b s w W g2 g3 k) (hbn : b.length ≤ 1099511627776) (m : Int) (hm : 0 ≤ m ∧ m ≤ 16777216) :
    Calls Tryz.prog 21 #[.pointer (some ⟨gr, 0, none⟩), .int .i64 m] W (fun e w' => e = .returned (.int .i64 (dnX b m s)) ∧ DvW gr A c b (dnS b m s) w w' g2 g3 k) :=
  (dnumber_any gr A c b m s W hm hbn h.l h.i).mono fun _ _ ⟨he, hr, hg⟩ => ⟨he, h.read hr hg⟩
theorem DvW.txt (h : DvW gr A c b s w W g2 g3 k) (hc : b.length ≤ c) (hbn : b.length ≤ 1099511627776) :
    Calls Tryz.prog 22 #[.pointer (some ⟨gr, 0, none⟩)] W (fun e w' => e = .returned (.string (str (txX b s))) ∧ DvW gr A c b (txT b s) w w' g2 g3 k) :=
  (dtext_any gr A c b s W hc hbn h.l h.i).mono fun _ _ ⟨he, hr, hg⟩ => ⟨he, h.read hr hg⟩
end
theorem dbyte_vd (gr : Nat) (A : Option Addr) (c : Nat) (b : List UInt8) (s : RS) (w : World) (hv : Vd b s) (hbn : b.length ≤ 1099511627776) (hl : Lies w gr A b) (hr : DdAt w gr A c b s) :
    Calls Tryz.prog 46 #[.pointer (some ⟨gr, 0, none⟩)] w (DkR w gr A c b (.int .u8 (oxX b s)) (oxS b s)) := by
  obtain ⟨at_, no⟩ := s
  obtain ⟨i, e, hi⟩ := hv
  dsimp only at e
  subst e
  exact dbyte_any gr A c b i no w hi hbn hl hr
/-- what a reading of a variable answers -/
def DvR (gr : Nat) (A : Option Addr) (c : Nat) (b : List UInt8) (x : Vr × RS) (w : World) (e : Ending) (w' : World) : Prop :=
  ∃ p : Pv, e = .returned (.agg (vK p)) ∧ p.d = x.1 ∧ VT w' p ∧ DdAt w' gr A c b x.2 ∧ w.grownBy w' (some gr)
end Go.Proofs.YtbkfkdiadeaooaaGreat
