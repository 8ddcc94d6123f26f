/-
  Merged for a claim: C4L2, C4K2.
-/
import Derived.Test.YtdnpoeegefkoiaaGreatFC4L
import Derived.Test.YtdnpoeegefkoiaaGreatFC4K
namespace Go.Proofs.YtdnpoeegefkoiaaGreat
open Go Go.RowKit

section
variable {w : World} {S : Nat → Prop} {g : Nat} {m : Mc} {p : Mp}
def StepR (m : Mc) (S : Nat → Prop) (g : Nat) (w : World) (e : Ending) (w' : World) : Prop := e = .returned (.int .u8 (stepM m).how) ∧ ∃ p', MIn w' (grow S w w') g (stepM m) p' ∧ Keeps S w w'
set_option maxRecDepth 100000 in
theorem step_any (h : MIn w S g m p) (ho : Okm m 0) : Calls Tryz.prog 12 #[.pointer (some ⟨g, 0, none⟩)] w (StepR m S g w) := by
  have HH := Lib.hid (how_any h)
  by_cases h0 : m.how = 0
  · have HS := Lib.hid (show stepM m = doM m by unfold stepM; rw [if_pos h0])
    have HD := Lib.hid (do_all h ho)
    rw [h0] at HH
    clear h0 h ho
    unfold DoR at HD
    go_enter Tryz.func12, Tryz.ntmps12
    go_wp2_with fail
    refine HH.out.mono ?_
    rintro e w' ⟨rfl, rfl⟩
    go_wp2_with fail
    refine HD.out.mono ?_
    rintro e w1 ⟨rfl, p', h1, h2⟩
    have H1 := Lib.hid h1
    have H2 := Lib.hid h2
    have HH1 := Lib.hid (how_any h1)
    clear h1 h2
    go_wp2_with fail
    refine HH1.out.mono ?_
    rintro e w' ⟨rfl, rfl⟩
    go_wp2_with fail
    go_ret
    unfold StepR
    rw [HS.out]
    exact ⟨rfl, p', H1.out, H2.out⟩
  · have HS := Lib.hid (show stepM m = m by unfold stepM; rw [if_neg h0])
    have b0 := nbeq_of h0
    have H := Lib.hid h
    clear h0 h ho
    go_enter Tryz.func12, Tryz.ntmps12
    go_wp2_with fail
    refine HH.out.mono ?_
    rintro e w' ⟨rfl, rfl⟩
    go_wp2_with fail
    refine HH.out.mono ?_
    rintro e w' ⟨rfl, rfl⟩
    go_wp2_with fail
    go_ret
    unfold StepR
    rw [HS.out]
    exact ⟨rfl, p, H.out.more (fun k hs => .inl hs) (grow_lt H.out.lt (Nat.le_refl _)), Keeps.refl _ _⟩

set_option maxRecDepth 100000 in
set_option maxHeartbeats 400000 in
/-- two rows of numbers that are alike -/
theorem numbers_eq (A A2 : Option Addr) (c c2 : Nat) (l : List Int) (w : World) (h1 : ILs w A l) (h2 : ILs w A2 l) (_hc : l.length ≤ c) (_hc2 : l.length ≤ c2) (hl : l.length ≤ 1099511627776) :
    Calls Tryz.prog 16 #[.slice A l.length c, .slice A2 l.length c2] w fun e w' => e = .returned (.bool true) ∧ Below w.heap.size w w' := by
  have H1 := Lib.hid h1
  have H2 := Lib.hid h2
  have hne : ((l.length : Int) != (l.length : Int)) = false := by simp
  clear h1 h2
  go_enter Tryz.func16, Tryz.ntmps16
  go_wp2_with fail
  go_loopw [5] (fun v wr => ∃ k : Nat, k ≤ l.length ∧ v = .int .i64 k ∧ Hid (Below w.heap.size w wr)) (fun v _ => l.length - (intOf v).toNat)
  case atStart => exact ⟨0, by omega, rfl, Below.refl _ _⟩
  case round =>
    obtain ⟨k, hk, rfl, hb⟩ := hrel
    by_cases hlt : k < l.length
    · obtain ⟨g1, o1, rfl, _, q1⟩ := H1.out.below hb.out (by omega)
      obtain ⟨g2, o2, rfl, _, q2⟩ := H2.out.below hb.out (by omega)
      have c1 := q1 k hlt
      have d1 := q2 k hlt
      have hnx : ((l.getD k 0) != (l.getD k 0)) = false := by simp
      generalize l.getD k 0 = x at *
      clear q1 q2
      go_wp2_with fail
      go_region
      all_goals
        go_wp2_with fail
        go_roundw
        case rel => exact ⟨k + 1, by omega, by go_num, hb.out.drew⟩
        case measure => simp [intOf]; omega
    · obtain rfl : k = l.length := by omega
      go_wp2_with fail
      go_ret
      exact ⟨rfl, hb.out⟩
end

end Go.Proofs.YtdnpoeegefkoiaaGreat

namespace Go.Proofs.YtdnpoeegefkoiaaGreat
open Go Go.RowKit

section
variable {w : World} {S : Nat → Prop} {g : Nat} {m : Mc} {p : Mp}
theorem pc_any (h : MIn w S g m p) : Calls Tryz.prog 15 #[.pointer (some ⟨g, 0, none⟩)] w fun e w' => e = .returned (.int .i64 m.pc) ∧ w = w' := by
  have c := h.cells.2.1
  clear h
  go_enter Tryz.func15, Tryz.ntmps15
  go_wp2
  go_ret
  exact ⟨rfl, rfl⟩
theorem left_any (h : MIn w S g m p) : Calls Tryz.prog 25 #[.pointer (some ⟨g, 0, none⟩)] w fun e w' => e = .returned (.int .i64 m.input.length) ∧ w = w' := by
  have c := h.cells.2.2.2.2.1
  clear h
  go_enter Tryz.func25, Tryz.ntmps25
  go_wp2
  go_ret
  exact ⟨rfl, rfl⟩
set_option maxRecDepth 100000 in
theorem words_any (h : MIn w S g m p) (hl : m.words.length ≤ 1099511627776) : Calls Tryz.prog 26 #[.pointer (some ⟨g, 0, none⟩)] w (MadeI w m.words) := by
  have c := h.cells.2.2.2.1
  have HC := Lib.hid (cloneI_some ⟨p.gw, 0, none⟩ m.words.length m.words w (fun _ => ⟨p.gw, 0, rfl, h.lt _ h.gwS, fun j hj => by rw [Nat.zero_add]; exact h.words.cell hj⟩) hl)
  clear h
  go_enter Tryz.func26, Tryz.ntmps26
  go_wp2_with fail
  refine HC.out.mono ?_
  rintro e w1 ⟨v, rfl, h1⟩
  obtain ⟨A1, c1, rfl⟩ := h1.1.form
  have H1 := Lib.hid h1
  clear h1
  go_wp2_with fail
  go_ret
  exact ⟨_, rfl, H1.out⟩
end

end Go.Proofs.YtdnpoeegefkoiaaGreat
