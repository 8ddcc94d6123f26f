/-
  Merged for a claim: C4H.
-/
import Derived.Test.YtdnpoeegefkoiaaGreatFJ4
import Derived.Test.YtdnpoeegefkoiaaGreatFC4G1
import Derived.Test.YtdnpoeegefkoiaaGreatFC4G2
import Derived.Test.YtdnpoeegefkoiaaGreatFC4G3
import Derived.Test.YtdnpoeegefkoiaaGreatFC4G4
import Derived.Test.YtdnpoeegefkoiaaGreatFC4G5
import Derived.Test.YtdnpoeegefkoiaaGreatFC4G6
import Derived.Test.YtdnpoeegefkoiaaGreatFC4G7
namespace Go.Proofs.YtdnpoeegefkoiaaGreat
open Go Go.RowKit

section
variable {w : World} {S : Nat → Prop} {g : Nat} {m : Mc} {p : Mp} {i : Ins} {next : Int} {args : Array Value}
theorem inE {a b : Int} (he : endOf m i = some (a, b)) (hc : Calls Tryz.prog 39 args w (DoneE a b w)) : Calls Tryz.prog 39 args w (DoneR m S g i next w) := hc.mono fun _ _ h => .inl ⟨a, b, he, h⟩
theorem inT (he : endOf m i = none) (hc : Calls Tryz.prog 39 args w (DoneT m S g i next w)) : Calls Tryz.prog 39 args w (DoneR m S g i next w) := hc.mono fun _ _ h => .inr ⟨he, h⟩
theorem isR_nat {r : Int} (h : isR r = true) : ∃ n : Nat, r = n ∧ n < 16 := by
  have h' : 0 ≤ r ∧ r < 16 := of_decide_eq_true h
  exact ⟨r.toNat, by omega, by omega⟩
theorem both_nat {k o r s t n mm : Int} (h : fitsP .both ⟨k, o, r, s, t, n, mm⟩ = true) : (∃ x : Nat, r = x ∧ x < 16) ∧ ∃ x : Nat, s = x ∧ x < 16 := by
  have h' : (isR r && isR s) = true := h
  rw [Bool.and_eq_true] at h'
  exact ⟨isR_nat h'.1, isR_nat h'.2⟩
theorem hasW_no {a : Int} (h : hasW m a = false) : ¬ (0 ≤ a ∧ a < m.words.length) := of_decide_eq_false h
theorem hasW_yes {a : Int} (h : hasW m a = true) : 0 ≤ a ∧ a < m.words.length := of_decide_eq_true h

set_option maxHeartbeats 1000000 in
theorem done_any (h : MIn w S g m p) (hi : rightB i = true) (hw : m.words.length ≤ 65536) (ho : m.out.length ≤ 1099511627776) :
    Calls Tryz.prog 39 #[.pointer (some ⟨g, 0, none⟩), iv i, .int .i64 next] w (DoneR m S g i next w) := by
  obtain ⟨hk, hp, _⟩ := right_parts hi
  have hk' := isK_range hk
  clear hi hk
  obtain ⟨k, o, r, s, t, n, mm⟩ := i
  simp only at hk' hp
  have : k = 1 ∨ k = 2 ∨ k = 3 ∨ k = 4 ∨ k = 5 ∨ k = 6 ∨ k = 7 ∨ k = 8 ∨ k = 9 ∨ k = 10 ∨ k = 11 ∨ k = 12 ∨ k = 13 ∨ k = 14 ∨ k = 15 ∨ k = 16 ∨ k = 17 ∨ k = 18 := by omega
  clear hk'
  rcases this with rfl | rfl | rfl | rfl | rfl | rfl | rfl | rfl | rfl | rfl | rfl | rfl | rfl | rfl | rfl | rfl | rfl | rfl
  · exact inT rfl (done_nop h _ _ _ _ _ _ _)
  · obtain ⟨r, rfl, hr⟩ := isR_nat (hp .reg (by decide))
    exact inT rfl (done_num h _ _ _ _ _ _ r hr)
  · obtain ⟨⟨r, rfl, hr⟩, ⟨s, rfl, hs⟩⟩ := both_nat (hp .both (by decide))
    exact inT rfl (done_move h _ _ _ _ _ r s hr hs)
  · obtain ⟨⟨r, rfl, hr⟩, ⟨s, rfl, hs⟩⟩ := both_nat (hp .both (by decide))
    obtain ⟨t, rfl, ht⟩ := isR_nat (hp .third (by decide))
    have hop : 1 ≤ o ∧ o ≤ 13 := of_decide_eq_true (hp .op (by decide))
    by_cases hz : (o = 4 ∨ o = 5) ∧ rg m t = 0
    · exact inE (show (if _ then _ else _) = _ from if_pos hz) (done_bin_no h _ _ _ _ r s t hr hs ht hz.1 hz.2)
    · exact inT (show (if _ then _ else _) = _ from if_neg hz) (done_bin h _ _ _ _ r s t hr hs ht hop.1 hop.2 fun h1 h2 => hz ⟨h1, h2⟩)
  · obtain ⟨⟨r, rfl, hr⟩, ⟨s, rfl, hs⟩⟩ := both_nat (hp .both (by decide))
    exact inT rfl (done_un h _ _ _ _ _ r s hr hs)
  · obtain ⟨⟨r, rfl, hr⟩, ⟨s, rfl, hs⟩⟩ := both_nat (hp .both (by decide))
    cases hh : hasW m (wrap64 (rg m s + n)) with
    | false => exact inE (show (if hasW m (wrap64 (rg m s + n)) = true then _ else _) = _ by rw [if_neg (by rw [hh]; simp)]) (done_load_no h _ _ _ _ _ r s hr hs (hasW_no hh))
    | true => exact inT (show (if hasW m (wrap64 (rg m s + n)) = true then _ else _) = _ by rw [if_pos hh]) (done_load h _ _ _ _ _ r s hr hs (hasW_yes hh).1 (hasW_yes hh).2)
  · obtain ⟨⟨r, rfl, hr⟩, ⟨s, rfl, hs⟩⟩ := both_nat (hp .both (by decide))
    cases hh : hasW m (wrap64 (rg m s + n)) with
    | false => exact inE (show (if hasW m (wrap64 (rg m s + n)) = true then _ else _) = _ by rw [if_neg (by rw [hh]; simp)]) (done_store_no h _ _ _ _ _ r s hr hs (hasW_no hh))
    | true => exact inT (show (if hasW m (wrap64 (rg m s + n)) = true then _ else _) = _ by rw [if_pos hh]) (done_store h _ _ _ _ _ r s hr hs (hasW_yes hh).1 (hasW_yes hh).2)
  · obtain ⟨⟨r, rfl, hr⟩, ⟨s, rfl, hs⟩⟩ := both_nat (hp .both (by decide))
    obtain ⟨t, rfl, ht⟩ := isR_nat (hp .third (by decide))
    by_cases hx : rg m t < 0 ∨ mm ≤ rg m t
    · exact inE (show (if _ then _ else _) = _ from if_pos hx) (done_pick_index h _ _ _ _ r s t hr hs ht hx)
    · cases hh : hasW m (wrap64 (wrap64 (rg m s + n) + rg m t)) with
      | false => exact inE (show (if rg m t < 0 ∨ mm ≤ rg m t then _ else if hasW m (wrap64 (wrap64 (rg m s + n) + rg m t)) = true then _ else _) = _ by rw [if_neg hx, if_neg (by rw [hh]; simp)]) (done_pick_no h _ _ _ _ r s t hr hs ht (by omega) (by omega) (hasW_no hh))
      | true => exact inT (show (if rg m t < 0 ∨ mm ≤ rg m t then _ else if hasW m (wrap64 (wrap64 (rg m s + n) + rg m t)) = true then _ else _) = _ by rw [if_neg hx, if_pos hh]) (done_pick h _ _ _ _ r s t hr hs ht (by omega) (by omega) (hasW_yes hh))
  · obtain ⟨⟨r, rfl, hr⟩, ⟨s, rfl, hs⟩⟩ := both_nat (hp .both (by decide))
    obtain ⟨t, rfl, ht⟩ := isR_nat (hp .third (by decide))
    by_cases hx : rg m t < 0 ∨ mm ≤ rg m t
    · exact inE (show (if _ then _ else _) = _ from if_pos hx) (done_lay_index h _ _ _ _ r s t hr hs ht hx)
    · cases hh : hasW m (wrap64 (wrap64 (rg m s + n) + rg m t)) with
      | false => exact inE (show (if rg m t < 0 ∨ mm ≤ rg m t then _ else if hasW m (wrap64 (wrap64 (rg m s + n) + rg m t)) = true then _ else _) = _ by rw [if_neg hx, if_neg (by rw [hh]; simp)]) (done_lay_no h _ _ _ _ r s t hr hs ht (by omega) (by omega) (hasW_no hh))
      | true => exact inT (show (if rg m t < 0 ∨ mm ≤ rg m t then _ else if hasW m (wrap64 (wrap64 (rg m s + n) + rg m t)) = true then _ else _) = _ by rw [if_neg hx, if_pos hh]) (done_lay h _ _ _ _ r s t hr hs ht (by omega) (by omega) (hasW_yes hh))
  · exact inT rfl (done_jump h _ _ _ _ _ _ _)
  · obtain ⟨r, rfl, hr⟩ := isR_nat (hp .reg (by decide))
    exact inT rfl (done_zero h _ _ _ _ _ _ r hr)
  · by_cases h0 : wrap64 (rg m 15 - 1) < 0
    · exact inE (show (if _ then _ else _) = _ from if_pos h0) (done_call_stack h _ _ _ _ _ _ _ h0)
    · cases hh : hasW m (wrap64 (rg m 15 - 1)) with
      | false => exact inE (show (if wrap64 (rg m 15 - 1) < 0 then _ else if hasW m (wrap64 (rg m 15 - 1)) = true then _ else _) = _ by rw [if_neg h0, if_neg (by rw [hh]; simp)]) (done_call_no h _ _ _ _ _ _ _ h0 (fun h1 => hasW_no hh ⟨by omega, h1⟩))
      | true => exact inT (show (if wrap64 (rg m 15 - 1) < 0 then _ else if hasW m (wrap64 (rg m 15 - 1)) = true then _ else _) = _ by rw [if_neg h0, if_pos hh]) (done_call h _ _ _ _ _ _ _ h0 (hasW_yes hh).2)
  · cases hh : hasW m (rg m 15) with
    | false => exact inE (show (if hasW m (rg m 15) = true then _ else _) = _ by rw [if_neg (by rw [hh]; simp)]) (done_ret_no h _ _ _ _ _ _ _ (hasW_no hh))
    | true =>
      have hy := hasW_yes hh
      by_cases hx : wd m (rg m 15) < 0 ∨ 16777216 ≤ wd m (rg m 15)
      · exact inE (show (if hasW m (rg m 15) = true then (if wd m (rg m 15) < 0 ∨ 16777216 ≤ wd m (rg m 15) then some ((5 : Int), (0 : Int)) else none) else some (6, 0)) = _ by rw [if_pos hh, if_pos hx]) (done_ret_code h _ _ _ _ _ _ _ hy.1 hy.2 hx)
      · exact inT (show (if hasW m (rg m 15) = true then (if wd m (rg m 15) < 0 ∨ 16777216 ≤ wd m (rg m 15) then some ((5 : Int), (0 : Int)) else none) else some (6, 0)) = _ by rw [if_pos hh, if_neg hx]) (done_ret h _ _ _ _ _ _ _ hy.1 hy.2 hw (by omega) (by omega))
  · by_cases h0 : wrap64 (rg m 15 - n) < 0
    · exact inE (show (if _ then _ else _) = _ from if_pos h0) (done_frame_stack h _ _ _ _ _ _ _ h0)
    · by_cases h1 : (m.words.length : Int) < wrap64 (rg m 15 - n)
      · exact inE (show (if wrap64 (rg m 15 - n) < 0 then some ((7 : Int), (0 : Int)) else if (m.words.length : Int) < wrap64 (rg m 15 - n) then some (6, 0) else none) = _ by rw [if_neg h0, if_pos h1]) (done_frame_no h _ _ _ _ _ _ _ h0 h1)
      · exact inT (show (if wrap64 (rg m 15 - n) < 0 then some ((7 : Int), (0 : Int)) else if (m.words.length : Int) < wrap64 (rg m 15 - n) then some (6, 0) else none) = _ by rw [if_neg h0, if_neg h1]) (done_frame h _ _ _ _ _ _ _ h0 h1)
  · obtain ⟨r, rfl, hr⟩ := isR_nat (hp .reg (by decide))
    cases hl : m.input with
    | nil => exact inE (show (if m.input = [] then _ else _) = _ by rw [if_pos hl]) (done_in_no h _ _ _ _ _ _ r hr hl)
    | cons x l => exact inT (show (if m.input = [] then _ else _) = _ by rw [if_neg (by rw [hl]; simp)]) (done_in h _ _ _ _ _ _ r hr x l hl)
  · obtain ⟨r, rfl, hr⟩ := isR_nat (hp .reg (by decide))
    exact inT rfl (done_out h _ _ _ _ _ _ r hr ho)
  · obtain ⟨r, rfl, hr⟩ := isR_nat (hp .reg (by decide))
    exact inE rfl (done_halt h _ _ _ _ _ _ r hr)
  · have hn : 2 ≤ n ∧ n ≤ 4 := of_decide_eq_true (hp .how (by decide))
    exact inE rfl (done_trap h _ _ _ _ _ _ _ (by omega))
end

end Go.Proofs.YtdnpoeegefkoiaaGreat
