/-
  Merged for a claim: C5J.
-/
import Derived.Test.YtdnpoeegefkoiaaGreatFC4H
import Derived.Test.YtdnpoeegefkoiaaGreatFC5F
import Derived.Test.YtdnpoeegefkoiaaGreatFC5G
import Derived.Test.YtdnpoeegefkoiaaGreatFC5I
namespace Go.Proofs.YtdnpoeegefkoiaaGreat
open Go Go.RowKit

/-- what the document's does makes of a machine, and what it answers -/
def thenM (m : Mc) (i : Ins) (next : Int) : Mc × Int :=
  match endOf m i with
  | some (h, n) => ({ m with num := n }, h)
  | none => ({ turnOf m i next with pc := goOf m i next }, 0)
section
variable {w : World} {S : Nat → Prop} {g : Nat} {m m' : Mc} {p : Rp} {i : Ins} {next : Int} {args : Array Value}
theorem num_eq {a : Int} (h : m.num = a) : { m with num := a } = m := by
  subst h
  rfl
theorem outE {a b : Int} (he : endOf m i = some (a, b)) (ht : { m with num := b } = m') (hc : Calls Tryz.prog 29 args w (DoesR m' a S g w)) : Calls Tryz.prog 29 args w (DoesR (thenM m i next).1 (thenM m i next).2 S g w) := by
  unfold thenM
  rw [he]
  subst ht
  exact hc
theorem outT (he : endOf m i = none) (ht : { turnOf m i next with pc := goOf m i next } = m') (hc : Calls Tryz.prog 29 args w (DoesR m' 0 S g w)) : Calls Tryz.prog 29 args w (DoesR (thenM m i next).1 (thenM m i next).2 S g w) := by
  unfold thenM
  rw [he]
  subst ht
  exact hc
theorem hasW_nat {a : Int} (h : hasW m a = true) : ∃ k : Nat, a = k ∧ k < m.words.length := by
  have := hasW_yes h
  exact ⟨a.toNat, by omega, by omega⟩

set_option maxHeartbeats 1000000 in
theorem does_any (h : DIn w S g m p) (hm : m.num = 0) (hi : rightB i = true) (hw : m.words.length ≤ 65536) (ho : m.out.length ≤ 1099511627776) (hin : m.input.length ≤ 1099511627776) :
    Calls Tryz.prog 29 #[.pointer (some ⟨g, 0, none⟩), iv i, .int .i64 next] w (DoesR (thenM m i next).1 (thenM m i next).2 S g w) := by
  have hN := num_eq hm
  obtain ⟨hk, hp, hd⟩ := right_parts hi
  have hk' := isK_range hk
  clear hi hk
  obtain ⟨k, o, r, s, t, n, mm⟩ := i
  simp only at hk' hp
  have : k = 1 ∨ k = 2 ∨ k = 3 ∨ k = 4 ∨ k = 5 ∨ k = 6 ∨ k = 7 ∨ k = 8 ∨ k = 9 ∨ k = 10 ∨ k = 11 ∨ k = 12 ∨ k = 13 ∨ k = 14 ∨ k = 15 ∨ k = 16 ∨ k = 17 ∨ k = 18 := by omega
  clear hk'
  rcases this with rfl | rfl | rfl | rfl | rfl | rfl | rfl | rfl | rfl | rfl | rfl | rfl | rfl | rfl | rfl | rfl | rfl | rfl
  · obtain rfl : s = 0 := congrArg Ins.s hd
    exact outT rfl rfl (does_nop h _ _ _ _ _ _)
  · obtain rfl : s = 0 := congrArg Ins.s hd
    obtain ⟨r, rfl, hr⟩ := isR_nat (hp .reg (by decide))
    exact outT rfl rfl (does_num h _ _ _ _ _ r hr)
  · obtain ⟨⟨r, rfl, hr⟩, ⟨s, rfl, hs⟩⟩ := both_nat (hp .both (by decide))
    exact outT rfl rfl (does_move h _ _ _ _ _ r s hr hs)
  · obtain ⟨⟨r, rfl, hr⟩, ⟨s, rfl, hs⟩⟩ := both_nat (hp .both (by decide))
    obtain ⟨t, rfl, ht⟩ := isR_nat (hp .third (by decide))
    have hop : 1 ≤ o ∧ o ≤ 13 := of_decide_eq_true (hp .op (by decide))
    by_cases hz : (o = 4 ∨ o = 5) ∧ rg m t = 0
    · exact outE (show (if _ then _ else _) = _ from if_pos hz) hN (does_bin_no h _ _ _ _ r s t hr hs ht hop.1 hop.2 hz)
    · exact outT (show (if _ then _ else _) = _ from if_neg hz) rfl (does_bin h _ _ _ _ r s t hr hs ht hop.1 hop.2 hz)
  · obtain ⟨⟨r, rfl, hr⟩, ⟨s, rfl, hs⟩⟩ := both_nat (hp .both (by decide))
    exact outT rfl rfl (does_un h _ _ _ _ _ r s hr hs)
  · obtain ⟨⟨r, rfl, hr⟩, ⟨s, rfl, hs⟩⟩ := both_nat (hp .both (by decide))
    cases hh : hasW m (wrap64 (rg m s + n)) with
    | false => exact outE (show (if hasW m (wrap64 (rg m s + n)) = true then _ else _) = _ by rw [if_neg (by rw [hh]; simp)]) hN (does_load_no h _ _ _ _ _ r s hr hs hh)
    | true =>
      obtain ⟨k, hk, hkl⟩ := hasW_nat hh
      exact outT (show (if hasW m (wrap64 (rg m s + n)) = true then _ else _) = _ by rw [if_pos hh]) (show ({ setR m r (wd m (wrap64 (rg m s + n))) with pc := next } : Mc) = _ by rw [hk]) (does_load h _ _ _ _ _ r s k hr hs hk hkl)
  · obtain ⟨⟨r, rfl, hr⟩, ⟨s, rfl, hs⟩⟩ := both_nat (hp .both (by decide))
    cases hh : hasW m (wrap64 (rg m s + n)) with
    | false => exact outE (show (if hasW m (wrap64 (rg m s + n)) = true then _ else _) = _ by rw [if_neg (by rw [hh]; simp)]) hN (does_store_no h _ _ _ _ _ r s hr hs hh)
    | true =>
      obtain ⟨k, hk, hkl⟩ := hasW_nat hh
      exact outT (show (if hasW m (wrap64 (rg m s + n)) = true then _ else _) = _ by rw [if_pos hh]) (show ({ setW m (wrap64 (rg m s + n)) (rg m r) with pc := next } : Mc) = _ by rw [hk]) (does_store h _ _ _ _ _ r s k hr hs hk hkl)
  · obtain ⟨⟨r, rfl, hr⟩, ⟨s, rfl, hs⟩⟩ := both_nat (hp .both (by decide))
    obtain ⟨t, rfl, ht⟩ := isR_nat (hp .third (by decide))
    by_cases hx : rg m t < 0
    · exact outE (show (if rg m t < 0 ∨ mm ≤ rg m t then some ((3 : Int), (0 : Int)) else if hasW m (wrap64 (wrap64 (rg m s + n) + rg m t)) = true then none else some (6, 0)) = _ from if_pos (Or.inl hx)) hN (does_pick_below h _ _ _ _ r s t hr hs ht hx)
    · by_cases hy : mm ≤ rg m t
      · exact outE (show (if rg m t < 0 ∨ mm ≤ rg m t then some ((3 : Int), (0 : Int)) else if hasW m (wrap64 (wrap64 (rg m s + n) + rg m t)) = true then none else some (6, 0)) = _ from if_pos (Or.inr hy)) hN (does_pick_above h _ _ _ _ r s t hr hs ht hx hy)
      · have hxy : ¬ (rg m t < 0 ∨ mm ≤ rg m t) := by omega
        cases hh : hasW m (wrap64 (wrap64 (rg m s + n) + rg m t)) with
        | false => exact outE (show (if rg m t < 0 ∨ mm ≤ rg m t then _ else if hasW m (wrap64 (wrap64 (rg m s + n) + rg m t)) = true then _ else _) = _ by rw [if_neg hxy, if_neg (by rw [hh]; simp)]) hN (does_pick_no h _ _ _ _ r s t hr hs ht hx hy hh)
        | true =>
          obtain ⟨k, hk, hkl⟩ := hasW_nat hh
          exact outT (show (if rg m t < 0 ∨ mm ≤ rg m t then _ else if hasW m (wrap64 (wrap64 (rg m s + n) + rg m t)) = true then _ else _) = _ by rw [if_neg hxy, if_pos hh]) (show ({ setR m r (wd m (wrap64 (wrap64 (rg m s + n) + rg m t))) with pc := next } : Mc) = _ by rw [hk]) (does_pick h _ _ _ _ r s t k hr hs ht hx hy hk hkl)
  · obtain ⟨⟨r, rfl, hr⟩, ⟨s, rfl, hs⟩⟩ := both_nat (hp .both (by decide))
    obtain ⟨t, rfl, ht⟩ := isR_nat (hp .third (by decide))
    by_cases hx : rg m t < 0
    · exact outE (show (if rg m t < 0 ∨ mm ≤ rg m t then some ((3 : Int), (0 : Int)) else if hasW m (wrap64 (wrap64 (rg m s + n) + rg m t)) = true then none else some (6, 0)) = _ from if_pos (Or.inl hx)) hN (does_lay_below h _ _ _ _ r s t hr hs ht hx)
    · by_cases hy : mm ≤ rg m t
      · exact outE (show (if rg m t < 0 ∨ mm ≤ rg m t then some ((3 : Int), (0 : Int)) else if hasW m (wrap64 (wrap64 (rg m s + n) + rg m t)) = true then none else some (6, 0)) = _ from if_pos (Or.inr hy)) hN (does_lay_above h _ _ _ _ r s t hr hs ht hx hy)
      · have hxy : ¬ (rg m t < 0 ∨ mm ≤ rg m t) := by omega
        cases hh : hasW m (wrap64 (wrap64 (rg m s + n) + rg m t)) with
        | false => exact outE (show (if rg m t < 0 ∨ mm ≤ rg m t then _ else if hasW m (wrap64 (wrap64 (rg m s + n) + rg m t)) = true then _ else _) = _ by rw [if_neg hxy, if_neg (by rw [hh]; simp)]) hN (does_lay_no h _ _ _ _ r s t hr hs ht hx hy hh)
        | true =>
          obtain ⟨k, hk, hkl⟩ := hasW_nat hh
          exact outT (show (if rg m t < 0 ∨ mm ≤ rg m t then _ else if hasW m (wrap64 (wrap64 (rg m s + n) + rg m t)) = true then _ else _) = _ by rw [if_neg hxy, if_pos hh]) (show ({ setW m (wrap64 (wrap64 (rg m s + n) + rg m t)) (rg m r) with pc := next } : Mc) = _ by rw [hk]) (does_lay h _ _ _ _ r s t k hr hs ht hx hy hk hkl)
  · obtain rfl : s = 0 := congrArg Ins.s hd
    exact outT rfl rfl (does_jump h _ _ _ _ _ _)
  · obtain rfl : s = 0 := congrArg Ins.s hd
    obtain ⟨r, rfl, hr⟩ := isR_nat (hp .reg (by decide))
    by_cases hz : rg m r = 0
    · exact outT rfl (show ({ m with pc := if rg m r = 0 then n else next } : Mc) = _ by rw [if_pos hz]) (does_zero h _ _ _ _ _ r hr hz)
    · exact outT rfl (show ({ m with pc := if rg m r = 0 then n else next } : Mc) = _ by rw [if_neg hz]) (does_more h _ _ _ _ _ r hr hz)
  · obtain rfl : s = 0 := congrArg Ins.s hd
    by_cases h0 : wrap64 (rg m 15 - 1) < 0
    · exact outE (show (if _ then _ else _) = _ from if_pos h0) hN (does_call_stack h _ _ _ _ _ _ h0)
    · cases hh : hasW m (wrap64 (rg m 15 - 1)) with
      | false => exact outE (show (if wrap64 (rg m 15 - 1) < 0 then _ else if hasW m (wrap64 (rg m 15 - 1)) = true then _ else _) = _ by rw [if_neg h0, if_neg (by rw [hh]; simp)]) hN (does_call_no h _ _ _ _ _ _ h0 hh)
      | true =>
        obtain ⟨k, hk, hkl⟩ := hasW_nat hh
        exact outT (show (if wrap64 (rg m 15 - 1) < 0 then _ else if hasW m (wrap64 (rg m 15 - 1)) = true then _ else _) = _ by rw [if_neg h0, if_pos hh]) (show ({ setR (setW m (wrap64 (rg m 15 - 1)) next) 15 (wrap64 (rg m 15 - 1)) with pc := n } : Mc) = _ by rw [hk]) (does_call h _ _ _ _ _ _ k hk hkl)
  · obtain rfl : s = 0 := congrArg Ins.s hd
    cases hh : hasW m (rg m 15) with
    | false => exact outE (show (if hasW m (rg m 15) = true then _ else _) = _ by rw [if_neg (by rw [hh]; simp)]) hN (does_ret_no h _ _ _ _ _ _ hh)
    | true =>
      obtain ⟨k, hk, hkl⟩ := hasW_nat hh
      by_cases hx : wd m (rg m 15) < 0
      · exact outE (show (if hasW m (rg m 15) = true then (if wd m (rg m 15) < 0 ∨ 16777216 ≤ wd m (rg m 15) then some ((5 : Int), (0 : Int)) else none) else some (6, 0)) = _ by rw [if_pos hh, if_pos (.inl hx)]) hN (does_ret_below h _ _ _ _ _ _ k hk hkl (hk ▸ hx))
      · by_cases hy : 16777216 ≤ wd m (rg m 15)
        · exact outE (show (if hasW m (rg m 15) = true then (if wd m (rg m 15) < 0 ∨ 16777216 ≤ wd m (rg m 15) then some ((5 : Int), (0 : Int)) else none) else some (6, 0)) = _ by rw [if_pos hh, if_pos (.inr hy)]) hN (does_ret_above h _ _ _ _ _ _ k hk hkl (hk ▸ hx) (hk ▸ hy))
        · exact outT (show (if hasW m (rg m 15) = true then (if wd m (rg m 15) < 0 ∨ 16777216 ≤ wd m (rg m 15) then some ((5 : Int), (0 : Int)) else none) else some (6, 0)) = _ by rw [if_pos hh, if_neg (by omega)]) (show ({ setR m 15 (rg m 15 + 1) with pc := wd m (rg m 15) } : Mc) = _ by rw [hk]) (does_ret h _ _ _ _ _ _ k hk hkl hw (hk ▸ hx) (hk ▸ hy))
  · obtain rfl : s = 0 := congrArg Ins.s hd
    by_cases h0 : wrap64 (rg m 15 - n) < 0
    · exact outE (show (if _ then _ else _) = _ from if_pos h0) hN (does_frame_stack h _ _ _ _ _ _ h0)
    · by_cases h1 : (m.words.length : Int) < wrap64 (rg m 15 - n)
      · exact outE (show (if wrap64 (rg m 15 - n) < 0 then some ((7 : Int), (0 : Int)) else if (m.words.length : Int) < wrap64 (rg m 15 - n) then some (6, 0) else none) = _ by rw [if_neg h0, if_pos h1]) hN (does_frame_no h _ _ _ _ _ _ h0 h1)
      · exact outT (show (if wrap64 (rg m 15 - n) < 0 then some ((7 : Int), (0 : Int)) else if (m.words.length : Int) < wrap64 (rg m 15 - n) then some (6, 0) else none) = _ by rw [if_neg h0, if_neg h1]) rfl (does_frame h _ _ _ _ _ _ h0 h1)
  · obtain rfl : s = 0 := congrArg Ins.s hd
    obtain ⟨r, rfl, hr⟩ := isR_nat (hp .reg (by decide))
    cases hl : m.input with
    | nil => exact outE (show (if m.input = [] then _ else _) = _ by rw [if_pos hl]) hN (does_in_no h _ _ _ _ _ r hr hl)
    | cons x l =>
      have hll : l.length ≤ 1099511627776 := by
        rw [hl] at hin
        simp only [List.length_cons] at hin
        omega
      refine outT (m' := { setR m r x with input := l, pc := next }) (show (if m.input = [] then _ else _) = _ by rw [if_neg (by rw [hl]; simp)]) (show ({ setR m r (m.input.headD 0) with input := m.input.tail, pc := next } : Mc) = _ by rw [hl]; rfl) ?_
      by_cases hv : ∃ b o k, p.vi = .slice (some ⟨b, o, none⟩) k 1
      · exact does_in0 h _ _ _ _ _ r x l hr hl hll hv
      · exact does_in1 h _ _ _ _ _ r x l hr hl hll fun b o k e => hv ⟨b, o, k, e⟩
  · obtain rfl : s = 0 := congrArg Ins.s hd
    obtain ⟨r, rfl, hr⟩ := isR_nat (hp .reg (by decide))
    exact outT rfl rfl (does_out h _ _ _ _ _ r hr ho)
  · obtain rfl : s = 0 := congrArg Ins.s hd
    obtain ⟨r, rfl, hr⟩ := isR_nat (hp .reg (by decide))
    exact outE rfl rfl (does_halt h _ _ _ _ _ r hr)
  · obtain rfl : s = 0 := congrArg Ins.s hd
    have hn : 2 ≤ n ∧ n ≤ 4 := of_decide_eq_true (hp .how (by decide))
    exact outE rfl hN (does_trap h _ _ _ _ _ _ (by omega))
end

end Go.Proofs.YtdnpoeegefkoiaaGreat
