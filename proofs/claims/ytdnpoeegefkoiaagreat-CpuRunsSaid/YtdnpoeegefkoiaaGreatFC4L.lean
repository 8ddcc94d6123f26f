/-
  Merged for a claim: C4L.
-/
import Derived.Test.YtdnpoeegefkoiaaGreatFC4K
import Derived.LoopTactic
namespace Go.Proofs.YtdnpoeegefkoiaaGreat
open Go Go.RowKit

/-- small enough for so many steps -/
structure Okm (m : Mc) (n : Nat) : Prop where
  code : m.code.length ≤ 1099511627776
  words : m.words.length ≤ 65536
  out : m.out.length + n ≤ 1099511627776
theorem Okm.do_ {m : Mc} {n : Nat} (h : Okm m (n + 1)) : Okm (doM m) n := by
  obtain ⟨h1, h2, h3⟩ := h
  unfold doM
  split
  · split
    · exact ⟨h1, h2, by simp only; omega⟩
    · obtain ⟨_, _, _, e1, e2, _, e3, _⟩ := turn_same m (gI m.code m.pc) (gN m.code m.pc)
      exact ⟨by simp only [e1]; exact h1, by simp only [e2]; exact h2, by simp only; omega⟩
  · exact ⟨h1, h2, by simp only; omega⟩
theorem Okm.less {m : Mc} {n k : Nat} (h : Okm m n) (hk : k ≤ n) : Okm m k := ⟨h.code, h.words, by have := h.out; omega⟩

section
variable {w : World} {S : Nat → Prop} {g : Nat} {m : Mc} {p : Mp}
theorem do_all (h : MIn w S g m p) (ho : Okm m 0) : Calls Tryz.prog 27 #[.pointer (some ⟨g, 0, none⟩)] w (DoR m S g w) := by
  by_cases he : gE m.code m.pc = 0
  · exact do_good h ho.code ho.words ho.out he
  · exact do_bad h ho.code he
def RunR (n : Nat) (m : Mc) (S : Nat → Prop) (g : Nat) (w : World) (e : Ending) (w' : World) : Prop :=
  e = .returned (.tuple #[.int .u8 (runM n m).1.how, .int .i64 (runM n m).2]) ∧ ∃ p', MIn w' (grow S w w') g (runM n m).1 p' ∧ Keeps S w w'
/-- between two rounds -/
def RunI (n : Nat) (m : Mc) (S : Nat → Prop) (g : Nat) (w : World) (k : Nat) (m' : Mc) (wr : World) : Prop := (∃ p', MIn wr (grow S w wr) g m' p') ∧ Keeps S w wr ∧ runM n m = runM k m' ∧ Okm m' k
theorem RunI.do_ {n k : Nat} {m' : Mc} {wr w2 : World} {e : Ending} (h : RunI n m S g w (k + 1) m' wr) (h0 : m'.how = 0) (hd : DoR m' (grow S w wr) g wr e w2) : RunI n m S g w k (doM m') w2 := by
  obtain ⟨_, h2, h3, h4⟩ := h
  obtain ⟨_, p', hM, hk⟩ := hd
  refine ⟨⟨p', hM.more (fun q hq => ?_) (fun q hq => ?_)⟩, h2.then_ hk, by rw [h3, runM, if_pos h0], h4.do_⟩
  · rcases hq with (h | h) | h
    · exact .inl h
    · exact .inr ⟨h.1, Nat.lt_of_lt_of_le h.2 hk.size⟩
    · exact .inr ⟨Nat.le_trans h2.size h.1, h.2⟩
  · rcases hq with h | h
    · exact hM.lt q (.inl (.inl h))
    · exact h.2
theorem RunI.end_ {n k : Nat} {m' : Mc} {wr : World} (h : RunI n m S g w k m' wr) (h0 : k = 0 ∨ ¬ m'.how = 0) : RunR n m S g w (.returned (.tuple #[.int .u8 m'.how, .int .i64 k])) wr := by
  obtain ⟨⟨p', h1⟩, h2, h3, _⟩ := h
  have he : runM k m' = (m', k) := by
    rcases h0 with rfl | h0
    · rfl
    · exact runM_stop h0 k
  unfold RunR
  rw [h3, he]
  exact ⟨rfl, p', h1, h2⟩
set_option maxRecDepth 100000 in
set_option maxHeartbeats 1000000 in
theorem run_any (h : MIn w S g m p) (fuel : Int) (ho : Okm m fuel.toNat) : Calls Tryz.prog 19 #[.pointer (some ⟨g, 0, none⟩), .int .i64 fuel] w (RunR fuel.toNat m S g w) := by
  have HI : Hid (RunI fuel.toNat m S g w fuel.toNat m w) := ⟨⟨p, h.more (fun k hs => .inl hs) (grow_lt h.lt (Nat.le_refl _))⟩, Keeps.refl _ _, rfl, ho⟩
  clear h ho
  obtain ⟨n, hn⟩ : ∃ n, n = fuel.toNat := ⟨_, rfl⟩
  rw [← hn] at HI ⊢
  by_cases hf : 0 ≤ fuel
  · obtain rfl : fuel = (n : Int) := by omega
    have HN := Lib.hid hn
    clear hn
    go_enter Tryz.func19, Tryz.ntmps19
    go_wp2_with fail
    go_loopw [5] (fun v wr => ∃ (k : Nat) (m' : Mc), v = .int .i64 k ∧ Hid (RunI n m S g w k m' wr)) (fun v _ => (intOf v).toNat)
    case atStart => exact ⟨n, m, rfl, HI⟩
    case round =>
      obtain ⟨k, m', rfl, hI⟩ := hrel
      obtain ⟨⟨p1, hM⟩, -, -, hok⟩ := hI.out
      have HH := Lib.hid (how_any hM)
      rcases k with _ | k
      · clear hM hok
        go_wp2_with fail
        refine HH.out.mono ?_
        rintro e w' ⟨rfl, rfl⟩
        go_wp2_with fail
        go_ret2
        exact hI.out.end_ (.inl rfl)
      · by_cases h0 : m'.how = 0
        · have hkb : k ≤ 1099511627776 := by have := hok.out; omega
          have HD := Lib.hid (do_all hM (hok.less (Nat.zero_le _)))
          have H0 := Lib.hid h0
          rw [h0] at HH
          clear h0 hM hok
          go_wp2_with fail
          refine HH.out.mono ?_
          rintro e w' ⟨rfl, rfl⟩
          go_wp2_with fail
          refine HD.out.mono ?_
          rintro e w2 hd
          have HI2 : Hid (RunI n m S g w k (doM m') w2) := hI.out.do_ H0.out hd
          obtain ⟨rfl, -⟩ := hd
          go_wp2_with fail
          go_roundw
          case rel => exact ⟨k, doM m', by go_num, HI2⟩
          case measure => simp [intOf]
        · have b0 := nbeq_of h0
          have H0 := Lib.hid h0
          clear h0 hM hok
          go_wp2_with fail
          refine HH.out.mono ?_
          rintro e w' ⟨rfl, rfl⟩
          go_wp2_with fail
          refine HH.out.mono ?_
          rintro e w' ⟨rfl, rfl⟩
          go_wp2_with fail
          go_ret2
          exact hI.out.end_ (.inr H0.out)
  · obtain rfl : n = 0 := by omega
    have HN := Lib.hid hn
    clear hn
    go_enter Tryz.func19, Tryz.ntmps19
    go_wp2_with fail
    go_loopw [5] (fun v wr => ∃ (k : Nat) (m' : Mc), v = .int .i64 k ∧ Hid (RunI 0 m S g w k m' wr)) (fun v _ => (intOf v).toNat)
    case atStart => exact ⟨0, m, rfl, HI⟩
    case round =>
      obtain ⟨k, m', rfl, hI⟩ := hrel
      obtain ⟨⟨p1, hM⟩, -, -, hok⟩ := hI.out
      have HH := Lib.hid (how_any hM)
      rcases k with _ | k
      · clear hM hok
        go_wp2_with fail
        refine HH.out.mono ?_
        rintro e w' ⟨rfl, rfl⟩
        go_wp2_with fail
        go_ret2
        exact hI.out.end_ (.inl rfl)
      · by_cases h0 : m'.how = 0
        · have hkb : k ≤ 1099511627776 := by have := hok.out; omega
          have HD := Lib.hid (do_all hM (hok.less (Nat.zero_le _)))
          have H0 := Lib.hid h0
          rw [h0] at HH
          clear h0 hM hok
          go_wp2_with fail
          refine HH.out.mono ?_
          rintro e w' ⟨rfl, rfl⟩
          go_wp2_with fail
          refine HD.out.mono ?_
          rintro e w2 hd
          have HI2 : Hid (RunI 0 m S g w k (doM m') w2) := hI.out.do_ H0.out hd
          obtain ⟨rfl, -⟩ := hd
          go_wp2_with fail
          go_roundw
          case rel => exact ⟨k, doM m', by go_num, HI2⟩
          case measure => simp [intOf]
        · have b0 := nbeq_of h0
          have H0 := Lib.hid h0
          clear h0 hM hok
          go_wp2_with fail
          refine HH.out.mono ?_
          rintro e w' ⟨rfl, rfl⟩
          go_wp2_with fail
          refine HH.out.mono ?_
          rintro e w' ⟨rfl, rfl⟩
          go_wp2_with fail
          go_ret2
          exact hI.out.end_ (.inr H0.out)

end

end Go.Proofs.YtdnpoeegefkoiaaGreat
