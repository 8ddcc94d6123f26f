/-
  The walk of OctetPuts.
-/
import Derived.Test.YtjgjikeanmdhkaaV
import Derived.Test.YtjgjikeanmdhkaaU
namespace Go.Proofs.Ytjgjikeanmdhkaa
open Go.RowKit

theorem Own.str_ {w : World} {B : Nat} {v : Value} {l : List UInt8} (h : Own w B v l) : (convert 28 9 v).run Try.prog w = .ok (.string (str l)) w := by
  obtain ⟨A, c, rfl, _, _, hL⟩ := h.form
  refine conv_any w A l c fun j hj => ?_
  obtain ⟨g, o, rfl, _, hc⟩ := hL.at_ hj
  exact ⟨_, rfl, by rw [add_zero_off]; exact hc⟩

theorem Own.opened {w : World} {B : Nat} {A : Option Addr} {n c : Nat} {l : List UInt8} (h : Own w B (.slice A n c) l) (hn : 0 < n) : ∃ g, A = some ⟨g, 0, none⟩ ∧ B ≤ g ∧ g < w.heap.size ∧ n = l.length := by
  rcases h.2 with ⟨e, h0⟩ | ⟨g, cap, cur, e, hg, hh, _⟩
  · simp at e; omega
  · simp only [Value.slice.injEq] at e
    obtain ⟨rfl, rfl, rfl⟩ := e
    refine ⟨g, rfl, hg, ?_, rfl⟩
    rcases Nat.lt_or_ge g w.heap.size with h | h
    · exact h
    · rw [Array.getElem?_eq_none h] at hh; cases hh

theorem Own.at_ {w : World} {B g n c : Nat} {l : List UInt8} (h : Own w B (.slice (some ⟨g, 0, none⟩) n c) l) {j : Nat} (hj : j < l.length) : w.cell? ⟨g, j, none⟩ = some (.int .u8 (l[j].toNat : Int)) ∧ w.frozen? ⟨g, j, none⟩ = false := by
  obtain ⟨_, e, _, _, rfl⟩ := h.opened (by
    rcases h.2 with ⟨e, _⟩ | ⟨g, cap, cur, e, _⟩
    · simp at e
    · simp only [Value.slice.injEq] at e; omega)
  refine ⟨?_, World.ownsRow.frozenAt h j⟩
  rw [World.ownsRow.cellAt h j (by omega)]
  simp [hj, b8]

theorem Own.inc {w : World} {B g n c : Nat} {l : List UInt8} (h : Own w B (.slice (some ⟨g, 0, none⟩) n c) l) {j : Nat} (x : UInt8) :
    Own (w.setCell ⟨g, j, none⟩ (b8 x)) B (.slice (some ⟨g, 0, none⟩) n c) (l.set j x) ∧ w.grownBy (w.setCell ⟨g, j, none⟩ (b8 x)) (some g) := by
  have hn : n = l.length := by
    rcases h.2 with ⟨e, _⟩ | ⟨g, cap, cur, e, _⟩
    · simp at e
    · simp only [Value.slice.injEq] at e; omega
  subst hn
  have := World.ownsRow.stored h j (b8 x)
  refine ⟨?_, this.2⟩
  show World.ownsRow _ B 5 1 _ (l.set j x).length ((l.set j x).map b8)
  rw [List.length_set, List.map_set]
  exact this.1

theorem inc8 (x : UInt8) : b8 (x + 1) = .int .u8 (((x.toNat : Int) + 1) % 256) := by
  have e : (x + 1).toNat = (x.toNat + 1) % 256 := by simp [UInt8.toNat_add]
  unfold b8
  rw [e]
  congr 1

theorem ppL_len (l : List UInt8) (n : Int) (h : l.length ≤ 65536) : (ppL l n).length ≤ 65600 := by
  unfold ppL; split
  · simp [plB]; omega
  · simp

set_option maxRecDepth 100000 in
set_option maxHeartbeats 2000000 in
theorem octetPuts_any (A : Option Addr) (c : Nat) (l : List UInt8) (n : Int) (s : List UInt8) (w : World) (hc : A = none → c = 0) (h : Lies w w.heap.size A l) :
    Calls Try.prog 5 #[.slice A l.length c, .int .i64 n, .string (str s)] w (Yes w) := by
  have hsz := str_sizeI s
  by_cases hbig : 65536 < l.length
  · go_enter Try.func5, Try.ntmps5
    go_wp2_with fail
    refine (works_any _).mono ?_
    rintro e w' ⟨rfl, hb⟩
    go_wp2
    go_ret
    exact ⟨rfl, hb⟩
  by_cases hbig2 : 65536 < s.length
  · go_enter Try.func5, Try.ntmps5
    go_wp2_with fail
    refine (works_any _).mono ?_
    rintro e w' ⟨rfl, hb⟩
    go_wp2
    go_ret
    exact ⟨rfl, hb⟩
  · have HC := Lib.hid hc
    clear hc
    go_enter Try.func5, Try.ntmps5
    go_wp2_with fail
    refine (mine_any A c l _ h (by omega)).mono ?_
    rintro e w1 ⟨rfl, hr1, hb1⟩
    have hi1 := hr1.lies (hr1.lt)
    have hl1 := (h.below hb1).more hb1.size
    have g01 := hr1.lt
    go_wp2_with fail
    refine (putPlace_any _ _ l n _ (by simp) hi1 (by omega)).mono ?_
    rintro e w2 ⟨p, rfl, hp2, hb2⟩
    have hi2 := (hi1.below hb2).more hb2.size
    have hl2 := (hl1.below hb2).more hb2.size
    have hr2 := hr1.below hb2 hr1.lt
    have g12 := hb2.size
    have plt := Lib.hid hp2.lt
    have hB2 := hb1.trans (hb2.mono hb1.size)
    clear hi1 hl1 hb2
    go_wp2_with fail
    refine (refPutPlace_any _ _ l n _ HC.out hl2 (by omega)).mono ?_
    rintro e w3 ⟨q, rfl, hq3, hb3⟩
    have hi3 := (hi2.below hb3).more hb3.size
    have hl3 := (hl2.below hb3).more hb3.size
    have hr3 := hr2.below hb3 hr2.lt
    have hp3 := hp2.below hb3
    have g23 := hb3.size
    have hB3 := hB2.trans (hb3.mono hB2.size)
    clear hi2 hl2 hr2 hb3 hp2 hB2
    have hLb := ppL_len l n (by omega)
    generalize ppL l n = L at *
    generalize ppE n = E at *
    go_wp2_with fail
    refine (putText_any _ _ l s _ (by simp) hi3 (by omega) (by omega)).mono ?_
    rintro e w4 ⟨t, rfl, ht4, hb4⟩
    have hl4 := (hl3.below hb4).more hb4.size
    have hr4 := hr3.below hb4 hr3.lt
    have hp4 := hp3.below hb4
    have hq4 := hq3.below hb4
    have g34 := hb4.size
    have hB4 := hB3.trans (hb4.mono hB3.size)
    clear hi3 hl3 hr3 hb4 hp3 hq3 hB3
    go_wp2_with fail
    refine (refPutText_any _ _ l s _ HC.out hl4 (by omega) (by omega)).mono ?_
    rintro e w5 ⟨u, rfl, hu5, hb5⟩
    have hl5 := (hl4.below hb5).more hb5.size
    have hr5 := hr4.below hb5 hr4.lt
    have hp5 := hp4.below hb5
    have hq5 := hq4.below hb5
    have ht5 := ht4.below hb5
    have g45 := hb5.size
    have hB5 := hB4.trans (hb5.mono hB4.size)
    have hlw := h.below hB5
    clear hl4 hr4 hb5 hp4 hq4 ht4 hB4 h
    generalize ptL l s = T at *
    generalize ptE s = F at *
    have sp := hp5.str_
    have sq := hq5.str_
    have st := ht5.str_
    have su := hu5.str_
    go_wp2_with fail
    refine (still_any _ _ _ _ l _ hr5 hl5 (by omega)).mono ?_
    rintro e w' ⟨rfl, rfl⟩
    obtain ⟨Ap, cp, rfl, hlp, hcp, hLp⟩ := hp5.form
    have tlt := Lib.hid ht5.lt
    have ult := Lib.hid hu5.lt
    go_wp2
    clear sp sq st su hcp hLp hl5
    go_loopw [16] (fun i wr => ∃ k : Nat, k ≤ L.length ∧ i = .int .i64 k ∧ ∃ L' : List UInt8, Hid (L'.length = L.length) ∧ Hid (Own wr w1.heap.size (.slice Ap L.length cp) L') ∧ Hid (w5.grownBy wr (Value.slice Ap L.length cp).ownBlock)) (fun i _ => L.length - (intOf i).toNat)
    case atStart => exact ⟨0, by omega, rfl, L, rfl, hp5, World.grownBy.refl _ _⟩
    case round =>
      obtain ⟨k, hk, rfl, L', hlen, ho, hg⟩ := hrel
      by_cases hlt : k < L.length
      · obtain ⟨g, rfl, hgB, hgl, _⟩ := ho.out.opened (by omega)
        have hkl : k < L'.length := by have := hlen.out; omega
        obtain ⟨d1, d2⟩ := ho.out.at_ hkl
        have hinc := ho.out.inc (j := k) (L'[k] + 1)
        rw [inc8] at hinc
        have h1 := Lib.hid hinc.1
        have h2 := Lib.hid (hg.out.trans hinc.2)
        have h3 : Hid ((L'.set k (L'[k] + 1)).length = L.length) := by have := hlen.out; show _ = _; simpa using this
        have hb := L'[k].toNat_lt
        clear hinc
        go_wp2
        go_roundw
        case rel => exact ⟨k + 1, by omega, by go_num, _, h3, h1, h2⟩
        case measure => simp [intOf]; omega
      · have hrow : ∀ g, (Value.slice Ap L.length cp).ownBlock = some g → w1.heap.size ≤ g ∧ g < w2.heap.size := plt.out
        have ht6 := ht5.kept hg.out (by
          cases ht : t.ownBlock with
          | none => exact .inl rfl
          | some k => exact .inr (fun e => by have := hrow k e.symm; have := tlt.out k ht; omega))
        have hu6 := hu5.kept hg.out (by
          cases ht : u.ownBlock with
          | none => exact .inl rfl
          | some k => exact .inr (fun e => by have := hrow k e.symm; have := ult.out k ht; omega))
        have hB6 := hB5.grown hg.out hB5.size (fun k e => by have := hrow k e; omega)
        have hl6 := hlw.grown hg.out hB5.size (fun k e => by have := hrow k e; omega)
        have hr6 : Roomy wr w.heap.size l := (hg.out.block _ (by have := hB5.size; omega) (fun e => by have := hrow _ e.symm; omega)).trans hr5
        have st := ht6.str_
        have su := hu6.str_
        clear ht5 hu5 hr5 hlw hg ho hq5 hrow hb1 hr1 hB5
        go_wp2_with fail
        refine (still_any _ _ _ _ l _ hr6 hl6 (by omega)).mono ?_
        rintro e w' ⟨rfl, rfl⟩
        go_wp2_with fail
        refine (works_any _).mono ?_
        rintro e w7 ⟨rfl, hb7⟩
        go_wp2
        go_ret
        exact ⟨rfl, hB6.trans (hb7.mono hB6.size)⟩

end Go.Proofs.Ytjgjikeanmdhkaa
