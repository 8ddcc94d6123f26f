/-
  The walk of TokenCuts.
-/
import Derived.Test.YtmajhmionghccaaDoorTKS
import Derived.Test.YtmajhmionghccaaDoorTKW
import Derived.Deep.DeepMust
namespace Go.Proofs.YtmajhmionghccaaDoor
open Go Go.RowKit

theorem scan_err {A : Option Addr} {c : Nat} {l : List UInt8} {w : World} {k : Nat} (hl : Lies w w.heap.size A l) (hL : Laid w) (hn : l.length ≤ 16384) (hs : scanP l = .error k) :
    Calls Tryd.prog 9 #[.slice A l.length c] w fun e w' => e = .returned (.tuple #[.slice none 0 0, .int .i64 k, .int .i64 6]) ∧ Below w.heap.size w w' := by
  refine (scan_any A c l w hl hL (by omega)).mono ?_
  rintro e w' ⟨hb, ⟨h, _⟩ | ⟨_, ⟨k', h, rfl⟩ | ⟨ts, v, h, _⟩⟩⟩
  · omega
  · rw [hs] at h
    injection h with h
    subst h
    exact ⟨rfl, hb⟩
  · rw [hs] at h
    cases h
theorem scan_ok {A : Option Addr} {c : Nat} {l : List UInt8} {w : World} {ts : List Tk} (hl : Lies w w.heap.size A l) (hL : Laid w) (hn : l.length ≤ 16384) (hs : scanP l = .ok ts) :
    Calls Tryd.prog 9 #[.slice A l.length c] w fun e w' => Below w.heap.size w w' ∧ ∃ A2 c2, e = .returned (.tuple #[.slice A2 ts.length c2, .int .i64 0, .int .i64 0]) ∧ ts.length ≤ c2 ∧ (A2 = none → c2 = 0) ∧ eT.LiesT w' A2 ts := by
  refine (scan_any A c l w hl hL (by omega)).mono ?_
  rintro e w' ⟨hb, ⟨h, _⟩ | ⟨_, ⟨k', h, _⟩ | ⟨ts', v, h, rfl, ho⟩⟩⟩
  · omega
  · rw [hs] at h
    cases h
  · rw [hs] at h
    injection h with h
    subst h
    obtain ⟨A2, c2, rfl, h1, h2, h3⟩ := ho.form
    exact ⟨hb, A2, c2, rfl, h1, h2, h3⟩
theorem scan_gen {A : Option Addr} {c : Nat} {l : List UInt8} {w : World} (hl : Lies w w.heap.size A l) (hL : Laid w) (hn : l.length ≤ 16384) :
    Calls Tryd.prog 9 #[.slice A l.length c] w fun e w' => Below w.heap.size w w' ∧ ∃ (A2 : Option Addr) (n c2 : Nat) (k f : Int), e = .returned (.tuple #[.slice A2 n c2, .int .i64 k, .int .i64 f]) := by
  refine (scan_any A c l w hl hL (by omega)).mono ?_
  rintro e w' ⟨hb, ⟨h, _⟩ | ⟨_, ⟨k', h, rfl⟩ | ⟨ts', v, h, rfl, ho⟩⟩⟩
  · omega
  · exact ⟨hb, _, _, _, _, _, rfl⟩
  · obtain ⟨A2, c2, rfl, h1, h2, h3⟩ := ho.form
    exact ⟨hb, _, _, _, _, _, rfl⟩
set_option maxRecDepth 100000 in
set_option maxHeartbeats 8000000 in
theorem cuts_err (A B : Option Addr) (c d : Nat) (a b : List UInt8) (w : World) (hA : Lies w w.heap.size A a) (hB : Lies w w.heap.size B b) (hAc : A = none → c = 0) (hBc : B = none → d = 0) (hL : Laid w) (hn : a.length + b.length ≤ 16383) (k : Nat) (hs : scanP a = .error k) :
    Calls Tryd.prog 6 #[.slice A a.length c, .slice B b.length d] w (TrueR11 w) := by
  have hni : (a.length : Int) + (b.length : Int) ≤ 16383 := by omega
  have hj : scanP ((a ++ [10]) ++ b) = .error k := by
    rw [List.append_assoc]
    show scanP (a ++ 10 :: b) = _
    rw [scanP_join, hs]
    rfl
  have H1 := Lib.hid (scan_err (c := c) hA hL (by omega) hs)
  have HL := Lib.hid hL
  have HA := Lib.hid hA
  have HB := Lib.hid hB
  have HJ := Lib.hid hj
  clear hj hs hL hA hB
  go_enter Tryd.func6, Tryd.ntmps6
  go_wp2_with fail
  refine H1.out.mono ?_
  rintro e w1 ⟨rfl, hb1⟩
  have HB1 := Lib.hid hb1
  have H2 := Lib.hid (scan_gen (c := d) ((HB.out.below hb1).more hb1.size) (HL.out.below hb1) (by omega))
  clear H1 hb1
  go_wp2_with fail
  refine H2.out.mono ?_
  rintro e w2 ⟨hb2, A2, n2, c2, k2, f2, rfl⟩
  have hB2 := HB1.out.trans (hb2.mono HB1.out.size)
  have HB2 := Lib.hid hB2
  have H3 := Lib.hid (copyBytes_any A c a w2 (by omega) ((HA.out.below hB2).more hB2.size))
  clear H2 hb2 hB2 HB1
  go_wp2_with fail
  refine H3.out.mono ?_
  rintro e w3 ⟨v3, rfl, ho3, hb3⟩
  have hb4 : Below w3.heap.size w3 (w3.alloc (.cells #[.int .u8 10] 5)) := (Below.refl _ _).alloc (Nat.le_refl _) _
  have HO3 := Lib.hid (ho3.below hb4)
  have hB3 := HB2.out.trans (hb3.mono HB2.out.size)
  have HB3 := Lib.hid (hB3.trans (hb4.mono hB3.size))
  have hz3 := hb3.size
  have HL10 := Lib.hid (lies_lit w3 5 [10] #[.int .u8 10] rfl)
  obtain ⟨A3, n3, c3, rfl, hn3, hc3, _, _⟩ := ho3.formN
  clear H3 ho3 hb3 hb4 hB3
  have hz2 := HB2.out.size
  go_wp2_with (first
    | (at_builtin
       refine app_slice _ rfl (.tmp 38) (.tmp 39) rfl w2.heap.size _ a rfl HO3.out (some ⟨w3.heap.size, 0, none⟩) 1 _ [10] rfl (fun e => by cases e) HL10.out (by simp; omega) (by simp; omega) ?_
       intro v4 w4 ho4 hg4
       have HO4 := Lib.hid ho4
       have HB4 := Lib.hid (below_grown (v := .slice A3 n3 c3) HB3.out hg4 (HO3.out.base (by omega)) HB3.out.size)
       have hz4 : w2.heap.size ≤ w4.heap.size := Nat.le_trans (by simp; omega) hg4.size
       clear ho4 hg4)
    | (at_builtin
       refine app_slice _ rfl (.tmp 40) (.tmp 41) rfl w2.heap.size _ (a ++ [10]) rfl HO4.out B d _ b rfl hBc (HB.out.below HB4.out) (by simp; omega) hz4 ?_
       intro v5 w5 ho5 hg5
       have HO5 := Lib.hid ho5
       have HB5 := Lib.hid (below_grown HB4.out hg5 (HO4.out.base (by omega)) HB4.out.size)
       obtain ⟨A5, n5, c5, rfl, hn5, hc5, hc5n, hl5⟩ := ho5.formN
       have HL5 := Lib.hid hl5
       clear ho5 hg5 hl5))
  have H6 := Lib.hid (scan_err (c := c5) HL5.out (HL.out.below HB5.out) (by simp; omega) HJ.out)
  rw [hn5.out] at H6
  refine H6.out.mono ?_
  rintro e w6 ⟨rfl, hb6⟩
  have HB6 := Lib.hid (HB5.out.trans (hb6.mono HB5.out.size))
  have HW := Lib.hid (works_any w6 (HL.out.below HB6.out))
  clear H6 hb6 HL5 HO5 HJ
  go_wp2_with fail
  refine HW.out.mono ?_
  rintro e w7 ⟨rfl, hb7⟩
  have HB7 := Lib.hid (HB6.out.trans (hb7.mono HB6.out.size))
  clear HW hb7
  go_wp2_with fail
  go_ret
  exact ⟨rfl, HB7.out⟩
end Go.Proofs.YtmajhmionghccaaDoor
