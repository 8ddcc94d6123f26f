/-
  Contracts of PutText, both.
-/
import Derived.Test.YtjgjikeanmdhkaaQ
namespace Go.Proofs.Ytjgjikeanmdhkaa
open Go.RowKit

def ptB (s : List UInt8) : List UInt8 := UInt8.ofNat s.length :: s
def ptE (s : List UInt8) : Int := if s.length ≤ 255 then 0 else 1
def ptL (l s : List UInt8) : List UInt8 := if s.length ≤ 255 then l ++ ptB s else []
theorem pt_bad {l s : List UInt8} (h : ¬ s.length ≤ 255) : ptE s = 1 ∧ ptL l s = [] := by simp [ptE, ptL, h]
theorem pt_good {l s : List UInt8} (h : s.length ≤ 255) : ptE s = 0 ∧ ptL l s = l ++ ptB s := by simp [ptE, ptL, h]

theorem str_sizeI (l : List UInt8) : (str l).size = l.length := by simp [str, ByteArray.size]

theorem len_lies (w : World) (s : List UInt8) (hs : s.length ≤ 255) : Lies (w.alloc (.cells #[.int .u8 (s.length : Int)] 5)) (w.alloc (.cells #[.int .u8 (s.length : Int)] 5)).heap.size (some ⟨w.heap.size, 0, none⟩) [UInt8.ofNat s.length] :=
  lies_lit w 5 _ _ (by
    have h0 : (UInt8.ofNat s.length).toNat = s.length := by simp; omega
    simp only [List.map_cons, List.map_nil, b8, h0])

set_option maxHeartbeats 400000 in
theorem putText_any (A : Option Addr) (c : Nat) (l s : List UInt8) (w : World) (hc : A = none → c = 0) (h : Lies w w.heap.size A l) (hn : l.length ≤ 70000) (hm : s.length ≤ 70000) :
    Calls Try.prog 22 #[.slice A l.length c, .string (str s)] w (PutR w (ptL l s) (ptE s)) := by
  have hsz := str_sizeI s
  by_cases hi : s.length ≤ 255
  · rw [(pt_good (l := l) hi).1, (pt_good (l := l) hi).2]
    obtain ⟨i0, hi0, hz0, hz1, hz2⟩ := info_parts u8_info
    have HI := Lib.hid (And.intro hi0 (And.intro hz0 (And.intro hz1 hz2)))
    have HC := Lib.hid hc
    clear hi0 hz0 hz1 hz2 hc
    go_enter Try.func22, Try.ntmps22
    go_wp2_with (first
      | (at_make
         refine wpList_make_own _ rfl (.const (.int .i64 0)) (.tmp 12) 28 rfl w.heap.size 5 i0 _ 1 Try.underlying28 HI.out.1 HI.out.2.1 HI.out.2.2.1 .i64 .i64 _ (1 + s.length) rfl rfl (by omega) (by rw [HI.out.2.2.2]; omega) (by simp only [maxLen]; omega) (Nat.le_refl _) ?_
         intro w1 hown1 hg1
         have ho1 := own_made hown1
         clear hown1
         have hb1 : Below w.heap.size w w1 := (Below.refl _ _).grown hg1 (Nat.le_refl _) (by simp)
         clear hg1)
      | (at_builtin
         refine app_slice _ rfl (.tmp 14) (.tmp 18) rfl w.heap.size _ [] rfl (ho1.alloc _) (some ⟨w1.heap.size, 0, none⟩) 1 _ [UInt8.ofNat s.length] rfl (by simp) (len_lies w1 s hi) (by simp) (Nat.le_trans hb1.size (by simp)) ?_
         intro v2 w2 ho2 hg2
         have hb2 := below_grown (hb1.alloc hb1.size _) hg2 (ho1.alloc _) (Nat.le_trans hb1.size (by simp))
         clear hg2)
      | (at_builtin
         refine app_string _ rfl (.tmp 20) (.tmp 21) rfl w.heap.size v2 _ rfl ho2 s rfl (by simp; omega) hb2.size ?_
         intro v3 w3 ho3 hg3
         have hb3 := below_grown hb2 hg3 ho2 hb2.size
         clear hg3
         obtain ⟨A3, c3, rfl, hl3, hc3, hL3⟩ := ho3.form)
      | (go_at_call 29
         refine (behind_any A A3 c c3 l ([] ++ [UInt8.ofNat s.length] ++ s) w3 HC.out hc3 ((h.below hb3).more hb3.size) hL3 (by omega) (by simp; omega)).mono ?_
         rintro e w' ⟨v, rfl, ho, hb⟩))
    go_outline
    go_ret2
    exact ⟨v, rfl, ho.base hb3.size, hb3.trans (hb.mono hb3.size)⟩
  · rw [(pt_bad (l := l) hi).1, (pt_bad (l := l) hi).2]
    go_enter Try.func22, Try.ntmps22
    go_wp2
    go_ret2
    exact ⟨_, rfl, Own.nil _ _, Below.refl _ _⟩

set_option maxHeartbeats 400000 in
theorem refPutText_any (A : Option Addr) (c : Nat) (l s : List UInt8) (w : World) (hc : A = none → c = 0) (h : Lies w w.heap.size A l) (hn : l.length ≤ 70000) (hm : s.length ≤ 70000) :
    Calls Try.prog 23 #[.slice A l.length c, .string (str s)] w (PutR w (ptL l s) (ptE s)) := by
  have hsz := str_sizeI s
  by_cases hi : s.length ≤ 255
  · rw [(pt_good (l := l) hi).1, (pt_good (l := l) hi).2]
    have HC := Lib.hid hc
    have ho0 := own_lit w 0 [] #[] rfl (by simp) rfl
    have hb0 : Below w.heap.size w (w.alloc (.cells #[] 5)) := (Below.refl _ _).alloc (Nat.le_refl _) _
    clear hc
    go_enter Try.func23, Try.ntmps23
    go_wp2_with (first
      | (at_builtin
         refine app_slice _ rfl (.tmp 9) (.tmp 10) rfl w.heap.size _ [] rfl ho0 A c w.heap.size l rfl HC.out (h.below hb0) (by simp; omega) hb0.size ?_
         intro v1 w1 ho1 hg1
         have hb1 := below_grown hb0 hg1 ho0 hb0.size
         clear hg1)
      | (at_builtin
         refine app_slice _ rfl (.tmp 11) (.tmp 15) rfl w.heap.size v1 ([] ++ l) rfl (ho1.alloc _) (some ⟨w1.heap.size, 0, none⟩) 1 _ [UInt8.ofNat s.length] rfl (by simp) (len_lies w1 s hi) (by simp; omega) (Nat.le_trans hb1.size (by simp)) ?_
         intro v2 w2 ho2 hg2
         have hb2 := below_grown (hb1.alloc hb1.size _) hg2 (ho1.alloc _) (Nat.le_trans hb1.size (by simp))
         clear hg2)
      | (at_builtin
         refine app_string _ rfl (.tmp 16) (.tmp 17) rfl w.heap.size v2 _ rfl ho2 s rfl (by simp; omega) hb2.size ?_
         intro v3 w3 ho3 hg3
         have hb3 := below_grown hb2 hg3 ho2 hb2.size
         clear hg3))
    go_ret2
    exact ⟨v3, rfl, by simpa [ptB] using ho3, hb3⟩
  · rw [(pt_bad (l := l) hi).1, (pt_bad (l := l) hi).2]
    go_enter Try.func23, Try.ntmps23
    go_wp2
    go_ret2
    exact ⟨_, rfl, Own.nil _ _, Below.refl _ _⟩

end Go.Proofs.Ytjgjikeanmdhkaa
