/-
  Contracts of behind and of the puts.
-/
import Derived.Test.YtjgjikeanmdhkaaL
import Derived.Test.YtjgjikeanmdhkaaA
namespace Go.Proofs.Ytjgjikeanmdhkaa
open Go.RowKit

def Made (w : World) (l : List UInt8) (e : Ending) (w' : World) : Prop := ∃ v, e = .returned v ∧ Own w' w.heap.size v l ∧ Below w.heap.size w w'

theorem own_made {w : World} {B g n : Nat} (h : w.ownsRow B 5 1 (.slice (some ⟨g, 0, none⟩) 0 n) 0 []) : Own w B (.slice (some ⟨g, 0, none⟩) 0 n) [] := h

theorem below_grown {B : Nat} {w w1 w2 : World} {v : Value} {l : List UInt8} (hb : Below B w w1) (hg : w1.grownBy w2 v.ownBlock) (ho : Own w1 B v l) (hB : B ≤ w1.heap.size) : Below B w w2 :=
  hb.grown hg hB fun k hk => (ho.lt k hk).1

set_option maxHeartbeats 400000 in
theorem behind_any (A A2 : Option Addr) (c c2 : Nat) (l l2 : List UInt8) (w : World) (hc : A = none → c = 0) (hc2 : A2 = none → c2 = 0) (h : Lies w w.heap.size A l) (h2 : Lies w w.heap.size A2 l2)
    (hn : l.length ≤ 70000) (hn2 : l2.length ≤ 300) :
    Calls Try.prog 29 #[.slice A l.length c, .slice A2 l2.length c2] w (Made w (l ++ l2)) := by
  obtain ⟨i0, hi0, hz0, hz1, hz2⟩ := info_parts u8_info
  have HI := Lib.hid (And.intro hi0 (And.intro hz0 (And.intro hz1 hz2)))
  have HC := Lib.hid (And.intro hc hc2)
  clear hi0 hz0 hz1 hz2 hc hc2
  go_enter Try.func29, Try.ntmps29
  go_wp2_with (first
    | (at_make
       refine wpList_make_own _ rfl (.const (.int .i64 0)) (.tmp 10) 28 rfl w.heap.size 5 i0 _ 1 Try.underlying28 HI.out.1 HI.out.2.1 HI.out.2.2.1 .i64 .i64 _ (l.length + l2.length) rfl rfl (by omega) (by rw [HI.out.2.2.2]; omega) (by simp only [maxLen]; omega) (Nat.le_refl _) ?_
       intro w1 hown1 hg1
       have ho1 := own_made hown1
       clear hown1
       have hb1 : Below w.heap.size w w1 := (Below.refl _ _).grown hg1 (Nat.le_refl _) (by simp)
       clear hg1)
    | (at_builtin
       refine app_slice _ rfl (.tmp 12) (.tmp 13) rfl w.heap.size _ [] rfl ho1 A c w.heap.size l rfl HC.out.1 (h.below hb1) (by simp; omega) hb1.size ?_
       intro v2 w2 ho2 hg2
       have hb2 := below_grown hb1 hg2 ho1 hb1.size
       clear hg2)
    | (at_builtin
       refine app_slice _ rfl (.tmp 15) (.tmp 16) rfl w.heap.size v2 ([] ++ l) rfl ho2 A2 c2 w.heap.size l2 rfl HC.out.2 (h2.below hb2) (by simp; omega) hb2.size ?_
       intro v3 w3 ho3 hg3
       have hb3 := below_grown hb2 hg3 ho2 hb2.size
       clear hg3))
  go_ret
  exact ⟨v3, rfl, by simpa using ho3, hb3⟩

end Go.Proofs.Ytjgjikeanmdhkaa
