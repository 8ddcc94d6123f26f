/-
  Contracts of behind and of the puts.
-/
import Derived.Test.YtdapflfbkjoicaaKO
import Derived.Test.YtdapflfbkjoicaaO1A
namespace Go.Proofs.Ytdapflfbkjoicaa
open Go.RowKit

set_option maxHeartbeats 400000 in
theorem behind_any (A A2 : Option Addr) (c c2 : Nat) (l l2 : List UInt8) (w : World) (hc : A = none → c = 0) (hc2 : A2 = none → c2 = 0) (h : Lies w w.heap.size A l) (h2 : Lies w w.heap.size A2 l2)
    (hn : l.length ≤ 1099511627776) (hn2 : l2.length ≤ 300) :
    Calls Try.prog 103 #[.slice A l.length c, .slice A2 l2.length c2] w (MadeC w (l ++ l2) (l.length + l2.length)) := by
  have HC := Lib.hid (And.intro hc hc2)
  clear hc hc2
  go_enter Try.func103, Try.ntmps103
  go_wp2_with (first
    | (at_make
       refine make_bytes _ rfl (.const (.int .i64 0)) (.tmp 10) rfl 0 (l.length + l2.length) _ _ rfl rfl rfl (by omega) (by omega) (by omega) ?_
       intro w1 hk1 hb1 hs1
       have ho1 := own_room hk1 (Nat.le_refl _) (by omega)
       clear hk1)
    | (at_builtin
       refine app_cap _ rfl (.tmp 12) (.tmp 13) rfl w.heap.size _ [] rfl ho1 A c w.heap.size l rfl HC.out.1 (h.below hb1) (by simp; omega) (by omega) ?_
       intro v2 w2 ho2 hg2 hcp2
       have hcap : Hid (capOf v2 = l.length + l2.length) := hcp2 (by show 0 + l.length ≤ l.length + l2.length; omega)
       clear hcp2
       have hb2 := below_grown hb1 hg2 ho1 (by omega)
       clear hg2 ho1 hb1)
    | (at_builtin
       refine app_cap _ rfl (.tmp 15) (.tmp 16) rfl w.heap.size v2 ([] ++ l) rfl ho2 A2 c2 w.heap.size l2 rfl HC.out.2 (h2.below hb2) (by simp; omega) hb2.size ?_
       intro v3 w3 ho3 hg3 hcp3
       have hcap3 : Hid (capOf v3 = l.length + l2.length) := (hcp3 (Nat.le_trans (m := l.length + l2.length) (by simp) (Nat.le_of_eq hcap.out.symm))).trans hcap.out
       clear hcp3
       have hb3 := below_grown hb2 hg3 ho2 hb2.size
       clear hg3))
  go_ret
  exact ⟨v3, rfl, by simpa using ho3, hb3, hcap3⟩

end Go.Proofs.Ytdapflfbkjoicaa
