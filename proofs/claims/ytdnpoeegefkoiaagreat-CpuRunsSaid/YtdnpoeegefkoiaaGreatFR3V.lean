/-
  Merged for a claim: R3V.
-/
import Derived.Test.YtdnpoeegefkoiaaGreatFR3G
namespace Go.Proofs.YtdnpoeegefkoiaaGreat
open Go.RowKit

theorem got_off {l : List UInt8} {x v : Int} (h : stV l.length x 1 = v) (hv : ¬ v = 0) : gI l x = insOf 0 ∧ gN l x = 0 ∧ gE l x = v := by
  have he : gE l x = v := by unfold gE; rw [h, if_neg hv]
  obtain ⟨h1, h2⟩ := get_not (l := l) (x := x) (by rw [he]; exact hv)
  exact ⟨h1, h2, he⟩

set_option maxRecDepth 100000 in
set_option maxHeartbeats 1000000 in
theorem refGet_any (A : Option Addr) (c : Nat) (l : List UInt8) (x : Int) (w : World) (hcap : l.length ≤ c) (hn : l.length ≤ 1099511627776) (h : Lies w w.heap.size A l) :
    Calls Tryz.prog 28 #[.slice A l.length c, .int .i64 x] w (GetR l x w) := by
  by_cases hin : 0 ≤ x ∧ x < l.length
  · obtain ⟨k, rfl⟩ : ∃ k : Nat, x = k := ⟨x.toNat, by omega⟩
    exact refGet_in A c l k w (by omega) hcap hn h
  · clear h
    have HS := Lib.hid (show ((w.alloc (.cells #[.int .u8 0, .int .u8 0, .int .i64 0, .int .i64 0, .int .i64 0, .int .i64 0, .int .i64 0] 53)).alloc (.cells #[.int .u8 0, .int .u8 0, .int .i64 0, .int .i64 0, .int .i64 0, .int .i64 0, .int .i64 0] 53)).heap[w.heap.size]? = some (.cells #[.int .u8 0, .int .u8 0, .int .i64 0, .int .i64 0, .int .i64 0, .int .i64 0, .int .i64 0] 53 (0, 0)) from heap_alloc2_old w _ _)
    by_cases h1 : x < 0
    · have HN := Lib.hid (got_off (l := l) (st_arg (s := 1) (.inl h1)) (by omega))
      go_enter Tryz.func28, Tryz.ntmps28
      go_wp2_with fail
      refine bodyPost_ret (ins_back3 rfl rfl HS.out) rfl ?_
      unfold GetR
      rw [HN.out.1, HN.out.2.1, HN.out.2.2]
      exact ⟨rfl, below_box2 w _ _⟩
    · by_cases h2 : (l.length : Int) < x
      · have HN := Lib.hid (got_off (l := l) (st_arg (s := 1) (.inr h2)) (by omega))
        clear hin
        go_enter Tryz.func28, Tryz.ntmps28
        go_wp2_with fail
        refine bodyPost_ret (ins_back3 rfl rfl HS.out) rfl ?_
        unfold GetR
        rw [HN.out.1, HN.out.2.1, HN.out.2.2]
        exact ⟨rfl, below_box2 w _ _⟩
      · obtain rfl : x = (l.length : Int) := by omega
        have HN := Lib.hid (got_off (l := l) (x := (l.length : Int)) (v := 5) (by unfold stV; rw [if_neg (by omega), if_pos (by omega)]) (by omega))
        have b1 : ((l.length : Int) == (l.length : Int)) = true := by simp
        clear hin h1 h2
        go_enter Tryz.func28, Tryz.ntmps28
        go_wp2_with fail
        refine bodyPost_ret (ins_back3 rfl rfl HS.out) rfl ?_
        unfold GetR
        rw [HN.out.1, HN.out.2.1, HN.out.2.2]
        exact ⟨rfl, below_box2 w _ _⟩

end Go.Proofs.YtdnpoeegefkoiaaGreat
