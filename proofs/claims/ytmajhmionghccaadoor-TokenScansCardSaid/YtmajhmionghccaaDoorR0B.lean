/-
  Contracts of the law's helpers Roomy and Kept: bytes taken down with eight more behind them; do they stand as they did.
-/
import Derived.Test.YtmajhmionghccaaDoorKP
import Derived.Test.YtmajhmionghccaaDoorR0A
namespace Go.Proofs.YtmajhmionghccaaDoor
open Go.RowKit

def t8 : List UInt8 := [8, 7, 6, 5, 4, 3, 2, 1]
/-- l, the first j of the eight, and noughts -/
def part8 (l : List UInt8) (j : Nat) : List UInt8 := l ++ t8.take j ++ List.replicate (8 - j) 0
theorem part8_zero (l : List UInt8) : l ++ List.replicate 8 0 = part8 l 0 := by simp [part8]
theorem part8_last (l : List UInt8) : part8 l 8 = l ++ t8 := by simp [part8, t8]
theorem part8_len (l : List UInt8) (j : Nat) (h : j ≤ 8) : (part8 l j).length = l.length + 8 := by simp [part8, t8]; omega
theorem part8_step (l : List UInt8) (j : Nat) (h : j < 8) : (part8 l j).take (l.length + j) ++ [UInt8.ofNat (8 - j)] ++ (part8 l j).drop (l.length + j + 1) = part8 l (j + 1) := by
  have e : (t8.take j).length = j := by simp [t8]; omega
  have h1 : (l ++ t8.take j).length = l.length + j := by simp [e]
  unfold part8
  rw [show 8 - j = (8 - (j + 1)) + 1 by omega, List.replicate_succ, ← h1, List.take_left, ← List.drop_drop, List.drop_left, List.drop_one, List.tail_cons]
  have h2 : t8.take (j + 1) = t8.take j ++ [UInt8.ofNat (8 - j)] := by
    have : j = 0 ∨ j = 1 ∨ j = 2 ∨ j = 3 ∨ j = 4 ∨ j = 5 ∨ j = 6 ∨ j = 7 := by omega
    rcases this with rfl | rfl | rfl | rfl | rfl | rfl | rfl | rfl <;> rfl
  rw [h2, List.append_assoc l (t8.take j) [_]]
  simp only [List.append_assoc, show 8 - (j + 1) + 1 = 8 - j by omega]

def RoomyR (w : World) (l : List UInt8) (e : Ending) (w' : World) : Prop :=
  e = .returned (.slice (some ⟨w.heap.size, 0, none⟩) l.length (l.length + 8)) ∧ Blk w' w.heap.size (l ++ t8) ∧ Below w.heap.size w w'

theorem eight_lies (w : World) (m : Nat) (h : m ≤ 8) : Lies (w.alloc (.cells #[.int .u8 (m : Int)] 5)) (w.alloc (.cells #[.int .u8 (m : Int)] 5)).heap.size (some ⟨w.heap.size, 0, none⟩) [UInt8.ofNat m] :=
  lies_lit w 5 _ _ (by
    have h0 : ((UInt8.ofNat m).toNat : Int) = (m : Int) := by simp; omega
    simp only [List.map_cons, List.map_nil, b8, h0])
theorem slice_eq {A : Option Addr} {n m c : Nat} (h : n = m) : Value.slice A n c = .slice A m c := by rw [h]
theorem u8_eq {a b : Int} (h : a = b) : Value.int .u8 a = .int .u8 b := by rw [h]

set_option maxRecDepth 100000 in
set_option maxHeartbeats 1000000 in
theorem roomy_any (A : Option Addr) (c : Nat) (l : List UInt8) (w : World) (hn : l.length ≤ 1099511627776) (h : Lies w w.heap.size A l) :
    Calls Tryd.prog 8 #[.slice A l.length c] w (RoomyR w l) := by
  go_enter Tryd.func8, Tryd.ntmps8
  go_wp2_with (first
    | (at_make
       refine make_bytes _ rfl (.tmp 6) (.tmp 9) rfl l.length (l.length + 8) _ _ rfl rfl rfl (by omega) (by omega) (by omega) ?_
       intro w1 hk1 hb1 hs1)
    | (with_reducible refine copy_blk _ rfl (.tmp 11) (.tmp 12) rfl w.heap.size 0 _ hk1 l.length (l.length + 8) rfl A c w.heap.size l rfl (h.below hb1) l.length (Nat.min_self _) (by simp) ?_
       intro w2 hk2 hg2))
  have hk3 : Blk w2 w.heap.size (part8 l (8 - 8)) := by
    have := hk2
    rw [← part8_zero]
    simpa using this
  have hb2 : Below w.heap.size w w2 := hb1.grown hg2 (by omega) (fun k e => by cases e; exact Nat.le_refl _)
  clear hk2 hg2
  go_loopw [3, 4] (fun v i wr => ∃ m : Nat, m ≤ 8 ∧ i = .int .u8 m ∧ v = .slice (some ⟨w.heap.size, 0, none⟩) (l.length + (8 - m)) (l.length + 8) ∧ Hid (Blk wr w.heap.size (part8 l (8 - m))) ∧ Hid (Below w.heap.size w wr)) (fun _ i _ => (intOf i).toNat)
  case atStart => exact ⟨8, by omega, rfl, slice_eq (by omega), hk3, hb2⟩
  case round =>
    obtain ⟨m, hm, rfl, rfl, hk, hb⟩ := hrel
    have hz := hb.out.size
    clear hk3 hb1 hb2 hs1
    by_cases hlt : 0 < m
    · have HS := Lib.hid (part8_step l (8 - m) (by omega))
      go_wp2_with (first
        | (at_builtin
           refine app_fit _ rfl (.tmp 18) (.tmp 20) rfl w.heap.size (l.length + (8 - m)) (l.length + 8) _ (hk.out.alloc _) rfl wr.heap.size 0 1 _ [UInt8.ofNat m] rfl (eight_lies wr m hm) (by simp; omega) (by rw [part8_len _ _ (by omega)]; omega) ?_
           intro w3 hk3 hg3
           have hb3 := (hb.out.alloc hz (.cells #[.int .u8 (m : Int)] 5)).grown hg3 (by simp; omega) (fun k e => by cases e; exact Nat.le_refl _)
           have hk4 : Blk w3 w.heap.size (part8 l (8 - (m - 1))) := by
             have h8 := HS.out
             rw [show 8 - (8 - m) = m by omega, show 8 - m + 1 = 8 - (m - 1) by omega] at h8
             rw [← h8]
             exact hk3
           clear hk3 hg3))
      go_roundw
      case rel => exact ⟨m - 1, by omega, u8_eq (by omega), slice_eq (by omega), hk4, hb3⟩
      case measure => simp [intOf]; omega
    · obtain rfl : m = 0 := by omega
      have hk4 := hk.out
      simp only [Nat.sub_zero, part8_last] at hk4
      clear hk
      go_wp2
      go_ret
      exact ⟨rfl, hk4, hb⟩

set_option maxRecDepth 100000 in
set_option maxHeartbeats 1000000 in
theorem kept_any (g : Nat) (A : Option Addr) (c B : Nat) (l : List UInt8) (w : World) (hn : l.length ≤ 1099511627776) (hk : Blk w g (l ++ t8)) (h : Lies w B A l) :
    Calls Tryd.prog 11 #[.slice (some ⟨g, 0, none⟩) l.length (l.length + 8), .slice A l.length c] w fun e w' => e = .returned (.bool true) ∧ w = w' := by
  have HK := Lib.hid hk
  clear hk
  go_enter Tryd.func11, Tryd.ntmps11
  go_wp2
  go_loop [27] (fun i => ∃ k : Nat, k ≤ l.length + 8 ∧ i = .int .i64 k) (fun i => l.length + 8 - (intOf i).toNat)
  case atStart => exact ⟨0, by omega, rfl⟩
  case round =>
    obtain ⟨k, hk, rfl⟩ := hrel
    by_cases hlt : k < l.length
    · have d1 := HK.out.cell (j := k) (by simp; omega)
      rw [List.getElem_append_left hlt] at d1
      obtain ⟨g', o, rfl, hg, hc⟩ := h.at_ hlt
      have b : ((l[k].toNat : Int) != (l[k].toNat : Int)) = false := by simp
      have hk3 : (k : Int) < (l.length : Int) + 8 := by omega
      have hk2 : k < l.length + 8 := by omega
      go_wp2
      go_round
      case rel => exact ⟨k + 1, by omega, by go_num⟩
      case measure => simp [intOf]; omega
    · by_cases hlt2 : k < l.length + 8
      · have d1 := HK.out.cell (j := k) (by simp [t8]; omega)
        rw [List.getElem_append_right (by omega)] at d1
        have hv : ((t8[k - l.length]'(by simp [t8]; omega)).toNat : Int) = 8 + (l.length : Int) - k := by
          obtain ⟨j, hj⟩ : ∃ j, k - l.length = j := ⟨_, rfl⟩
          simp only [hj]
          have : j = 0 ∨ j = 1 ∨ j = 2 ∨ j = 3 ∨ j = 4 ∨ j = 5 ∨ j = 6 ∨ j = 7 := by omega
          rw [show 8 + (l.length : Int) - k = 8 - (j : Int) by omega]
          rcases this with rfl | rfl | rfl | rfl | rfl | rfl | rfl | rfl <;> rfl
        rw [hv] at d1
        clear hv
        have b : ((8 + (l.length : Int) - (k : Int)) != (8 + (l.length : Int) - (k : Int))) = false := by simp
        have hk3 : (k : Int) < (l.length : Int) + 8 := by omega
        go_wp2
        go_round
        case rel => exact ⟨k + 1, by omega, by go_num⟩
        case measure => simp [intOf]; omega
      · have hk3 : ¬ (k : Int) < (l.length : Int) + 8 := by omega
        go_wp2
        go_ret
        exact ⟨rfl, rfl⟩

end Go.Proofs.YtmajhmionghccaaDoor
