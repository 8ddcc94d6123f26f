/-
  The walks of mine and still.
-/
import Derived.Test.YtjgjikeanmdhkaaT
import Derived.Test.YtjgjikeanmdhkaaA
namespace Go.Proofs.Ytjgjikeanmdhkaa
open Go.RowKit

def MineR (w : World) (l : List UInt8) (e : Ending) (w' : World) : Prop :=
  e = .returned (.slice (some ⟨w.heap.size, 0, none⟩) l.length (l.length + 40)) ∧ Roomy w' w.heap.size l ∧ Below w.heap.size w w'

set_option maxHeartbeats 400000 in
theorem mine_any (A : Option Addr) (c : Nat) (l : List UInt8) (w : World) (h : Lies w w.heap.size A l) (hn : l.length ≤ 70000) :
    Calls Try.prog 12 #[.slice A l.length c] w (MineR w l) := by
  go_enter Try.func12, Try.ntmps12
  go_wp2_with (at_make
               refine make_room w rfl (.tmp 6) (.tmp 9) rfl l.length (l.length + 40) _ rfl rfl (by omega) (by omega) (by omega) ?_
               intro w1 hp1 hb1 hs1)
  have hP := Lib.hid (Part.start hp1)
  clear hp1
  go_loopw [4] (fun i wr => ∃ k : Nat, k ≤ l.length ∧ i = .int .i64 k ∧ Hid (Part wr w.heap.size k l) ∧ Below w.heap.size w wr) (fun i _ => l.length - (intOf i).toNat)
  case atStart => exact ⟨0, by omega, rfl, hP, hb1⟩
  case round =>
    obtain ⟨k, hk, rfl, hp, hb⟩ := hrel
    by_cases hlt : k < l.length
    · obtain ⟨g, o, rfl, hg, hc⟩ := (h.below hb).at_ hlt
      have d1 := hp.out.cell hlt
      have d2 := hp.out.frozen (j := k)
      have hst := Lib.hid (hp.out.step hlt)
      clear hP hp
      go_wp2
      go_roundw
      case rel => exact ⟨k + 1, by omega, by go_num, hst, hb.setCell (Nat.le_refl _) _⟩
      case measure => simp [intOf]; omega
    · obtain rfl : k = l.length := by omega
      have hr := Lib.hid hp.out.last
      clear hP hp
      go_wp2
      go_ret
      exact ⟨rfl, hr, hb⟩

theorem Roomy.cell {w : World} {g j : Nat} {l : List UInt8} (h : Roomy w g l) (hj : j < l.length) : w.cell? ⟨g, j, none⟩ = some (.int .u8 (l[j].toNat : Int)) := by
  unfold Roomy at h
  simp only [World.cell?, h]
  simp only [Option.isSome_none, Bool.false_eq_true, if_false, List.getElem?_toArray]
  rw [List.getElem?_append_left (by simpa using hj)]
  simp [hj, b8]
theorem Roomy.zero {w : World} {g j : Nat} {l : List UInt8} (h : Roomy w g l) (h0 : l.length ≤ j) (hj : j < l.length + 40) : w.cell? ⟨g, j, none⟩ = some (.int .u8 0) := by
  unfold Roomy at h
  simp only [World.cell?, h]
  have e : (l.map b8).length = l.length := by simp
  simp only [Option.isSome_none, Bool.false_eq_true, if_false, List.getElem?_toArray]
  rw [List.getElem?_append_right (by omega), e, List.getElem?_replicate, if_pos (by omega)]
  rfl

set_option maxHeartbeats 400000 in
theorem still_any (g : Nat) (A : Option Addr) (c B : Nat) (l : List UInt8) (w : World) (hr : Roomy w g l) (h : Lies w B A l) (hn : l.length ≤ 70000) :
    Calls Try.prog 19 #[.slice (some ⟨g, 0, none⟩) l.length (l.length + 40), .slice A l.length c] w fun e w' => e = .returned (.bool true) ∧ w = w' := by
  have HR := Lib.hid hr
  clear hr
  go_enter Try.func19, Try.ntmps19
  go_wp2
  go_loop [6] (fun i => ∃ k : Nat, k ≤ l.length + 40 ∧ i = .int .i64 k) (fun i => l.length + 40 - (intOf i).toNat)
  case atStart => exact ⟨0, by omega, rfl⟩
  case round =>
    obtain ⟨k, hk, rfl⟩ := hrel
    by_cases hlt : k < l.length
    · obtain ⟨g', o, rfl, hg, hc⟩ := h.at_ hlt
      have d1 := HR.out.cell hlt
      have hk2 : k < l.length + 40 := by omega
      have hk3 : (k : Int) < (l.length : Int) + 40 := by omega
      go_wp2
      go_round
      case rel => exact ⟨k + 1, by omega, by go_num⟩
      case measure => simp [intOf]; omega
    · by_cases hlt2 : k < l.length + 40
      · have d1 := HR.out.zero (by omega) hlt2
        have hk3 : (k : Int) < (l.length : Int) + 40 := by omega
        go_wp2
        go_round
        case rel => exact ⟨k + 1, by omega, by go_num⟩
        case measure => simp [intOf]; omega
      · have hk3 : ¬ (k : Int) < (l.length : Int) + 40 := by omega
        go_wp2
        go_ret
        exact ⟨rfl, rfl⟩

end Go.Proofs.Ytjgjikeanmdhkaa
