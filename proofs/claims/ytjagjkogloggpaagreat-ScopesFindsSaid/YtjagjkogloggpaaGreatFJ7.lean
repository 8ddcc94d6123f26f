/-
  Merged for a claim: R0A, L2D.
-/
import Derived.Test.YtjagjkogloggpaaGreatFJ0
import Derived.Deep.QuietTactic
import Derived.BigQuiet
import Derived.Test.YtjagjkogloggpaaGreatFL2B
namespace Go.Proofs.YtjagjkogloggpaaGreat
open Go.RowKit

set_option maxHeartbeats 400000 in
theorem eqBytes_same (A A2 : Option Addr) (c c2 : Nat) (l : List UInt8) (w : World) (B B2 : Nat) (hn : l.length ≤ 1099511627776) (h : Lies w B A l) (h2 : Lies w B2 A2 l) :
    Calls Tryz.prog 29 #[.slice A l.length c, .slice A2 l.length c2] w fun e w' => e = .returned (.bool true) ∧ w = w' := by
  go_enter Tryz.func29, Tryz.ntmps29
  go_wp2
  go_loop [17] (fun i => ∃ k : Nat, k ≤ l.length ∧ i = .int .i64 k) (fun i => l.length - (intOf i).toNat)
  case atStart => exact ⟨0, by omega, rfl⟩
  case round =>
    obtain ⟨k, hk, rfl⟩ := hrel
    by_cases hlt : k < l.length
    · obtain ⟨g, o, rfl, hg, hc⟩ := h.at_ hlt
      obtain ⟨g2, o2, rfl, hg2, hc2⟩ := h2.at_ hlt
      have b : ((l[k].toNat : Int) != (l[k].toNat : Int)) = false := by simp
      go_wp2
      go_round
      case rel => exact ⟨k + 1, by omega, by go_num⟩
      case measure => simp [intOf]; omega
    · go_wp2
      go_ret
      exact ⟨rfl, rfl⟩

theorem byte_lies (w : World) (x : UInt8) : Lies (w.alloc (.cells #[.int .u8 (x.toNat : Int)] 5)) (w.alloc (.cells #[.int .u8 (x.toNat : Int)] 5)).heap.size (some ⟨w.heap.size, 0, none⟩) [x] :=
  lies_lit w 5 _ _ rfl

set_option maxHeartbeats 400000 in
theorem copyBytes_any (A : Option Addr) (c : Nat) (l : List UInt8) (w : World) (hn : l.length ≤ 1099511627776) (h : Lies w w.heap.size A l) :
    Calls Tryz.prog 28 #[.slice A l.length c] w (Made w l) := by
  go_enter Tryz.func28, Tryz.ntmps28
  go_wp2
  go_loopw [3, 8] (fun v i wr => ∃ k : Nat, k ≤ l.length ∧ i = .int .i64 k ∧ Hid (Own wr w.heap.size v (l.take k)) ∧ Hid (Below w.heap.size w wr)) (fun _ i _ => l.length - (intOf i).toNat)
  case atStart => exact ⟨0, by omega, rfl, Own.nil _ _, Below.refl _ _⟩
  case round =>
    obtain ⟨k, hk, rfl, hq, hb⟩ := hrel
    have hz := hb.out.size
    by_cases hlt : k < l.length
    · obtain ⟨g, o, rfl, hg, hc⟩ := (h.below hb.out).at_ hlt
      have HT := Lib.hid (show l.take k ++ [l[k]] = l.take (k + 1) by simp)
      go_wp2_with (first
        | (at_builtin
           refine app_slice _ rfl (.tmp 12) (.tmp 14) rfl w.heap.size _ _ rfl (hq.out.alloc _) (some ⟨wr.heap.size, 0, none⟩) 1 _ [l[k]] rfl (by simp) (byte_lies wr l[k]) (by simp; omega) (by simp; omega) ?_
           intro v3 w3 ho3 hg3
           have hb3 := below_grown (hb.out.alloc hz _) hg3 (hq.out.alloc _) (by simp; omega)
           rw [HT.out] at ho3
           clear hg3))
      go_roundw
      case rel => exact ⟨k + 1, by omega, by go_num, ho3, hb3⟩
      case measure => simp [intOf]; omega
    · obtain rfl : k = l.length := by omega
      have ho := hq.out
      rw [List.take_length] at ho
      clear hq
      go_wp2
      go_ret
      exact ⟨_, rfl, ho, hb⟩

end Go.Proofs.YtjagjkogloggpaaGreat

namespace Go.Proofs.YtjagjkogloggpaaGreat
open Go.RowKit

theorem eb_lies (w : World) (x : Int) (n k : Nat) (h : k + 1 < n) : Lies (w.alloc (.cells #[.int .u8 (dgt x k + 128)] 5)) (w.alloc (.cells #[.int .u8 (dgt x k + 128)] 5)).heap.size (some ⟨w.heap.size, 0, none⟩) [eb x n k] :=
  lies_lit w 5 _ _ (by simp only [List.map_cons, List.map_nil, b8, eb_more x n k h])
theorem eb_lies_last (w : World) (x : Int) (n k : Nat) (h : n ≤ k + 1) : Lies (w.alloc (.cells #[.int .u8 (dgt x k)] 5)) (w.alloc (.cells #[.int .u8 (dgt x k)] 5)).heap.size (some ⟨w.heap.size, 0, none⟩) [eb x n k] :=
  lies_lit w 5 _ _ (by simp only [List.map_cons, List.map_nil, b8, eb_last x n k h])
theorem enc_part (l : List UInt8) (x : Int) (n k : Nat) : l ++ (List.range k).map (eb x n) ++ [eb x n k] = l ++ (List.range (k + 1)).map (eb x n) := by
  rw [List.range_succ, List.map_append, List.append_assoc]; rfl

set_option maxHeartbeats 1000000 in
theorem putU1_any (A : Option Addr) (c : Nat) (l : List UInt8) (x : Int) (w : World) (hc : A = none → c = 0) (h : Lies w w.heap.size A l) (hn : l.length ≤ 1099511627776) (h0 : 0 ≤ x) (h1 : x < 18446744073709551616) :
    Calls Tryz.prog 119 #[.slice A l.length c, .int .u64 x] w (MadeC w (l ++ nB false x) (l.length + size false x)) := by
  have hs := sizeU_any x w h0 h1
  have hs1 := size_pos false x
  have hs2 := size_le false x
  have hN : nB false x = enc x (size false x) := rfl
  rw [hN]
  clear hN
  generalize size false x = n at *
  have HS := Lib.hid hs
  have HC := Lib.hid hc
  clear hs hc
  go_enter Tryz.func119, Tryz.ntmps119
  go_wp2_with (first
    | (go_at_call 173; refine HS.out.mono ?_; rintro e w' ⟨rfl, rfl⟩)
    | (at_make
       refine make_bytes _ rfl (.const (.int .i64 0)) (.tmp 13) rfl 0 (l.length + n) _ _ rfl rfl rfl (by omega) (by omega) (by omega) ?_
       intro w1 hk1 hb1 hs1
       have ho1 := own_room hk1 (Nat.le_refl _) (by omega)
       clear hk1)
    | (at_builtin
       refine app_cap _ rfl (.tmp 15) (.tmp 16) rfl w.heap.size _ [] rfl ho1 A c w.heap.size l rfl HC.out (h.below hb1) (by simp; omega) (by omega) ?_
       intro v2 w2 ho2 hg2 hcp2
       have hcap : capOf v2 = l.length + n := hcp2 (by show 0 + l.length ≤ l.length + n; omega)
       clear hcp2
       have hb2 := below_grown hb1 hg2 ho1 (by omega)
       clear hg2 ho1 hb1))
  have ho : Own w2 w.heap.size v2 (l ++ (List.range 0).map (eb x n)) := by simpa using ho2
  clear ho2
  go_loopw [6, 20] (fun v i wr => ∃ k : Nat, k + 1 ≤ n ∧ i = .int .i64 k ∧ Hid (Own wr w.heap.size v (l ++ (List.range k).map (eb x n))) ∧ Hid (Below w.heap.size w wr) ∧ Hid (capOf v = l.length + n)) (fun _ i _ => n - (intOf i).toNat)
  case atStart => exact ⟨0, by omega, rfl, ho, hb2, hcap⟩
  case round =>
    obtain ⟨k, hk, rfl, hq, hb, hp⟩ := hrel
    have hd := digitU_any x k wr h0 h1 (by omega)
    have hd2 := dgt_lt x k
    have hz := hb.out.size
    by_cases hlt : k + 1 < n
    · have HE := Lib.hid (eb_lies wr x n k hlt)
      have HD := Lib.hid hd
      clear hd ho hb2 hcap
      go_wp2_with (first
        | (go_at_call 174; refine HD.out.mono ?_; rintro e w' ⟨rfl, rfl⟩)
        | (at_builtin
           refine app_cap _ rfl (.tmp 23) (.tmp 28) rfl w.heap.size _ _ rfl (hq.out.alloc _) (some ⟨wr.heap.size, 0, none⟩) 1 _ [eb x n k] rfl (by simp) HE.out (by simp; omega) (by simp; omega) ?_
           intro v3 w3 ho3 hg3 hcp3
           have hp3 := Lib.hid ((hcp3 (Nat.le_trans (m := l.length + n) (by simp only [List.length_append, List.length_map, List.length_range, List.length_cons, List.length_nil]; omega) (Nat.le_of_eq hp.out.symm))).trans hp.out)
           clear hcp3
           have hb3 := below_grown (hb.out.alloc hz _) hg3 (hq.out.alloc _) (by simp; omega)
           rw [enc_part] at ho3
           clear hg3))
      go_roundw
      case rel => exact ⟨k + 1, by omega, by go_num, ho3, hb3, hp3⟩
      case measure => simp [intOf]; omega
    · obtain rfl : n = k + 1 := by omega
      have HE := Lib.hid (eb_lies_last wr x (k + 1) k (Nat.le_refl _))
      have HD := Lib.hid hd
      clear hd ho hb2 hcap
      go_wp2_with (first
        | (go_at_call 174; refine HD.out.mono ?_; rintro e w' ⟨rfl, rfl⟩)
        | (at_builtin
           refine app_cap _ rfl (.tmp 31) (.tmp 36) rfl w.heap.size _ _ rfl (hq.out.alloc _) (some ⟨wr.heap.size, 0, none⟩) 1 _ [eb x (k + 1) k] rfl (by simp) HE.out (by simp; omega) (by simp; omega) ?_
           intro v3 w3 ho3 hg3 hcp3
           have hp3 := Lib.hid ((hcp3 (Nat.le_trans (m := l.length + (k + 1)) (by simp only [List.length_append, List.length_map, List.length_range, List.length_cons, List.length_nil]; omega) (Nat.le_of_eq hp.out.symm))).trans hp.out)
           clear hcp3
           have hb3 := below_grown (hb.out.alloc hz _) hg3 (hq.out.alloc _) (by simp; omega)
           rw [enc_part] at ho3
           clear hg3))
      go_ret
      exact ⟨v3, rfl, ho3, hb3, hp3⟩

set_option maxHeartbeats 1000000 in
theorem putS1_any (A : Option Addr) (c : Nat) (l : List UInt8) (x : Int) (w : World) (hc : A = none → c = 0) (h : Lies w w.heap.size A l) (hn : l.length ≤ 1099511627776) (h0 : -9223372036854775808 ≤ x) (h1 : x < 9223372036854775808) :
    Calls Tryz.prog 259 #[.slice A l.length c, .int .i64 x] w (MadeC w (l ++ nB true x) (l.length + size true x)) := by
  have hs := sizeS_any x w h0 h1
  have hs1 := size_pos true x
  have hs2 := size_le true x
  have hN : nB true x = enc x (size true x) := rfl
  rw [hN]
  clear hN
  generalize size true x = n at *
  have HS := Lib.hid hs
  have HC := Lib.hid hc
  clear hs hc
  go_enter Tryz.func259, Tryz.ntmps259
  go_wp2_with (first
    | (go_at_call 266; refine HS.out.mono ?_; rintro e w' ⟨rfl, rfl⟩)
    | (at_make
       refine make_bytes _ rfl (.const (.int .i64 0)) (.tmp 13) rfl 0 (l.length + n) _ _ rfl rfl rfl (by omega) (by omega) (by omega) ?_
       intro w1 hk1 hb1 hs1
       have ho1 := own_room hk1 (Nat.le_refl _) (by omega)
       clear hk1)
    | (at_builtin
       refine app_cap _ rfl (.tmp 15) (.tmp 16) rfl w.heap.size _ [] rfl ho1 A c w.heap.size l rfl HC.out (h.below hb1) (by simp; omega) (by omega) ?_
       intro v2 w2 ho2 hg2 hcp2
       have hcap : capOf v2 = l.length + n := hcp2 (by show 0 + l.length ≤ l.length + n; omega)
       clear hcp2
       have hb2 := below_grown hb1 hg2 ho1 (by omega)
       clear hg2 ho1 hb1))
  have ho : Own w2 w.heap.size v2 (l ++ (List.range 0).map (eb x n)) := by simpa using ho2
  clear ho2
  go_loopw [6, 20] (fun v i wr => ∃ k : Nat, k + 1 ≤ n ∧ i = .int .i64 k ∧ Hid (Own wr w.heap.size v (l ++ (List.range k).map (eb x n))) ∧ Hid (Below w.heap.size w wr) ∧ Hid (capOf v = l.length + n)) (fun _ i _ => n - (intOf i).toNat)
  case atStart => exact ⟨0, by omega, rfl, ho, hb2, hcap⟩
  case round =>
    obtain ⟨k, hk, rfl, hq, hb, hp⟩ := hrel
    have hd := digitS_any x k wr h0 h1 (by omega)
    have hd2 := dgt_lt x k
    have hz := hb.out.size
    by_cases hlt : k + 1 < n
    · have HE := Lib.hid (eb_lies wr x n k hlt)
      have HD := Lib.hid hd
      clear hd ho hb2 hcap
      go_wp2_with (first
        | (go_at_call 267; refine HD.out.mono ?_; rintro e w' ⟨rfl, rfl⟩)
        | (at_builtin
           refine app_cap _ rfl (.tmp 23) (.tmp 28) rfl w.heap.size _ _ rfl (hq.out.alloc _) (some ⟨wr.heap.size, 0, none⟩) 1 _ [eb x n k] rfl (by simp) HE.out (by simp; omega) (by simp; omega) ?_
           intro v3 w3 ho3 hg3 hcp3
           have hp3 := Lib.hid ((hcp3 (Nat.le_trans (m := l.length + n) (by simp only [List.length_append, List.length_map, List.length_range, List.length_cons, List.length_nil]; omega) (Nat.le_of_eq hp.out.symm))).trans hp.out)
           clear hcp3
           have hb3 := below_grown (hb.out.alloc hz _) hg3 (hq.out.alloc _) (by simp; omega)
           rw [enc_part] at ho3
           clear hg3))
      go_roundw
      case rel => exact ⟨k + 1, by omega, by go_num, ho3, hb3, hp3⟩
      case measure => simp [intOf]; omega
    · obtain rfl : n = k + 1 := by omega
      have HE := Lib.hid (eb_lies_last wr x (k + 1) k (Nat.le_refl _))
      have HD := Lib.hid hd
      clear hd ho hb2 hcap
      go_wp2_with (first
        | (go_at_call 267; refine HD.out.mono ?_; rintro e w' ⟨rfl, rfl⟩)
        | (at_builtin
           refine app_cap _ rfl (.tmp 31) (.tmp 36) rfl w.heap.size _ _ rfl (hq.out.alloc _) (some ⟨wr.heap.size, 0, none⟩) 1 _ [eb x (k + 1) k] rfl (by simp) HE.out (by simp; omega) (by simp; omega) ?_
           intro v3 w3 ho3 hg3 hcp3
           have hp3 := Lib.hid ((hcp3 (Nat.le_trans (m := l.length + (k + 1)) (by simp only [List.length_append, List.length_map, List.length_range, List.length_cons, List.length_nil]; omega) (Nat.le_of_eq hp.out.symm))).trans hp.out)
           clear hcp3
           have hb3 := below_grown (hb.out.alloc hz _) hg3 (hq.out.alloc _) (by simp; omega)
           rw [enc_part] at ho3
           clear hg3))
      go_ret
      exact ⟨v3, rfl, ho3, hb3, hp3⟩

set_option maxHeartbeats 400000 in
theorem putU_any (A : Option Addr) (c : Nat) (l : List UInt8) (x : Int) (w : World) (hc : A = none → c = 0) (h : Lies w w.heap.size A l) (hn : l.length ≤ 1099511627776) (h0 : 0 ≤ x) (h1 : x < 18446744073709551616) :
    Calls Tryz.prog 68 #[.slice A l.length c, .int .u64 x] w (MadeC w (l ++ nB false x) (l.length + size false x)) := by
  have HP := Lib.hid (putU1_any A c l x w hc h hn h0 h1)
  clear hc h hn
  go_enter Tryz.func68, Tryz.ntmps68
  go_wp2_with (go_at_call 119; refine HP.out.mono ?_; rintro e w' ⟨v, rfl, ho, hb, hp⟩; have HP2 := Lib.hid hp; clear hp)
  go_ret
  exact ⟨v, rfl, ho, hb, HP2⟩
set_option maxHeartbeats 400000 in
theorem putS_any (A : Option Addr) (c : Nat) (l : List UInt8) (x : Int) (w : World) (hc : A = none → c = 0) (h : Lies w w.heap.size A l) (hn : l.length ≤ 1099511627776) (h0 : -9223372036854775808 ≤ x) (h1 : x < 9223372036854775808) :
    Calls Tryz.prog 215 #[.slice A l.length c, .int .i64 x] w (MadeC w (l ++ nB true x) (l.length + size true x)) := by
  have HP := Lib.hid (putS1_any A c l x w hc h hn h0 h1)
  clear hc h hn
  go_enter Tryz.func215, Tryz.ntmps215
  go_wp2_with (go_at_call 259; refine HP.out.mono ?_; rintro e w' ⟨v, rfl, ho, hb, hp⟩; have HP2 := Lib.hid hp; clear hp)
  go_ret
  exact ⟨v, rfl, ho, hb, HP2⟩

end Go.Proofs.YtjagjkogloggpaaGreat
