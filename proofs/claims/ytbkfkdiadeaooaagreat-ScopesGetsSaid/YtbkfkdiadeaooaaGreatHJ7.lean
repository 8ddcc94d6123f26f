/-
  Merged for a claim: R0A, L2D, R2A.
-/
import Derived.Test.YtbkfkdiadeaooaaGreatHJ0
import Derived.Deep.QuietTactic
import Derived.BigQuiet
import Derived.Test.YtbkfkdiadeaooaaGreatHJ5
namespace Go.Proofs.YtbkfkdiadeaooaaGreat
open Go.RowKit

theorem byte_lies (w : World) (x : UInt8) : Lies (w.alloc (.cells #[.int .u8 (x.toNat : Int)] 5)) (w.alloc (.cells #[.int .u8 (x.toNat : Int)] 5)).heap.size (some ⟨w.heap.size, 0, none⟩) [x] :=
  lies_lit w 5 _ _ rfl

set_option maxHeartbeats 400000 in
theorem copyBytes_any (A : Option Addr) (c : Nat) (l : List UInt8) (w : World) (hn : l.length ≤ 1099511627776) (h : Lies w w.heap.size A l) :
    Calls Tryz.prog 104 #[.slice A l.length c] w (Made w l) := by
  go_enter Tryz.func104, Tryz.ntmps104
  go_wp2
  go_loopw [3, 8] (fun v i wr => ∃ k : Nat, k ≤ l.length ∧ i = .int .i64 k ∧ Hid (Own wr w.heap.size v (l.take k)) ∧ Hid (Below w.heap.size w wr)) (fun _ i _ => l.length - (intOf i).toNat)
  case atStart => exact ⟨0, by omega, rfl, Own.nil _ _, Below.refl _ _⟩
  case round =>
    obtain ⟨k, hk, rfl, hq, hb⟩ := hrel
    have hz := hb.out.size
    by_cases hlt : k < l.length
    · obtain ⟨g, o, rfl, hg, hc⟩ := (h.below hb.out).at_ hlt
      have HT := Lib.hid (show l.take k ++ [l[k]] = l.take (k + 1) by simp)
      go_wp2_with (first
        | (at_builtin
           refine app_slice _ rfl (.tmp 12) (.tmp 14) rfl w.heap.size _ _ rfl (hq.out.alloc _) (some ⟨wr.heap.size, 0, none⟩) 1 _ [l[k]] rfl (by simp) (byte_lies wr l[k]) (by simp; omega) (by simp; omega) ?_
           intro v3 w3 ho3 hg3
           have hb3 := below_grown (hb.out.alloc hz _) hg3 (hq.out.alloc _) (by simp; omega)
           rw [HT.out] at ho3
           clear hg3))
      go_roundw
      case rel => exact ⟨k + 1, by omega, by go_num, ho3, hb3⟩
      case measure => simp [intOf]; omega
    · obtain rfl : k = l.length := by omega
      have ho := hq.out
      rw [List.take_length] at ho
      clear hq
      go_wp2
      go_ret
      exact ⟨_, rfl, ho, hb⟩

end Go.Proofs.YtbkfkdiadeaooaaGreat

namespace Go.Proofs.YtbkfkdiadeaooaaGreat
open Go.RowKit

theorem eb_lies (w : World) (x : Int) (n k : Nat) (h : k + 1 < n) : Lies (w.alloc (.cells #[.int .u8 (dgt x k + 128)] 5)) (w.alloc (.cells #[.int .u8 (dgt x k + 128)] 5)).heap.size (some ⟨w.heap.size, 0, none⟩) [eb x n k] :=
  lies_lit w 5 _ _ (by simp only [List.map_cons, List.map_nil, b8, eb_more x n k h])
theorem eb_lies_last (w : World) (x : Int) (n k : Nat) (h : n ≤ k + 1) : Lies (w.alloc (.cells #[.int .u8 (dgt x k)] 5)) (w.alloc (.cells #[.int .u8 (dgt x k)] 5)).heap.size (some ⟨w.heap.size, 0, none⟩) [eb x n k] :=
  lies_lit w 5 _ _ (by simp only [List.map_cons, List.map_nil, b8, eb_last x n k h])
theorem enc_part (l : List UInt8) (x : Int) (n k : Nat) : l ++ (List.range k).map (eb x n) ++ [eb x n k] = l ++ (List.range (k + 1)).map (eb x n) := by
  rw [List.range_succ, List.map_append, List.append_assoc]; rfl

set_option maxHeartbeats 1000000 in
theorem putU1_any (A : Option Addr) (c : Nat) (l : List UInt8) (x : Int) (w : World) (hc : A = none → c = 0) (h : Lies w w.heap.size A l) (hn : l.length ≤ 1099511627776) (h0 : 0 ≤ x) (h1 : x < 18446744073709551616) :
    Calls Tryz.prog 81 #[.slice A l.length c, .int .u64 x] w (MadeC w (l ++ nB false x) (l.length + size false x)) := by
  have hs := sizeU_any x w h0 h1
  have hs1 := size_pos false x
  have hs2 := size_le false x
  have hN : nB false x = enc x (size false x) := rfl
  rw [hN]
  clear hN
  generalize size false x = n at *
  have HS := Lib.hid hs
  have HC := Lib.hid hc
  clear hs hc
  go_enter Tryz.func81, Tryz.ntmps81
  go_wp2_with (first
    | (go_at_call 96; refine HS.out.mono ?_; rintro e w' ⟨rfl, rfl⟩)
    | (at_make
       refine make_bytes _ rfl (.const (.int .i64 0)) (.tmp 13) rfl 0 (l.length + n) _ _ rfl rfl rfl (by omega) (by omega) (by omega) ?_
       intro w1 hk1 hb1 hs1
       have ho1 := own_room hk1 (Nat.le_refl _) (by omega)
       clear hk1)
    | (at_builtin
       refine app_cap _ rfl (.tmp 15) (.tmp 16) rfl w.heap.size _ [] rfl ho1 A c w.heap.size l rfl HC.out (h.below hb1) (by simp; omega) (by omega) ?_
       intro v2 w2 ho2 hg2 hcp2
       have hcap : capOf v2 = l.length + n := hcp2 (by show 0 + l.length ≤ l.length + n; omega)
       clear hcp2
       have hb2 := below_grown hb1 hg2 ho1 (by omega)
       clear hg2 ho1 hb1))
  have ho : Own w2 w.heap.size v2 (l ++ (List.range 0).map (eb x n)) := by simpa using ho2
  clear ho2
  go_loopw [6, 20] (fun v i wr => ∃ k : Nat, k + 1 ≤ n ∧ i = .int .i64 k ∧ Hid (Own wr w.heap.size v (l ++ (List.range k).map (eb x n))) ∧ Hid (Below w.heap.size w wr) ∧ Hid (capOf v = l.length + n)) (fun _ i _ => n - (intOf i).toNat)
  case atStart => exact ⟨0, by omega, rfl, ho, hb2, hcap⟩
  case round =>
    obtain ⟨k, hk, rfl, hq, hb, hp⟩ := hrel
    have hd := digitU_any x k wr h0 h1 (by omega)
    have hd2 := dgt_lt x k
    have hz := hb.out.size
    by_cases hlt : k + 1 < n
    · have HE := Lib.hid (eb_lies wr x n k hlt)
      have HD := Lib.hid hd
      clear hd ho hb2 hcap
      go_wp2_with (first
        | (go_at_call 97; refine HD.out.mono ?_; rintro e w' ⟨rfl, rfl⟩)
        | (at_builtin
           refine app_cap _ rfl (.tmp 23) (.tmp 28) rfl w.heap.size _ _ rfl (hq.out.alloc _) (some ⟨wr.heap.size, 0, none⟩) 1 _ [eb x n k] rfl (by simp) HE.out (by simp; omega) (by simp; omega) ?_
           intro v3 w3 ho3 hg3 hcp3
           have hp3 := Lib.hid ((hcp3 (Nat.le_trans (m := l.length + n) (by simp only [List.length_append, List.length_map, List.length_range, List.length_cons, List.length_nil]; omega) (Nat.le_of_eq hp.out.symm))).trans hp.out)
           clear hcp3
           have hb3 := below_grown (hb.out.alloc hz _) hg3 (hq.out.alloc _) (by simp; omega)
           rw [enc_part] at ho3
           clear hg3))
      go_roundw
      case rel => exact ⟨k + 1, by omega, by go_num, ho3, hb3, hp3⟩
      case measure => simp [intOf]; omega
    · obtain rfl : n = k + 1 := by omega
      have HE := Lib.hid (eb_lies_last wr x (k + 1) k (Nat.le_refl _))
      have HD := Lib.hid hd
      clear hd ho hb2 hcap
      go_wp2_with (first
        | (go_at_call 97; refine HD.out.mono ?_; rintro e w' ⟨rfl, rfl⟩)
        | (at_builtin
           refine app_cap _ rfl (.tmp 31) (.tmp 36) rfl w.heap.size _ _ rfl (hq.out.alloc _) (some ⟨wr.heap.size, 0, none⟩) 1 _ [eb x (k + 1) k] rfl (by simp) HE.out (by simp; omega) (by simp; omega) ?_
           intro v3 w3 ho3 hg3 hcp3
           have hp3 := Lib.hid ((hcp3 (Nat.le_trans (m := l.length + (k + 1)) (by simp only [List.length_append, List.length_map, List.length_range, List.length_cons, List.length_nil]; omega) (Nat.le_of_eq hp.out.symm))).trans hp.out)
           clear hcp3
           have hb3 := below_grown (hb.out.alloc hz _) hg3 (hq.out.alloc _) (by simp; omega)
           rw [enc_part] at ho3
           clear hg3))
      go_ret
      exact ⟨v3, rfl, ho3, hb3, hp3⟩

set_option maxHeartbeats 1000000 in
theorem putS1_any (A : Option Addr) (c : Nat) (l : List UInt8) (x : Int) (w : World) (hc : A = none → c = 0) (h : Lies w w.heap.size A l) (hn : l.length ≤ 1099511627776) (h0 : -9223372036854775808 ≤ x) (h1 : x < 9223372036854775808) :
    Calls Tryz.prog 107 #[.slice A l.length c, .int .i64 x] w (MadeC w (l ++ nB true x) (l.length + size true x)) := by
  have hs := sizeS_any x w h0 h1
  have hs1 := size_pos true x
  have hs2 := size_le true x
  have hN : nB true x = enc x (size true x) := rfl
  rw [hN]
  clear hN
  generalize size true x = n at *
  have HS := Lib.hid hs
  have HC := Lib.hid hc
  clear hs hc
  go_enter Tryz.func107, Tryz.ntmps107
  go_wp2_with (first
    | (go_at_call 110; refine HS.out.mono ?_; rintro e w' ⟨rfl, rfl⟩)
    | (at_make
       refine make_bytes _ rfl (.const (.int .i64 0)) (.tmp 13) rfl 0 (l.length + n) _ _ rfl rfl rfl (by omega) (by omega) (by omega) ?_
       intro w1 hk1 hb1 hs1
       have ho1 := own_room hk1 (Nat.le_refl _) (by omega)
       clear hk1)
    | (at_builtin
       refine app_cap _ rfl (.tmp 15) (.tmp 16) rfl w.heap.size _ [] rfl ho1 A c w.heap.size l rfl HC.out (h.below hb1) (by simp; omega) (by omega) ?_
       intro v2 w2 ho2 hg2 hcp2
       have hcap : capOf v2 = l.length + n := hcp2 (by show 0 + l.length ≤ l.length + n; omega)
       clear hcp2
       have hb2 := below_grown hb1 hg2 ho1 (by omega)
       clear hg2 ho1 hb1))
  have ho : Own w2 w.heap.size v2 (l ++ (List.range 0).map (eb x n)) := by simpa using ho2
  clear ho2
  go_loopw [6, 20] (fun v i wr => ∃ k : Nat, k + 1 ≤ n ∧ i = .int .i64 k ∧ Hid (Own wr w.heap.size v (l ++ (List.range k).map (eb x n))) ∧ Hid (Below w.heap.size w wr) ∧ Hid (capOf v = l.length + n)) (fun _ i _ => n - (intOf i).toNat)
  case atStart => exact ⟨0, by omega, rfl, ho, hb2, hcap⟩
  case round =>
    obtain ⟨k, hk, rfl, hq, hb, hp⟩ := hrel
    have hd := digitS_any x k wr h0 h1 (by omega)
    have hd2 := dgt_lt x k
    have hz := hb.out.size
    by_cases hlt : k + 1 < n
    · have HE := Lib.hid (eb_lies wr x n k hlt)
      have HD := Lib.hid hd
      clear hd ho hb2 hcap
      go_wp2_with (first
        | (go_at_call 111; refine HD.out.mono ?_; rintro e w' ⟨rfl, rfl⟩)
        | (at_builtin
           refine app_cap _ rfl (.tmp 23) (.tmp 28) rfl w.heap.size _ _ rfl (hq.out.alloc _) (some ⟨wr.heap.size, 0, none⟩) 1 _ [eb x n k] rfl (by simp) HE.out (by simp; omega) (by simp; omega) ?_
           intro v3 w3 ho3 hg3 hcp3
           have hp3 := Lib.hid ((hcp3 (Nat.le_trans (m := l.length + n) (by simp only [List.length_append, List.length_map, List.length_range, List.length_cons, List.length_nil]; omega) (Nat.le_of_eq hp.out.symm))).trans hp.out)
           clear hcp3
           have hb3 := below_grown (hb.out.alloc hz _) hg3 (hq.out.alloc _) (by simp; omega)
           rw [enc_part] at ho3
           clear hg3))
      go_roundw
      case rel => exact ⟨k + 1, by omega, by go_num, ho3, hb3, hp3⟩
      case measure => simp [intOf]; omega
    · obtain rfl : n = k + 1 := by omega
      have HE := Lib.hid (eb_lies_last wr x (k + 1) k (Nat.le_refl _))
      have HD := Lib.hid hd
      clear hd ho hb2 hcap
      go_wp2_with (first
        | (go_at_call 111; refine HD.out.mono ?_; rintro e w' ⟨rfl, rfl⟩)
        | (at_builtin
           refine app_cap _ rfl (.tmp 31) (.tmp 36) rfl w.heap.size _ _ rfl (hq.out.alloc _) (some ⟨wr.heap.size, 0, none⟩) 1 _ [eb x (k + 1) k] rfl (by simp) HE.out (by simp; omega) (by simp; omega) ?_
           intro v3 w3 ho3 hg3 hcp3
           have hp3 := Lib.hid ((hcp3 (Nat.le_trans (m := l.length + (k + 1)) (by simp only [List.length_append, List.length_map, List.length_range, List.length_cons, List.length_nil]; omega) (Nat.le_of_eq hp.out.symm))).trans hp.out)
           clear hcp3
           have hb3 := below_grown (hb.out.alloc hz _) hg3 (hq.out.alloc _) (by simp; omega)
           rw [enc_part] at ho3
           clear hg3))
      go_ret
      exact ⟨v3, rfl, ho3, hb3, hp3⟩

set_option maxHeartbeats 400000 in
theorem putU_any (A : Option Addr) (c : Nat) (l : List UInt8) (x : Int) (w : World) (hc : A = none → c = 0) (h : Lies w w.heap.size A l) (hn : l.length ≤ 1099511627776) (h0 : 0 ≤ x) (h1 : x < 18446744073709551616) :
    Calls Tryz.prog 50 #[.slice A l.length c, .int .u64 x] w (MadeC w (l ++ nB false x) (l.length + size false x)) := by
  have HP := Lib.hid (putU1_any A c l x w hc h hn h0 h1)
  clear hc h hn
  go_enter Tryz.func50, Tryz.ntmps50
  go_wp2_with (go_at_call 81; refine HP.out.mono ?_; rintro e w' ⟨v, rfl, ho, hb, hp⟩; have HP2 := Lib.hid hp; clear hp)
  go_ret
  exact ⟨v, rfl, ho, hb, HP2⟩
set_option maxHeartbeats 400000 in
theorem putS_any (A : Option Addr) (c : Nat) (l : List UInt8) (x : Int) (w : World) (hc : A = none → c = 0) (h : Lies w w.heap.size A l) (hn : l.length ≤ 1099511627776) (h0 : -9223372036854775808 ≤ x) (h1 : x < 9223372036854775808) :
    Calls Tryz.prog 101 #[.slice A l.length c, .int .i64 x] w (MadeC w (l ++ nB true x) (l.length + size true x)) := by
  have HP := Lib.hid (putS1_any A c l x w hc h hn h0 h1)
  clear hc h hn
  go_enter Tryz.func101, Tryz.ntmps101
  go_wp2_with (go_at_call 107; refine HP.out.mono ?_; rintro e w' ⟨v, rfl, ho, hb, hp⟩; have HP2 := Lib.hid hp; clear hp)
  go_ret
  exact ⟨v, rfl, ho, hb, HP2⟩

end Go.Proofs.YtbkfkdiadeaooaaGreat

namespace Go.Proofs.YtbkfkdiadeaooaaGreat
open Go.RowKit

theorem ret_bool {a b : Bool} (h : a = b) : Ending.returned (.bool a) = .returned (.bool b) := by rw [h]
theorem shlU (n : Nat) (h : n ≤ 9) : IntKind.u64.wrap (2 ^ (7 * n)) = pw n := by
  have := pw_pos n
  have := pw_lt9 h
  show IntKind.u64.wrap (pw n) = pw n
  rw [IntKind.wrap_u64]; omega
theorem shlS (n : Nat) (h1 : 1 ≤ n) (h : n ≤ 9) : wrap64 (2 ^ (7 * n - 1)) = 64 * pw (n - 1) := by
  obtain ⟨k, rfl⟩ : ∃ k, n = k + 1 := ⟨n - 1, by omega⟩
  have h3 := pw_pos k
  have h2 := pw_lt9 h
  rw [pw_succ] at h2
  have e : (2 : Int) ^ (7 * (k + 1) - 1) = 64 * pw k := by
    rw [show 7 * (k + 1) - 1 = 7 * k + 6 by omega, Int.pow_add]
    show pw k * 64 = _
    omega
  rw [e, Nat.add_sub_cancel]
  unfold wrap64; omega
theorem shlN (n : Nat) (h1 : 1 ≤ n) (h : n ≤ 9) : wrap64 (-wrap64 (2 ^ (7 * n - 1))) = -(64 * pw (n - 1)) := by
  rw [shlS n h1 h]
  obtain ⟨k, rfl⟩ : ∃ k, n = k + 1 := ⟨n - 1, by omega⟩
  have h3 := pw_pos k
  have h2 := pw_lt9 h
  rw [pw_succ] at h2
  rw [Nat.add_sub_cancel]
  unfold wrap64; omega

set_option maxHeartbeats 400000 in
theorem fitsU_any (x : Int) (n : Nat) (w : World) (_h0 : 0 ≤ x) (_h1 : x < 18446744073709551616) (hn : 1 ≤ n) (hn2 : n ≤ 10) :
    Calls Tryz.prog 92 #[.int .u64 x, .int .i64 n] w fun e w' => e = .returned (.bool (decide (fit false x n))) ∧ w = w' := by
  by_cases h : n = 10
  · subst h
    go_enter Tryz.func92, Tryz.ntmps92
    go_wp2
    go_ret
    exact ⟨by simp [fit], rfl⟩
  · have hn3 : n ≤ 9 := by omega
    go_enter Tryz.func92, Tryz.ntmps92
    go_wp2
    go_ret
    refine ⟨ret_bool ?_, rfl⟩
    rw [shlU n hn3, Bool.eq_iff_iff]
    simp only [Bool.or_eq_true, decide_eq_true_eq, fit_u]
    omega
set_option maxHeartbeats 400000 in
theorem fitsS_any (x : Int) (n : Nat) (w : World) (_h0 : -9223372036854775808 ≤ x) (_h1 : x < 9223372036854775808) (hn : 1 ≤ n) (hn2 : n ≤ 10) :
    Calls Tryz.prog 109 #[.int .i64 x, .int .i64 n] w fun e w' => e = .returned (.bool (decide (fit true x n))) ∧ w = w' := by
  by_cases h : n = 10
  · subst h
    go_enter Tryz.func109, Tryz.ntmps109
    go_wp2
    go_ret
    exact ⟨by simp [fit], rfl⟩
  · have hn3 : n ≤ 9 := by omega
    go_enter Tryz.func109, Tryz.ntmps109
    go_wp2
    all_goals
      rename_i hx
      rw [shlN n hn hn3] at hx
      go_ret
      refine ⟨ret_bool ?_, rfl⟩
      try rw [shlS n hn hn3]
      rw [Bool.eq_iff_iff]
      simp only [decide_eq_true_eq, fit_s, Bool.false_eq_true]
      first | omega | (exact ⟨fun h => h.elim, fun h => by omega⟩)

theorem dig_mod (x : Int) (i : Nat) : x / pw i % 18446744073709551616 % 128 = dgt x i := by unfold dgt; omega
theorem div_next (x : Int) (i : Nat) : x / pw (i + 1) = x / pw i / 128 := by
  have := pw_pos i
  rw [pw_succ, Int.mul_comm, Int.ediv_ediv_of_nonneg (by omega)]
theorem next_u {x : Int} (h0 : 0 ≤ x) (h1 : x < 18446744073709551616) (i : Nat) : x / pw i % 18446744073709551616 / 128 = x / pw (i + 1) % 18446744073709551616 := by
  rw [div_next]
  have h2 := Int.ediv_nonneg h0 (show 0 ≤ pw i by have := pw_pos i; omega)
  have h3 : x / pw i ≤ x := Int.ediv_le_self _ h0
  generalize x / pw i = y at *
  omega
theorem orSign (y : Int) (h0 : 0 ≤ y) (h1 : y < 144115188075855872) : bits .or .u64 y 18302628885633695744 = y + 18302628885633695744 := by
  show IntKind.u64.wrap ((BitVec.ofInt 64 y ||| BitVec.ofInt 64 18302628885633695744).toNat : Int) = _
  obtain ⟨n, rfl⟩ := Int.eq_ofNat_of_zero_le h0
  have := or_ofInt n 127 57 (by omega)
  rw [show ((2 ^ 57 * 127 : Nat) : Int) = 18302628885633695744 from by decide] at this
  rw [this, wrapU_toNat, IntKind.wrap_u64]
  omega
theorem div_neg {x : Int} (h0 : -9223372036854775808 ≤ x) (h1 : x < 0) (i : Nat) : -9223372036854775808 ≤ x / pw i ∧ x / pw i < 0 := by
  have hp := pw_pos i
  refine ⟨?_, Int.ediv_lt_of_lt_mul hp (by omega)⟩
  rw [Int.le_ediv_iff_mul_le hp]
  have : -9223372036854775808 * pw i ≤ -9223372036854775808 * 1 := by omega
  omega
theorem next_s {x : Int} (h0 : -9223372036854775808 ≤ x) (h1 : x < 0) (i : Nat) : bits .or .u64 (x / pw i % 18446744073709551616 / 128) 18302628885633695744 = x / pw (i + 1) % 18446744073709551616 := by
  have h := div_neg h0 h1 i
  rw [div_next]
  generalize x / pw i = y at *
  rw [orSign _ (by omega) (by omega)]
  omega

theorem byte_u8 (w : World) (z : Int) (h0 : 0 ≤ z) (h1 : z < 256) : Lies (w.alloc (.cells #[.int .u8 z] 5)) (w.alloc (.cells #[.int .u8 z] 5)).heap.size (some ⟨w.heap.size, 0, none⟩) [UInt8.ofNat z.toNat] :=
  lies_lit w 5 _ _ (by
    have h : ((UInt8.ofNat z.toNat).toNat : Int) = z := by simp; omega
    simp only [List.map_cons, List.map_nil, b8, h])

set_option maxRecDepth 100000 in
set_option maxHeartbeats 2000000 in
theorem digits_pos (A : Option Addr) (c : Nat) (l : List UInt8) (x : Int) (n : Nat) (w : World) (_hc : A = none → c = 0) (h : Lies w w.heap.size A l) (hn : l.length ≤ 1099511627776) (h0 : 0 ≤ x) (hn2 : n ≤ 10) (hx1 : x < 18446744073709551616) :
    Calls Tryz.prog 93 #[.slice A l.length c, .int .u64 x, .bool false, .int .i64 n] w (Made w (l ++ enc x n)) := by
  have HCB := Lib.hid (copyBytes_any A c l w hn h)
  go_enter Tryz.func93, Tryz.ntmps93
  go_wp2_with (go_at_call 104; refine HCB.out.mono ?_; rintro e w' ⟨v, rfl, ho, hb⟩)
  have hq : Hid (Own w' w.heap.size v (l ++ (List.range 0).map (eb x n))) := show Own _ _ _ _ by simpa using ho
  have HB := Lib.hid hb
  clear ho hb
  go_loopw [1, 9, 10] (fun z v i wr => ∃ k : Nat, k ≤ n ∧ i = .int .i64 k ∧ z = .int .u64 (x / pw k % 18446744073709551616) ∧ Hid (Own wr w.heap.size v (l ++ (List.range k).map (eb x n))) ∧ Hid (Below w.heap.size w wr)) (fun _ _ i _ => n - (intOf i).toNat)
  case atStart => exact ⟨0, by omega, rfl, by rw [pw_zero]; congr 1; omega, hq, HB⟩
  case round =>
    obtain ⟨k, hk, rfl, rfl, hq, hb⟩ := hrel
    have hz := hb.out.size
    by_cases hlt : k < n
    · have hd := dig_mod x k
      have hnx := next_u h0 hx1 k
      have hd2 := dgt_lt x k
      have hy0 : 0 ≤ x / pw k % 18446744073709551616 := by omega
      have hy1 : x / pw k % 18446744073709551616 < 18446744073709551616 := by omega
      have HN := Lib.hid hnx
      have HD := Lib.hid hd
      clear hnx hd
      generalize x / pw k % 18446744073709551616 = y at *
      by_cases hlast : k + 1 < n
      · have he : UInt8.ofNat (y % 128 + 128).toNat = eb x n k := by
          rw [HD.out]; unfold eb; rw [if_pos hlast]; congr 1; omega
        have HE := Lib.hid (byte_u8 wr (y % 128 + 128) (by omega) (by omega))
        rw [he] at HE
        have HE' := Lib.hid HE.out
        clear HE he
        go_wp2_with (first
          | (at_builtin
             refine app_slice _ rfl (.tmp 32) (.tmp 35) rfl w.heap.size _ _ rfl (hq.out.alloc _) (some ⟨wr.heap.size, 0, none⟩) 1 _ [eb x n k] rfl (by simp) HE'.out (by simp; omega) (by simp; omega) ?_
             intro v3 w3 ho3 hg3
             have hb3 := below_grown (hb.out.alloc hz _) hg3 (hq.out.alloc _) (by simp; omega)
             rw [enc_part] at ho3
             clear hg3))
        go_roundw
        case rel => exact ⟨k + 1, by omega, by go_num, by rw [← HN.out], ho3, hb3⟩
        case measure => simp [intOf]; omega
      · have he : UInt8.ofNat (y % 128).toNat = eb x n k := by
          rw [HD.out]; unfold eb; rw [if_neg hlast]; congr 1
        have HE := Lib.hid (byte_u8 wr (y % 128) (by omega) (by omega))
        rw [he] at HE
        have HE' := Lib.hid HE.out
        clear HE he
        go_wp2_with (first
          | (at_builtin
             refine app_slice _ rfl (.tmp 32) (.tmp 35) rfl w.heap.size _ _ rfl (hq.out.alloc _) (some ⟨wr.heap.size, 0, none⟩) 1 _ [eb x n k] rfl (by simp) HE'.out (by simp; omega) (by simp; omega) ?_
             intro v3 w3 ho3 hg3
             have hb3 := below_grown (hb.out.alloc hz _) hg3 (hq.out.alloc _) (by simp; omega)
             rw [enc_part] at ho3
             clear hg3))
        go_roundw
        case rel => exact ⟨k + 1, by omega, by go_num, by rw [← HN.out], ho3, hb3⟩
        case measure => simp [intOf]; omega
    · obtain rfl : k = n := by omega
      go_wp2
      go_ret
      exact ⟨_, rfl, hq, hb⟩

set_option maxRecDepth 100000 in
set_option maxHeartbeats 2000000 in
theorem digits_neg (A : Option Addr) (c : Nat) (l : List UInt8) (x : Int) (n : Nat) (w : World) (_hc : A = none → c = 0) (h : Lies w w.heap.size A l) (hn : l.length ≤ 1099511627776) (h0 : -9223372036854775808 ≤ x) (hn2 : n ≤ 10) (hx1 : x < 0) :
    Calls Tryz.prog 93 #[.slice A l.length c, .int .u64 (x % 18446744073709551616), .bool true, .int .i64 n] w (Made w (l ++ enc x n)) := by
  have HCB := Lib.hid (copyBytes_any A c l w hn h)
  go_enter Tryz.func93, Tryz.ntmps93
  go_wp2_with (go_at_call 104; refine HCB.out.mono ?_; rintro e w' ⟨v, rfl, ho, hb⟩)
  have hq : Hid (Own w' w.heap.size v (l ++ (List.range 0).map (eb x n))) := show Own _ _ _ _ by simpa using ho
  have HB := Lib.hid hb
  clear ho hb
  go_loopw [1, 9, 10] (fun z v i wr => ∃ k : Nat, k ≤ n ∧ i = .int .i64 k ∧ z = .int .u64 (x / pw k % 18446744073709551616) ∧ Hid (Own wr w.heap.size v (l ++ (List.range k).map (eb x n))) ∧ Hid (Below w.heap.size w wr)) (fun _ _ i _ => n - (intOf i).toNat)
  case atStart => exact ⟨0, by omega, rfl, by rw [pw_zero, Int.ediv_one], hq, HB⟩
  case round =>
    obtain ⟨k, hk, rfl, rfl, hq, hb⟩ := hrel
    have hz := hb.out.size
    by_cases hlt : k < n
    · have hd := dig_mod x k
      have hnx := next_s h0 hx1 k
      have hd2 := dgt_lt x k
      have hy0 : 0 ≤ x / pw k % 18446744073709551616 := by omega
      have hy1 : x / pw k % 18446744073709551616 < 18446744073709551616 := by omega
      have HN := Lib.hid hnx
      have HD := Lib.hid hd
      clear hnx hd
      generalize x / pw k % 18446744073709551616 = y at *
      by_cases hlast : k + 1 < n
      · have he : UInt8.ofNat (y % 128 + 128).toNat = eb x n k := by
          rw [HD.out]; unfold eb; rw [if_pos hlast]; congr 1; omega
        have HE := Lib.hid (byte_u8 wr (y % 128 + 128) (by omega) (by omega))
        rw [he] at HE
        have HE' := Lib.hid HE.out
        clear HE he
        go_wp2_with (first
          | (at_builtin
             refine app_slice _ rfl (.tmp 32) (.tmp 35) rfl w.heap.size _ _ rfl (hq.out.alloc _) (some ⟨wr.heap.size, 0, none⟩) 1 _ [eb x n k] rfl (by simp) HE'.out (by simp; omega) (by simp; omega) ?_
             intro v3 w3 ho3 hg3
             have hb3 := below_grown (hb.out.alloc hz _) hg3 (hq.out.alloc _) (by simp; omega)
             rw [enc_part] at ho3
             clear hg3))
        go_roundw
        case rel => exact ⟨k + 1, by omega, by go_num, by rw [← HN.out], ho3, hb3⟩
        case measure => simp [intOf]; omega
      · have he : UInt8.ofNat (y % 128).toNat = eb x n k := by
          rw [HD.out]; unfold eb; rw [if_neg hlast]; congr 1
        have HE := Lib.hid (byte_u8 wr (y % 128) (by omega) (by omega))
        rw [he] at HE
        have HE' := Lib.hid HE.out
        clear HE he
        go_wp2_with (first
          | (at_builtin
             refine app_slice _ rfl (.tmp 32) (.tmp 35) rfl w.heap.size _ _ rfl (hq.out.alloc _) (some ⟨wr.heap.size, 0, none⟩) 1 _ [eb x n k] rfl (by simp) HE'.out (by simp; omega) (by simp; omega) ?_
             intro v3 w3 ho3 hg3
             have hb3 := below_grown (hb.out.alloc hz _) hg3 (hq.out.alloc _) (by simp; omega)
             rw [enc_part] at ho3
             clear hg3))
        go_roundw
        case rel => exact ⟨k + 1, by omega, by go_num, by rw [← HN.out], ho3, hb3⟩
        case measure => simp [intOf]; omega
    · obtain rfl : k = n := by omega
      go_wp2
      go_ret
      exact ⟨_, rfl, hq, hb⟩


set_option maxHeartbeats 1000000 in
theorem refPutU_any (A : Option Addr) (c : Nat) (l : List UInt8) (x : Int) (w : World) (hc : A = none → c = 0) (h : Lies w w.heap.size A l) (hn : l.length ≤ 1099511627776) (h0 : 0 ≤ x) (h1 : x < 18446744073709551616) :
    Calls Tryz.prog 73 #[.slice A l.length c, .int .u64 x] w (Made w (l ++ nB false x)) := by
  go_enter Tryz.func73, Tryz.ntmps73
  go_wp2
  go_loop [5] (fun n => ∃ k : Nat, 1 ≤ k ∧ k ≤ 10 ∧ n = .int .i64 k ∧ Hid (lsz false x (10 - k) k = size false x)) (fun n => 10 - (intOf n).toNat)
  case atStart => exact ⟨1, by omega, by omega, rfl, rfl⟩
  case round =>
    obtain ⟨k, hk1, hk2, rfl, hl⟩ := hrel
    have hf := fitsU_any x k w h0 h1 hk1 hk2
    by_cases hfit : fit false x k
    · have HD := Lib.hid (digits_pos A c l x k w hc h hn h0 hk2 h1)
      have e := lsz_yes hk2 hfit hl.out
      have HS := Lib.hid (show nB false x = enc x k by unfold nB; rw [e])
      rw [decide_eq_true hfit] at hf
      have HF := Lib.hid hf
      clear hf hfit e hl h
      go_wp2_with (first | (go_at_call 92; refine HF.out.mono ?_; rintro e w' ⟨rfl, rfl⟩) | (go_at_call 93; refine HD.out.mono ?_; rintro e w' ⟨v, rfl, ho, hb⟩))
      go_ret
      exact ⟨v, rfl, by rw [HS.out]; exact ho, hb⟩
    · obtain ⟨hk3, he⟩ := lsz_no hk2 hfit hl.out
      have HS := Lib.hid he
      rw [decide_eq_false hfit] at hf
      have HF := Lib.hid hf
      clear hf hfit he hl
      go_wp2_with (go_at_call 92; refine HF.out.mono ?_; rintro e w' ⟨rfl, rfl⟩)
      go_round
      case rel => exact ⟨k + 1, by omega, hk3, by go_num, HS⟩
      case measure => simp [intOf]; omega
set_option maxHeartbeats 1000000 in
theorem refPutS_any (A : Option Addr) (c : Nat) (l : List UInt8) (x : Int) (w : World) (hc : A = none → c = 0) (h : Lies w w.heap.size A l) (hn : l.length ≤ 1099511627776) (h0 : -9223372036854775808 ≤ x) (h1 : x < 9223372036854775808) :
    Calls Tryz.prog 105 #[.slice A l.length c, .int .i64 x] w (Made w (l ++ nB true x)) := by
  go_enter Tryz.func105, Tryz.ntmps105
  go_wp2
  go_loop [5] (fun n => ∃ k : Nat, 1 ≤ k ∧ k ≤ 10 ∧ n = .int .i64 k ∧ Hid (lsz true x (10 - k) k = size true x)) (fun n => 10 - (intOf n).toNat)
  case atStart => exact ⟨1, by omega, by omega, rfl, rfl⟩
  case round =>
    obtain ⟨k, hk1, hk2, rfl, hl⟩ := hrel
    have hf := fitsS_any x k w h0 h1 hk1 hk2
    by_cases hfit : fit true x k
    · have e := lsz_yes hk2 hfit hl.out
      have HS := Lib.hid (show nB true x = enc x k by unfold nB; rw [e])
      rw [decide_eq_true hfit] at hf
      have HF := Lib.hid hf
      by_cases hneg : x < 0
      · have hdn := digits_neg A c l x k w hc h hn h0 hk2 hneg
        rw [← IntKind.wrap_u64] at hdn
        have HD := Lib.hid hdn
        clear hdn hf hfit e hl h
        go_wp2_with (first | (go_at_call 109; refine HF.out.mono ?_; rintro e w' ⟨rfl, rfl⟩) | (go_at_call 93; refine HD.out.mono ?_; rintro e w' ⟨v, rfl, ho, hb⟩))
        go_ret
        exact ⟨v, rfl, by rw [HS.out]; exact ho, hb⟩
      · have HD := Lib.hid (digits_pos A c l x k w hc h hn (by omega) hk2 (by omega))
        have bn : decide (x < 0) = false := by simp; omega
        clear hf hfit e hl h
        go_wp2_with (first | (go_at_call 109; refine HF.out.mono ?_; rintro e w' ⟨rfl, rfl⟩) | (go_at_call 93; refine HD.out.mono ?_; rintro e w' ⟨v, rfl, ho, hb⟩))
        go_ret
        exact ⟨v, rfl, by rw [HS.out]; exact ho, hb⟩
    · obtain ⟨hk3, he⟩ := lsz_no hk2 hfit hl.out
      have HS := Lib.hid he
      rw [decide_eq_false hfit] at hf
      have HF := Lib.hid hf
      clear hf hfit he hl
      go_wp2_with (go_at_call 109; refine HF.out.mono ?_; rintro e w' ⟨rfl, rfl⟩)
      go_round
      case rel => exact ⟨k + 1, by omega, hk3, by go_num, HS⟩
      case measure => simp [intOf]; omega

end Go.Proofs.YtbkfkdiadeaooaaGreat
