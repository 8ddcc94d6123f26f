/-
  Contract of the document's Text: the text that stands there.
-/
import Derived.Test.YtjgjikeanmdhkaaF
namespace Go.Proofs.Ytjgjikeanmdhkaa
open Go.RowKit

theorem str_size (l : List UInt8) : (str l).size = l.length := by simp [str, ByteArray.size]

theorem str_add (w : World) (x y : List UInt8) (h : x.length + y.length ≤ 70000) : (Op.stringOp .add (str x) (str y)).run Try.prog w = .ok (.string (str (x ++ y))) w := by
  rw [run_string_add_sum _ _ _ (by rw [str_size, str_size]; omega), str_append]

set_option maxHeartbeats 400000 in
theorem refText_any (A : Option Addr) (c : Nat) (l : List UInt8) (i : Int) (w : World) (B : Nat) (hc : l.length ≤ c) (hn : l.length ≤ 65600) (h : Lies w B A l) :
    Calls Try.prog 18 #[.slice A l.length c, .int .i64 i] w fun e w' => e = .returned (.tuple #[.string (str (txS l i)), .int .i64 (txN l i), .int .i64 (txE l i)]) ∧ w = w' := by
  have h1 := refOne_any A c l i w B hn h
  by_cases hi : 0 ≤ i ∧ i < l.length
  · obtain ⟨k, rfl⟩ : ∃ k : Nat, i = k := ⟨i.toNat, by omega⟩
    have hk : k < l.length := by omega
    have hv : stV l.length k 1 = 0 := st_ok (by omega) (by omega) (by omega)
    have hs : szT l k = l[k].toNat := by simp [szT, hk]
    have hX : oneX l k = (szT l k : Int) := by simp [oneX, hv, szT]
    have hN1 : oneN l k = (k : Int) + 1 := by simp [oneN, hv]
    have hE : txE l k = stV l.length ((k : Int) + 1) (szT l k) := by simp [txE, hv]
    have hsz : szT l k < 256 := by rw [hs]; exact l[k].toNat_lt
    rw [hv, hX, hN1] at h1
    have h2 := have_any A l.length c ((k : Int) + 1) (szT l k) w hn (by omega)
    by_cases hm : k + 1 + szT l k ≤ l.length
    · have h0 : stV l.length ((k : Int) + 1) (szT l k) = 0 := st_ok (by omega) (by omega) (by omega)
      have hS : txS l k = (l.drop (k + 1)).take (szT l k) := by simp [txS, hE, h0]
      have hN : txN l k = (k : Int) + 1 + szT l k := by simp [txN, hE, h0]
      rw [hS, hN, hE, h0]
      rw [h0] at h2
      obtain ⟨g, o, rfl, hg, hcell⟩ := h (by omega)
      clear hS hN hE h0 hX hN1 hv hs hi
      generalize szT l k = m at *
      have hlen : ((l.drop (k + 1)).take m).length = m := by simp; omega
      have hget : ∀ j (hj : j < ((l.drop (k + 1)).take m).length), w.cell? ⟨g, o + (k + 1) + j, none⟩ = some (.int .u8 (((l.drop (k + 1)).take m)[j].toNat : Int)) := by
        intro j hj
        have := hcell (k + 1 + j) (by omega)
        simpa [Nat.add_assoc] using this
      obtain ⟨T, hT⟩ : ∃ T, T = (l.drop (k + 1)).take m := ⟨_, rfl⟩
      rw [← hT] at hget hlen ⊢
      have H1 := Lib.hid h1
      have H2 := Lib.hid h2
      have HT := Lib.hid hT
      have HG := Lib.hid hget
      have HL := Lib.hid hlen
      have hml : k + 1 + m ≤ c := by omega
      clear hcell h1 h2 h hT hlen hget
      go_enter Try.func18, Try.ntmps18
      go_wp2_with (first | (go_at_call 14; refine H1.out.mono ?_; rintro e w' ⟨rfl, rfl⟩) | (go_at_call 28; refine H2.out.mono ?_; rintro e w' ⟨rfl, rfl⟩))
      go_loop [10, 11] (fun s i => ∃ q : Nat, q ≤ m ∧ i = .int .i64 q ∧ s = .string (str (T.take q))) (fun _ i => m - (intOf i).toNat)
      case atStart => exact ⟨0, by omega, rfl, rfl⟩
      case round =>
        obtain ⟨q, hq, rfl, rfl⟩ := hrel
        by_cases hlt : q < m
        · have hql : q < T.length := by have := HL.out; omega
          obtain ⟨x, hx⟩ : ∃ x, x = T[q] := ⟨_, rfl⟩
          have hcv := conv_any w (some ⟨g, o + (k + 1 + q), none⟩) [x] (c - (k + 1 + q)) (fun j hj => ⟨_, rfl, by
            obtain rfl : j = 0 := by simpa using hj
            have := HG.out q hql
            simpa [Addr.add, hx, Nat.add_assoc] using this⟩)
          simp only [List.length_cons, List.length_nil] at hcv
          have hadd := str_add w (T.take q) [x] (by simp; omega)
          have hst : T.take q ++ [x] = T.take (q + 1) := by rw [hx]; simp
          rw [hst] at hadd
          have hck : ¬ (c = k + 1 + q) := by omega
          have hc1 : k + 1 + q + 1 ≤ c := by omega
          clear hst hx
          go_wp2
          go_round
          case rel => exact ⟨q + 1, by omega, by go_num, rfl⟩
          case measure => simp [intOf]; omega
        · obtain rfl : q = m := by omega
          have hst : T.take q = T := by rw [List.take_of_length_le]; have := HL.out; omega
          rw [hst]
          clear hst
          go_wp2
          go_ret3
          exact ⟨rfl, rfl⟩
    · have h0 : stV l.length ((k : Int) + 1) (szT l k) = 5 := st_form (by omega) (by omega) (by omega)
      have hS : txS l k = [] := by simp [txS, hE, h0]
      have hN : txN l k = 0 := by simp [txN, hE, h0]
      rw [hS, hN, hE, h0]
      rw [h0] at h2
      clear hS hN hE h0 hX hN1 hv hs hi h
      generalize szT l k = m at *
      have H1 := Lib.hid h1
      have H2 := Lib.hid h2
      clear h1 h2
      go_enter Try.func18, Try.ntmps18
      go_wp2_with (first | (go_at_call 14; refine H1.out.mono ?_; rintro e w' ⟨rfl, rfl⟩) | (go_at_call 28; refine H2.out.mono ?_; rintro e w' ⟨rfl, rfl⟩))
      go_ret3
      exact ⟨rfl, rfl⟩
  · have hv := one_bad hi
    have hE : txE l i = stV l.length i 1 := by simp [txE, hv]
    have hS : txS l i = [] := by simp [txS, hE, hv]
    have hN : txN l i = 0 := by simp [txN, hE, hv]
    have hX : oneX l i = 0 := by simp [oneX, hv]
    have hN1 : oneN l i = 0 := by simp [oneN, hv]
    rw [hE, hS, hN]
    rw [hX, hN1] at h1
    generalize stV l.length i 1 = v at *
    have hvb : (v != 0) = true := by simpa using hv
    have H1 := Lib.hid h1
    clear h1 h hi hv hE hS hN hX hN1
    go_enter Try.func18, Try.ntmps18
    go_wp2_with (go_at_call 14; refine H1.out.mono ?_; rintro e w' ⟨rfl, rfl⟩)
    go_ret3
    exact ⟨rfl, rfl⟩

end Go.Proofs.Ytjgjikeanmdhkaa
