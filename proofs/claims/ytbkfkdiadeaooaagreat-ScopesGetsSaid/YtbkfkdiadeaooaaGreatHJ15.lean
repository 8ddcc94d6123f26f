/-
  Merged for a claim: O1C, O1D, O1N, O1E, O1F.
-/
import Derived.Test.YtbkfkdiadeaooaaGreatHJ13
import Derived.Below
import Derived.Laws.OwnMore
import Derived.Deep.AppendLies
import Derived.Deep.Draws
import Derived.Deep.QuietTactic
import Derived.BigQuiet
import Derived.RegionTactic
import Derived.Test.YtbkfkdiadeaooaaGreatHJ0
import Derived.Laws.BitsAllLaws
import Derived.Laws.BitsLemmas
import Derived.Laws.CopyOwn
import Derived.Deep.RegionLaw
import Derived.Test.YtbkfkdiadeaooaaGreatHJ1
namespace Go.Proofs.YtbkfkdiadeaooaaGreat
open Go.RowKit

/-- what is told of so many bytes from a place on: 1, 5, or 0 -/
def stV (n : Nat) (i s : Int) : Int := if i < 0 ∨ (n : Int) < i then 1 else if (n : Int) - i < s then 5 else 0

theorem st_arg {n : Nat} {i s : Int} (h : i < 0 ∨ (n : Int) < i) : stV n i s = 1 := by simp [stV, h]
theorem st_form {n : Nat} {i s : Int} (h0 : 0 ≤ i) (h1 : i ≤ n) (h : (n : Int) - i < s) : stV n i s = 5 := by
  unfold stV; rw [if_neg (by omega), if_pos h]
theorem st_ok {n : Nat} {i s : Int} (h0 : 0 ≤ i) (h1 : i ≤ n) (h : s ≤ (n : Int) - i) : stV n i s = 0 := by
  unfold stV; rw [if_neg (by omega), if_neg (by omega)]

set_option maxHeartbeats 400000 in
theorem stands_any (A : Option Addr) (n c : Nat) (i s : Int) (w : World) (hn : n ≤ 1099511627776) (_ : 0 ≤ s) :
    Calls Tryz.prog 86 #[.slice A n c, .int .i64 i, .int .i64 s] w fun e w' => e = .returned (.int .i64 (stV n i s)) ∧ w = w' := by
  by_cases h1 : i < 0
  · rw [st_arg (.inl h1)]
    go_enter Tryz.func86, Tryz.ntmps86
    go_wp2
    go_ret
    exact ⟨rfl, rfl⟩
  by_cases h2 : (n : Int) < i
  · rw [st_arg (.inr h2)]
    go_enter Tryz.func86, Tryz.ntmps86
    go_wp2
    go_ret
    exact ⟨rfl, rfl⟩
  by_cases h3 : (n : Int) - i < s
  · rw [st_form (by omega) (by omega) h3]
    go_enter Tryz.func86, Tryz.ntmps86
    go_wp2
    go_ret
    exact ⟨rfl, rfl⟩
  · rw [st_ok (by omega) (by omega) (by omega)]
    go_enter Tryz.func86, Tryz.ntmps86
    go_wp2
    go_ret
    exact ⟨rfl, rfl⟩

set_option maxHeartbeats 400000 in
theorem have_any (A : Option Addr) (n c : Nat) (i s : Int) (w : World) (hn : n ≤ 1099511627776) (_ : 0 ≤ s) :
    Calls Tryz.prog 75 #[.slice A n c, .int .i64 i, .int .i64 s] w fun e w' => e = .returned (.int .i64 (stV n i s)) ∧ w = w' := by
  by_cases h1 : i < 0
  · rw [st_arg (.inl h1)]
    go_enter Tryz.func75, Tryz.ntmps75
    go_wp2
    go_ret
    exact ⟨rfl, rfl⟩
  by_cases h2 : (n : Int) < i
  · rw [st_arg (.inr h2)]
    go_enter Tryz.func75, Tryz.ntmps75
    go_wp2
    go_ret
    exact ⟨rfl, rfl⟩
  by_cases h3 : (n : Int) - i < s
  · rw [st_form (by omega) (by omega) h3]
    go_enter Tryz.func75, Tryz.ntmps75
    go_wp2
    go_ret
    exact ⟨rfl, rfl⟩
  · rw [st_ok (by omega) (by omega) (by omega)]
    go_enter Tryz.func75, Tryz.ntmps75
    go_wp2
    go_ret
    exact ⟨rfl, rfl⟩

end Go.Proofs.YtbkfkdiadeaooaaGreat

namespace Go.Proofs.YtbkfkdiadeaooaaGreat
open Go.RowKit

/-- what One answers: the byte, the place behind it, the error -/
def oneX (l : List UInt8) (i : Int) : Int := if stV l.length i 1 = 0 then ((l.getD i.toNat 0).toNat : Int) else 0
def oneN (l : List UInt8) (i : Int) : Int := if stV l.length i 1 = 0 then i + 1 else 0

theorem one_bad {l : List UInt8} {i : Int} (h : ¬ (0 ≤ i ∧ i < l.length)) : stV l.length i 1 ≠ 0 := by
  unfold stV; split
  · omega
  · split <;> omega

set_option maxHeartbeats 400000 in
theorem one_any (A : Option Addr) (c : Nat) (l : List UInt8) (i : Int) (w : World) (B : Nat) (hn : l.length ≤ 1099511627776) (h : Lies w B A l) :
    Calls Tryz.prog 61 #[.slice A l.length c, .int .i64 i] w fun e w' => e = .returned (.tuple #[.int .u8 (oneX l i), .int .i64 (oneN l i), .int .i64 (stV l.length i 1)]) ∧ w = w' := by
  by_cases hi : 0 ≤ i ∧ i < l.length
  · obtain ⟨k, rfl⟩ : ∃ k : Nat, i = k := ⟨i.toNat, by omega⟩
    have hk : k < l.length := by omega
    have hv : stV l.length k 1 = 0 := st_ok (by omega) (by omega) (by omega)
    have hx : oneX l k = (l[k].toNat : Int) := by simp [oneX, hv, hk]
    have hN : oneN l k = (k : Int) + 1 := by simp [oneN, hv]
    have hst := stands_any A l.length c k 1 w hn (by omega)
    rw [hv] at hst
    rw [hv, hx, hN]
    obtain ⟨g, o, rfl, _, hc⟩ := h.at_ hk
    clear h hi hv hx hN
    have Hst := Lib.hid hst
    clear hst
    go_enter Tryz.func61, Tryz.ntmps61
    go_wp2_with (go_at_call 86; refine Hst.out.mono ?_; rintro e w' ⟨rfl, rfl⟩)
    go_ret3
    exact ⟨rfl, rfl⟩
  · have hv := one_bad hi
    have hx : oneX l i = 0 := by simp [oneX, hv]
    have hN : oneN l i = 0 := by simp [oneN, hv]
    have hst := stands_any A l.length c i 1 w hn (by omega)
    rw [hx, hN]
    generalize stV l.length i 1 = v at *
    have hvb : (v != 0) = true := by simpa using hv
    have Hst := Lib.hid hst
    clear hst h hi hv hx hN
    go_enter Tryz.func61, Tryz.ntmps61
    go_wp2_with (go_at_call 86; refine Hst.out.mono ?_; rintro e w' ⟨rfl, rfl⟩)
    go_ret3
    exact ⟨rfl, rfl⟩

set_option maxHeartbeats 400000 in
theorem refOne_any (A : Option Addr) (c : Nat) (l : List UInt8) (i : Int) (w : World) (B : Nat) (hn : l.length ≤ 1099511627776) (h : Lies w B A l) :
    Calls Tryz.prog 74 #[.slice A l.length c, .int .i64 i] w fun e w' => e = .returned (.tuple #[.int .u8 (oneX l i), .int .i64 (oneN l i), .int .i64 (stV l.length i 1)]) ∧ w = w' := by
  by_cases hi : 0 ≤ i ∧ i < l.length
  · obtain ⟨k, rfl⟩ : ∃ k : Nat, i = k := ⟨i.toNat, by omega⟩
    have hk : k < l.length := by omega
    have hv : stV l.length k 1 = 0 := st_ok (by omega) (by omega) (by omega)
    have hx : oneX l k = (l[k].toNat : Int) := by simp [oneX, hv, hk]
    have hN : oneN l k = (k : Int) + 1 := by simp [oneN, hv]
    have hst := have_any A l.length c k 1 w hn (by omega)
    rw [hv] at hst
    rw [hv, hx, hN]
    obtain ⟨g, o, rfl, _, hc⟩ := h.at_ hk
    clear h hi hv hx hN
    have Hst := Lib.hid hst
    clear hst
    go_enter Tryz.func74, Tryz.ntmps74
    go_wp2_with (go_at_call 75; refine Hst.out.mono ?_; rintro e w' ⟨rfl, rfl⟩)
    go_ret3
    exact ⟨rfl, rfl⟩
  · have hv := one_bad hi
    have hx : oneX l i = 0 := by simp [oneX, hv]
    have hN : oneN l i = 0 := by simp [oneN, hv]
    have hst := have_any A l.length c i 1 w hn (by omega)
    rw [hx, hN]
    generalize stV l.length i 1 = v at *
    have hvb : (v != 0) = true := by simpa using hv
    have Hst := Lib.hid hst
    clear hst h hi hv hx hN
    go_enter Tryz.func74, Tryz.ntmps74
    go_wp2_with (go_at_call 75; refine Hst.out.mono ?_; rintro e w' ⟨rfl, rfl⟩)
    go_ret3
    exact ⟨rfl, rfl⟩

end Go.Proofs.YtbkfkdiadeaooaaGreat

namespace Go.Proofs.YtbkfkdiadeaooaaGreat

end Go.Proofs.YtbkfkdiadeaooaaGreat

namespace Go.Proofs.YtbkfkdiadeaooaaGreat
open Go.RowKit

end Go.Proofs.YtbkfkdiadeaooaaGreat

namespace Go.Proofs.YtbkfkdiadeaooaaGreat
open Go.RowKit

def szT (l : List UInt8) (i : Int) : Nat := (l.getD i.toNat 0).toNat
def txE (l : List UInt8) (i : Int) : Int := if stV l.length i 1 = 0 then stV l.length (i + 1) (szT l i) else stV l.length i 1
def txS (l : List UInt8) (i : Int) : List UInt8 := if txE l i = 0 then (l.drop (i.toNat + 1)).take (szT l i) else []
def txN (l : List UInt8) (i : Int) : Int := if txE l i = 0 then i + 1 + szT l i else 0

set_option maxHeartbeats 400000 in
theorem text_any (A : Option Addr) (c : Nat) (l : List UInt8) (i : Int) (w : World) (B : Nat) (hc : l.length ≤ c) (hn : l.length ≤ 1099511627776) (h : Lies w B A l) :
    Calls Tryz.prog 59 #[.slice A l.length c, .int .i64 i] w fun e w' => e = .returned (.tuple #[.string (str (txS l i)), .int .i64 (txN l i), .int .i64 (txE l i)]) ∧ w = w' := by
  have h1 := one_any A c l i w B hn h
  by_cases hi : 0 ≤ i ∧ i < l.length
  · obtain ⟨k, rfl⟩ : ∃ k : Nat, i = k := ⟨i.toNat, by omega⟩
    have hk : k < l.length := by omega
    have hv : stV l.length k 1 = 0 := st_ok (by omega) (by omega) (by omega)
    have hs : szT l k = l[k].toNat := by simp [szT, hk]
    have hX : oneX l k = (szT l k : Int) := by simp [oneX, hv, szT]
    have hN1 : oneN l k = (k : Int) + 1 := by simp [oneN, hv]
    have hE : txE l k = stV l.length ((k : Int) + 1) (szT l k) := by simp [txE, hv]
    have hsz : szT l k < 256 := by rw [hs]; exact l[k].toNat_lt
    rw [hv, hX, hN1] at h1
    have h2 := stands_any A l.length c ((k : Int) + 1) (szT l k) w hn (by omega)
    by_cases hm : k + 1 + szT l k ≤ l.length
    · have h0 : stV l.length ((k : Int) + 1) (szT l k) = 0 := st_ok (by omega) (by omega) (by omega)
      have hS : txS l k = (l.drop (k + 1)).take (szT l k) := by simp [txS, hE, h0]
      have hN : txN l k = (k : Int) + 1 + szT l k := by simp [txN, hE, h0]
      rw [hS, hN, hE, h0]
      rw [h0] at h2
      obtain ⟨g, o, rfl, hg, hcell⟩ := h (by omega)
      clear hS hN hE h0 hX hN1 hv hs hi
      generalize szT l k = m at *
      have hlen : ((l.drop (k + 1)).take m).length = m := by simp; omega
      have hget : ∀ j (hj : j < ((l.drop (k + 1)).take m).length), w.cell? ⟨g, o + (k + 1) + j, none⟩ = some (.int .u8 (((l.drop (k + 1)).take m)[j].toNat : Int)) := by
        intro j hj
        have := hcell (k + 1 + j) (by omega)
        simpa [Nat.add_assoc] using this
      obtain ⟨T, hT⟩ : ∃ T, T = (l.drop (k + 1)).take m := ⟨_, rfl⟩
      rw [← hT] at hget hlen ⊢
      have hcv1 := fun d => conv_any w (some ⟨g, o + (k + 1), none⟩) T d (fun j hj => ⟨_, rfl, by rw [add_zero_off]; exact hget j hj⟩)
      rw [hlen] at hcv1
      have hcv := hcv1 (c - (k + 1))
      have hkl : k + 1 ≤ k + 1 + m := by omega
      have hml : k + 1 + m ≤ c := by omega
      have hr : k + 1 + m - (k + 1) = m := by omega
      have H1 := Lib.hid h1
      have H2 := Lib.hid h2
      clear hget hcell h1 h2 h
      by_cases hck : c = k + 1
      · obtain rfl : m = 0 := by omega
        obtain rfl : T = [] := List.eq_nil_of_length_eq_zero hlen
        have hcv0 := conv_any w (some ⟨g, o, none⟩) [] 0 (fun j hj => by simp at hj)
        simp only [List.length_nil] at hcv0
        clear hcv1 hcv hlen hT
        subst hck
        go_enter Tryz.func59, Tryz.ntmps59
        go_wp2_with (first | (go_at_call 61; refine H1.out.mono ?_; rintro e w' ⟨rfl, rfl⟩) | (go_at_call 86; refine H2.out.mono ?_; rintro e w' ⟨rfl, rfl⟩))
        go_ret3
        exact ⟨rfl, rfl⟩
      · clear hcv1 hlen hT
        go_enter Tryz.func59, Tryz.ntmps59
        go_wp2_with (first | (go_at_call 61; refine H1.out.mono ?_; rintro e w' ⟨rfl, rfl⟩) | (go_at_call 86; refine H2.out.mono ?_; rintro e w' ⟨rfl, rfl⟩))
        go_ret3
        exact ⟨rfl, rfl⟩
    · have h0 : stV l.length ((k : Int) + 1) (szT l k) = 5 := st_form (by omega) (by omega) (by omega)
      have hS : txS l k = [] := by simp [txS, hE, h0]
      have hN : txN l k = 0 := by simp [txN, hE, h0]
      rw [hS, hN, hE, h0]
      rw [h0] at h2
      clear hS hN hE h0 hX hN1 hv hs hi h
      generalize szT l k = m at *
      have H1 := Lib.hid h1
      have H2 := Lib.hid h2
      clear h1 h2
      go_enter Tryz.func59, Tryz.ntmps59
      go_wp2_with (first | (go_at_call 61; refine H1.out.mono ?_; rintro e w' ⟨rfl, rfl⟩) | (go_at_call 86; refine H2.out.mono ?_; rintro e w' ⟨rfl, rfl⟩))
      go_ret3
      exact ⟨rfl, rfl⟩
  · have hv := one_bad hi
    have hE : txE l i = stV l.length i 1 := by simp [txE, hv]
    have hS : txS l i = [] := by simp [txS, hE, hv]
    have hN : txN l i = 0 := by simp [txN, hE, hv]
    have hX : oneX l i = 0 := by simp [oneX, hv]
    have hN1 : oneN l i = 0 := by simp [oneN, hv]
    rw [hE, hS, hN]
    rw [hX, hN1] at h1
    generalize stV l.length i 1 = v at *
    have hvb : (v != 0) = true := by simpa using hv
    have H1 := Lib.hid h1
    clear h1 h hi hv hE hS hN hX hN1
    go_enter Tryz.func59, Tryz.ntmps59
    go_wp2_with (go_at_call 61; refine H1.out.mono ?_; rintro e w' ⟨rfl, rfl⟩)
    go_ret3
    exact ⟨rfl, rfl⟩

end Go.Proofs.YtbkfkdiadeaooaaGreat
