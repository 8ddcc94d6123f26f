/-
  Contract of PutPlace.
-/
import Derived.Test.YtdapflfbkjoicaaO1K
namespace Go.Proofs.Ytdapflfbkjoicaa
open Go.RowKit

def PutR (w : World) (l : List UInt8) (er : Int) (e : Ending) (w' : World) : Prop :=
  ∃ v, e = .returned (.tuple #[v, .int .i64 er]) ∧ Own w' w.heap.size v l ∧ Below w.heap.size w w'

def plB (n : Nat) : List UInt8 := [UInt8.ofNat (n / 65536), UInt8.ofNat (n / 256 % 256), UInt8.ofNat (n % 256)]
def ppE (n : Int) : Int := if 0 ≤ n ∧ n < 16777216 then 0 else 1
def ppL (l : List UInt8) (n : Int) : List UInt8 := if 0 ≤ n ∧ n < 16777216 then l ++ plB n.toNat else []

theorem pp_bad {l : List UInt8} {n : Int} (h : ¬ (0 ≤ n ∧ n < 16777216)) : ppE n = 1 ∧ ppL l n = [] := by simp [ppE, ppL, h]
theorem pp_good {l : List UInt8} {n : Nat} (h : n < 16777216) : ppE n = 0 ∧ ppL l n = l ++ plB n := by simp [ppE, ppL]; omega

theorem plB_val (k : Nat) (hk : k < 16777216) : (plB k).map b8 = [.int .u8 ((k : Int) / 65536), .int .u8 ((k : Int) / 256 % 256), .int .u8 ((k : Int) % 256)] := by
  have h0 : (UInt8.ofNat (k / 65536)).toNat = k / 65536 := by simp; omega
  have h1 : (UInt8.ofNat (k / 256 % 256)).toNat = k / 256 % 256 := by simp
  have h2 : (UInt8.ofNat (k % 256)).toNat = k % 256 := by simp
  simp only [plB, List.map_cons, List.map_nil, b8, h0, h1, h2]
  simp

theorem plB_lies (w : World) (k : Nat) (hk : k < 16777216) : Lies (w.alloc (.cells #[.int .u8 ((k : Int) / 65536), .int .u8 ((k : Int) / 256 % 256), .int .u8 ((k : Int) % 256)] 88))
    (w.alloc (.cells #[.int .u8 ((k : Int) / 65536), .int .u8 ((k : Int) / 256 % 256), .int .u8 ((k : Int) % 256)] 88)).heap.size (some ⟨w.heap.size, 0, none⟩) (plB k) :=
  lies_lit w 88 (plB k) _ (by rw [plB_val k hk])

set_option maxHeartbeats 400000 in
theorem putPlace_any (A : Option Addr) (c : Nat) (l : List UInt8) (n : Int) (w : World) (hc : A = none → c = 0) (h : Lies w w.heap.size A l) (hn : l.length ≤ 1099511627776) :
    Calls Try.prog 92 #[.slice A l.length c, .int .i64 n] w (PutR w (ppL l n) (ppE n)) := by
  by_cases hi : 0 ≤ n ∧ n < 16777216
  · obtain ⟨k, rfl⟩ : ∃ k : Nat, n = k := ⟨n.toNat, by omega⟩
    have hk : k < 16777216 := by omega
    rw [(pp_good (l := l) hk).1, (pp_good (l := l) hk).2]
    have HC := Lib.hid hc
    have t1 : decide ((k : Int) < 0) = false := by simp
    have t2 : decide ((16777216 : Int) ≤ (k : Int)) = false := by simp; omega
    clear hc hi
    go_enter Try.func92, Try.ntmps92
    go_wp2
    go_loopw [14] (fun i wr => (i = .int .i64 0 ∧ wr = w.alloc (.cells #[.int .u8 0, .int .u8 0, .int .u8 0] 88)) ∨ (i = .int .i64 1 ∧ wr = w.alloc (.cells #[.int .u8 0, .int .u8 0, .int .u8 (k % 256)] 88)) ∨
        (i = .int .i64 2 ∧ wr = w.alloc (.cells #[.int .u8 0, .int .u8 (k / 256 % 256), .int .u8 (k % 256)] 88)) ∨ (i = .int .i64 3 ∧ wr = w.alloc (.cells #[.int .u8 (k / 65536), .int .u8 (k / 256 % 256), .int .u8 (k % 256)] 88))) (fun i _ => 3 - (intOf i).toNat)
    case atStart => exact .inl ⟨rfl, rfl⟩
    case round =>
      rcases hrel with ⟨rfl, rfl⟩ | ⟨rfl, rfl⟩ | ⟨rfl, rfl⟩ | ⟨rfl, rfl⟩
      · go_wp2
        go_roundw
        case rel => exact .inr (.inl ⟨rfl, trivial⟩)
        case measure => simp [intOf]
      · go_wp2
        go_roundw
        case rel => exact .inr (.inr (.inl ⟨rfl, trivial⟩))
        case measure => simp [intOf]
      · go_wp2
        go_roundw
        case rel => exact .inr (.inr (.inr ⟨rfl, trivial⟩))
        case measure => simp [intOf]
      · have hb := behind_any A (some ⟨w.heap.size, 0, none⟩) c 3 l (plB k) _ HC.out (by simp) ((h.alloc (Nat.le_refl _) _).more (by simp)) (plB_lies w k hk) (by omega) (by simp [plB])
        have HB := Lib.hid hb
        clear hb
        go_wp2_with (go_at_call 103; refine HB.out.mono ?_; rintro e w' ⟨v, rfl, ho, hb, hcp⟩; clear hcp)
        go_ret2
        exact ⟨v, rfl, ho.base (by simp), ((Below.refl _ _).alloc (Nat.le_refl _) _).trans (hb.mono (by simp))⟩
  · rw [(pp_bad (l := l) hi).1, (pp_bad (l := l) hi).2]
    by_cases h1 : 0 ≤ n
    · have h2 : ¬ n < 16777216 := by omega
      clear hi
      go_enter Try.func92, Try.ntmps92
      go_wp2
      go_ret2
      exact ⟨_, rfl, Own.nil _ _, Below.refl _ _⟩
    · clear hi
      go_enter Try.func92, Try.ntmps92
      go_wp2
      go_ret2
      exact ⟨_, rfl, Own.nil _ _, Below.refl _ _⟩

end Go.Proofs.Ytdapflfbkjoicaa
