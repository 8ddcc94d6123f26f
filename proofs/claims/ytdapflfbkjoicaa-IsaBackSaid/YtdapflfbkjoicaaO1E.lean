/-
  Contracts of Place: the place that stands there.
-/
import Derived.Test.YtdapflfbkjoicaaO1D
import Derived.Test.YtdapflfbkjoicaaO1N
import Derived.Laws.CopyOwn
import Derived.Deep.RegionLaw
namespace Go.Proofs.Ytdapflfbkjoicaa
open Go.RowKit

def plX (l : List UInt8) (i : Int) : Int := if stV l.length i 3 = 0 then 65536 * ((l.getD i.toNat 0).toNat : Int) + 256 * ((l.getD (i.toNat + 1) 0).toNat : Int) + ((l.getD (i.toNat + 2) 0).toNat : Int) else 0
def plN (l : List UInt8) (i : Int) : Int := if stV l.length i 3 = 0 then i + 3 else 0

theorem pl_bad {l : List UInt8} {i : Int} (h : ¬ (0 ≤ i ∧ i + 3 ≤ l.length)) : stV l.length i 3 ≠ 0 := by
  unfold stV; split
  · omega
  · split <;> omega

theorem src3 {w : World} {g o k : Nat} {x0 x1 x2 : Value} (c0 : w.cell? ⟨g, o + k, none⟩ = some x0) (c1 : w.cell? ⟨g, o + (k + 1), none⟩ = some x1) (c2 : w.cell? ⟨g, o + (k + 2), none⟩ = some x2) (W : World) (hb : Below w.heap.size w W) :
    ∀ j v, [x0, x1, x2][j]? = some v → W.cell? ((⟨g, o + k, none⟩ : Addr).add j) = some v := by
  intro j v hv
  have hg : g < w.heap.size := World.block_lt_of_cell? w _ c0
  match j, hv with
  | 0, hv => simp at hv; subst hv; simpa [Addr.add] using (hb.cell (p := ⟨g, o + k, none⟩) hg).trans c0
  | 1, hv => simp at hv; subst hv; simpa [Addr.add, Nat.add_assoc] using (hb.cell (p := ⟨g, o + (k + 1), none⟩) hg).trans c1
  | 2, hv => simp at hv; subst hv; simpa [Addr.add, Nat.add_assoc] using (hb.cell (p := ⟨g, o + (k + 2), none⟩) hg).trans c2
  | j + 3, hv => simp at hv

theorem or_last (x0 x1 x2 : UInt8) (b0 : x0.toNat < 2 ^ 8) (b1 : x1.toNat < 2 ^ 8) :
    Value.int .i64 (bits .or .i64 ((256 * (x0.toNat : Int) + (x1.toNat : Int)) * 256) (x2.toNat : Int)) = .int .i64 (65536 * (x0.toNat : Int) + 256 * (x1.toNat : Int) + (x2.toNat : Int)) := by
  have h := or_byte (256 * x0.toNat + x1.toNat) x2 (by omega)
  have c : ((256 * x0.toNat + x1.toNat : Nat) : Int) = 256 * (x0.toNat : Int) + (x1.toNat : Int) := by omega
  rw [c] at h
  rw [h]
  congr 1
  omega

set_option maxHeartbeats 400000 in
theorem place_any (A : Option Addr) (c : Nat) (l : List UInt8) (i : Int) (w : World) (B : Nat) (hc : l.length ≤ c) (hn : l.length ≤ 1099511627776) (h : Lies w B A l) :
    Calls Try.prog 94 #[.slice A l.length c, .int .i64 i] w fun e w' => e = .returned (.tuple #[.int .i64 (plX l i), .int .i64 (plN l i), .int .i64 (stV l.length i 3)]) ∧ Below w.heap.size w w' := by
  by_cases hi : 0 ≤ i ∧ i + 3 ≤ l.length
  · obtain ⟨k, rfl⟩ : ∃ k : Nat, i = k := ⟨i.toNat, by omega⟩
    have hk : k + 3 ≤ l.length := by omega
    have hv : stV l.length k 3 = 0 := st_ok (by omega) (by omega) (by omega)
    have hst := stands_any A l.length c k 3 w hn (by omega)
    rw [hv] at hst
    rw [hv]
    have Hst := Lib.hid hst
    clear hst
    obtain ⟨g, o, rfl, hg, hcell⟩ := h (by omega)
    have hck : ¬ (c = k) := by omega
    have hkl : k ≤ l.length := by omega
    have c0 := hcell k (by omega)
    have c1 := hcell (k + 1) (by omega)
    have c2 := hcell (k + 2) (by omega)
    clear h hcell
    obtain ⟨x0, hx0⟩ : ∃ x, x = l[k] := ⟨_, rfl⟩
    obtain ⟨x1, hx1⟩ : ∃ x, x = l[k + 1] := ⟨_, rfl⟩
    obtain ⟨x2, hx2⟩ : ∃ x, x = l[k + 2] := ⟨_, rfl⟩
    rw [← hx0] at c0; rw [← hx1] at c1; rw [← hx2] at c2
    have hX : plX l k = 65536 * (x0.toNat : Int) + 256 * (x1.toNat : Int) + (x2.toNat : Int) := by
      subst hx0 hx1 hx2; simp [plX, hv, show k < l.length by omega, show k + 1 < l.length by omega, show k + 2 < l.length by omega]
    have hN : plN l k = (k : Int) + 3 := by simp [plN, hv]
    rw [hX, hN]
    have S := Lib.hid (src3 c0 c1 c2)
    have hlt : g < w.heap.size := World.block_lt_of_cell? w _ c0
    clear hX hN hx0 hx1 hx2 hi hv c0 c1 c2
    go_enter Try.func94, Try.ntmps94
    go_wp2_with (go_at_call 46; refine Hst.out.mono ?_; rintro e w' ⟨rfl, rfl⟩)
    go_region_law (refine step_copy_splice rfl (.tmp 16) (.tmp 19) 22 22 rfl 5 Try.underlying22 (by kernel_rfl) (some ⟨w.heap.size, 0, none⟩) (some ⟨g, o + k, none⟩) 3 3 (l.length - k) (c - k) (by simp [Act.eval, Act.put]) (by simp [Act.eval, Act.put]) w.heap.size 0 [.int .u8 0, .int .u8 0, .int .u8 0] 88 (by exact heap_alloc_new w _) [.int .u8 x0.toNat, .int .u8 x1.toNat, .int .u8 x2.toNat] (show 3 = Nat.min (l.length - k) 3 from (Nat.min_eq_right (by omega)).symm) (fun _ => ⟨rfl, _, rfl, S.out _ (((Below.refl _ _).alloc (Nat.le_refl _) _).drew)⟩) (by simp) (by simp [Value.oneCell']) w.heap.size w (((Below.refl _ _).alloc (Nat.le_refl _) _).drew) (Nat.le_refl _) ?_; intro w1 hg1 hb1)
    have d0 : w1.cell? ⟨w.heap.size, 0, none⟩ = some (.int .u8 x0.toNat) := by have := hg1.out; simp [splice] at this; simp [World.cell?, this]
    have d1 : w1.cell? ⟨w.heap.size, 1, none⟩ = some (.int .u8 x1.toNat) := by have := hg1.out; simp [splice] at this; simp [World.cell?, this]
    have d2 : w1.cell? ⟨w.heap.size, 2, none⟩ = some (.int .u8 x2.toNat) := by have := hg1.out; simp [splice] at this; simp [World.cell?, this]
    clear hg1
    have b0 := x0.toNat_lt
    have b1 := x1.toNat_lt
    have b2 := x2.toNat_lt
    go_wp2
    go_loop [4, 21] (fun n i => (n = .int .i64 0 ∧ i = .int .i64 0) ∨ (n = .int .i64 x0.toNat ∧ i = .int .i64 1) ∨ (n = .int .i64 (256 * x0.toNat + x1.toNat) ∧ i = .int .i64 2) ∨ (n = .int .i64 (65536 * x0.toNat + 256 * x1.toNat + x2.toNat) ∧ i = .int .i64 3)) (fun _ i => 3 - (intOf i).toNat)
    case atStart => exact .inl ⟨rfl, rfl⟩
    case round =>
      rcases hrel with ⟨rfl, rfl⟩ | ⟨rfl, rfl⟩ | ⟨rfl, rfl⟩ | ⟨rfl, rfl⟩
      · go_wp2
        go_round
        case rel => exact .inr (.inl ⟨by rw [or_zero], rfl⟩)
        case measure => simp [intOf]
      · go_wp2
        go_round
        case rel => exact .inr (.inr (.inl ⟨by rw [or_byte _ _ (by omega)], rfl⟩))
        case measure => simp [intOf]
      · go_wp2
        go_round
        case rel => exact .inr (.inr (.inr ⟨or_last _ _ _ b0 b1, rfl⟩))
        case measure => simp [intOf]
      · go_wp2
        go_ret3
        exact ⟨rfl, hb1⟩
  · have hv := pl_bad hi
    have hx : plX l i = 0 := by simp [plX, hv]
    have hN : plN l i = 0 := by simp [plN, hv]
    have hst := stands_any A l.length c i 3 w hn (by omega)
    rw [hx, hN]
    generalize stV l.length i 3 = v at *
    have hvb : (v != 0) = true := by simpa using hv
    have Hst := Lib.hid hst
    clear hst h hi hv hx hN
    go_enter Try.func94, Try.ntmps94
    go_wp2_with (go_at_call 46; refine Hst.out.mono ?_; rintro e w' ⟨rfl, rfl⟩)
    go_ret3
    exact ⟨rfl, Below.refl _ _⟩

set_option maxHeartbeats 400000 in
theorem refPlace_any (A : Option Addr) (c : Nat) (l : List UInt8) (i : Int) (w : World) (B : Nat) (hn : l.length ≤ 1099511627776) (h : Lies w B A l) :
    Calls Try.prog 39 #[.slice A l.length c, .int .i64 i] w fun e w' => e = .returned (.tuple #[.int .i64 (plX l i), .int .i64 (plN l i), .int .i64 (stV l.length i 3)]) ∧ Below w.heap.size w w' := by
  by_cases hi : 0 ≤ i ∧ i + 3 ≤ l.length
  · obtain ⟨k, rfl⟩ : ∃ k : Nat, i = k := ⟨i.toNat, by omega⟩
    have hk : k + 3 ≤ l.length := by omega
    have hv : stV l.length k 3 = 0 := st_ok (by omega) (by omega) (by omega)
    have hst := have_any A l.length c k 3 w hn (by omega)
    rw [hv] at hst
    rw [hv]
    have Hst := Lib.hid hst
    clear hst
    obtain ⟨g, o, rfl, hg, hcell⟩ := h (by omega)
    have c0 := hcell k (by omega)
    have c1 := hcell (k + 1) (by omega)
    have c2 := hcell (k + 2) (by omega)
    clear h hcell
    obtain ⟨x0, hx0⟩ : ∃ x, x = l[k] := ⟨_, rfl⟩
    obtain ⟨x1, hx1⟩ : ∃ x, x = l[k + 1] := ⟨_, rfl⟩
    obtain ⟨x2, hx2⟩ : ∃ x, x = l[k + 2] := ⟨_, rfl⟩
    rw [← hx0] at c0; rw [← hx1] at c1; rw [← hx2] at c2
    have hX : plX l k = 65536 * (x0.toNat : Int) + 256 * (x1.toNat : Int) + (x2.toNat : Int) := by
      subst hx0 hx1 hx2; simp [plX, hv, show k < l.length by omega, show k + 1 < l.length by omega, show k + 2 < l.length by omega]
    have hN : plN l k = (k : Int) + 3 := by simp [plN, hv]
    rw [hX, hN]
    have b0 := x0.toNat_lt
    have b1 := x1.toNat_lt
    have b2 := x2.toNat_lt
    clear hX hN hx0 hx1 hx2 hi hv
    go_enter Try.func39, Try.ntmps39
    go_wp2_with (go_at_call 47; refine Hst.out.mono ?_; rintro e w' ⟨rfl, rfl⟩)
    go_quiet (fail)
    go_wp2
    go_ret3
    exact ⟨rfl, below_draws _⟩
  · have hv := pl_bad hi
    have hx : plX l i = 0 := by simp [plX, hv]
    have hN : plN l i = 0 := by simp [plN, hv]
    have hst := have_any A l.length c i 3 w hn (by omega)
    rw [hx, hN]
    generalize stV l.length i 3 = v at *
    have hvb : (v != 0) = true := by simpa using hv
    have Hst := Lib.hid hst
    clear hst h hi hv hx hN
    go_enter Try.func39, Try.ntmps39
    go_wp2_with (go_at_call 47; refine Hst.out.mono ?_; rintro e w' ⟨rfl, rfl⟩)
    go_ret3
    exact ⟨rfl, Below.refl _ _⟩

end Go.Proofs.Ytdapflfbkjoicaa
