/-
  Merged for a claim: O1E, O1F.
-/
import Derived.Test.YtjagjkogloggpaaGreatHJ16
import Derived.Laws.CopyOwn
import Derived.Deep.RegionLaw
import Derived.Test.YtjagjkogloggpaaGreatHJ0
import Derived.Test.YtjagjkogloggpaaGreatHJ1
namespace Go.Proofs.YtjagjkogloggpaaGreat
open Go.RowKit

def plX (l : List UInt8) (i : Int) : Int := if stV l.length i 3 = 0 then 65536 * ((l.getD i.toNat 0).toNat : Int) + 256 * ((l.getD (i.toNat + 1) 0).toNat : Int) + ((l.getD (i.toNat + 2) 0).toNat : Int) else 0
def plN (l : List UInt8) (i : Int) : Int := if stV l.length i 3 = 0 then i + 3 else 0

theorem pl_bad {l : List UInt8} {i : Int} (h : ¬ (0 ≤ i ∧ i + 3 ≤ l.length)) : stV l.length i 3 ≠ 0 := by
  unfold stV; split
  · omega
  · split <;> omega

theorem src3 {w : World} {g o k : Nat} {x0 x1 x2 : Value} (c0 : w.cell? ⟨g, o + k, none⟩ = some x0) (c1 : w.cell? ⟨g, o + (k + 1), none⟩ = some x1) (c2 : w.cell? ⟨g, o + (k + 2), none⟩ = some x2) (W : World) (hb : Below w.heap.size w W) :
    ∀ j v, [x0, x1, x2][j]? = some v → W.cell? ((⟨g, o + k, none⟩ : Addr).add j) = some v := by
  intro j v hv
  have hg : g < w.heap.size := World.block_lt_of_cell? w _ c0
  match j, hv with
  | 0, hv => simp at hv; subst hv; simpa [Addr.add] using (hb.cell (p := ⟨g, o + k, none⟩) hg).trans c0
  | 1, hv => simp at hv; subst hv; simpa [Addr.add, Nat.add_assoc] using (hb.cell (p := ⟨g, o + (k + 1), none⟩) hg).trans c1
  | 2, hv => simp at hv; subst hv; simpa [Addr.add, Nat.add_assoc] using (hb.cell (p := ⟨g, o + (k + 2), none⟩) hg).trans c2
  | j + 3, hv => simp at hv

theorem or_last (x0 x1 x2 : UInt8) (b0 : x0.toNat < 2 ^ 8) (b1 : x1.toNat < 2 ^ 8) :
    Value.int .i64 (bits .or .i64 ((256 * (x0.toNat : Int) + (x1.toNat : Int)) * 256) (x2.toNat : Int)) = .int .i64 (65536 * (x0.toNat : Int) + 256 * (x1.toNat : Int) + (x2.toNat : Int)) := by
  have h := or_byte (256 * x0.toNat + x1.toNat) x2 (by omega)
  have c : ((256 * x0.toNat + x1.toNat : Nat) : Int) = 256 * (x0.toNat : Int) + (x1.toNat : Int) := by omega
  rw [c] at h
  rw [h]
  congr 1
  omega

set_option maxHeartbeats 400000 in
theorem place_any (A : Option Addr) (c : Nat) (l : List UInt8) (i : Int) (w : World) (B : Nat) (hc : l.length ≤ c) (hn : l.length ≤ 1099511627776) (h : Lies w B A l) :
    Calls Tryz.prog 253 #[.slice A l.length c, .int .i64 i] w fun e w' => e = .returned (.tuple #[.int .i64 (plX l i), .int .i64 (plN l i), .int .i64 (stV l.length i 3)]) ∧ Below w.heap.size w w' := by
  by_cases hi : 0 ≤ i ∧ i + 3 ≤ l.length
  · obtain ⟨k, rfl⟩ : ∃ k : Nat, i = k := ⟨i.toNat, by omega⟩
    have hk : k + 3 ≤ l.length := by omega
    have hv : stV l.length k 3 = 0 := st_ok (by omega) (by omega) (by omega)
    have hst := stands_any A l.length c k 3 w hn (by omega)
    rw [hv] at hst
    rw [hv]
    have Hst := Lib.hid hst
    clear hst
    obtain ⟨g, o, rfl, hg, hcell⟩ := h (by omega)
    have hck : ¬ (c = k) := by omega
    have hkl : k ≤ l.length := by omega
    have c0 := hcell k (by omega)
    have c1 := hcell (k + 1) (by omega)
    have c2 := hcell (k + 2) (by omega)
    clear h hcell
    obtain ⟨x0, hx0⟩ : ∃ x, x = l[k] := ⟨_, rfl⟩
    obtain ⟨x1, hx1⟩ : ∃ x, x = l[k + 1] := ⟨_, rfl⟩
    obtain ⟨x2, hx2⟩ : ∃ x, x = l[k + 2] := ⟨_, rfl⟩
    rw [← hx0] at c0; rw [← hx1] at c1; rw [← hx2] at c2
    have hX : plX l k = 65536 * (x0.toNat : Int) + 256 * (x1.toNat : Int) + (x2.toNat : Int) := by
      subst hx0 hx1 hx2; simp [plX, hv, show k < l.length by omega, show k + 1 < l.length by omega, show k + 2 < l.length by omega]
    have hN : plN l k = (k : Int) + 3 := by simp [plN, hv]
    rw [hX, hN]
    have S := Lib.hid (src3 c0 c1 c2)
    have hlt : g < w.heap.size := World.block_lt_of_cell? w _ c0
    clear hX hN hx0 hx1 hx2 hi hv c0 c1 c2
    go_enter Tryz.func253, Tryz.ntmps253
    go_wp2_with (go_at_call 191; refine Hst.out.mono ?_; rintro e w' ⟨rfl, rfl⟩)
    go_region_law (refine step_copy_splice rfl (.tmp 16) (.tmp 19) 22 22 rfl 5 Tryz.underlying22 (by kernel_rfl) (some ⟨w.heap.size, 0, none⟩) (some ⟨g, o + k, none⟩) 3 3 (l.length - k) (c - k) (by simp [Act.eval, Act.put]) (by simp [Act.eval, Act.put]) w.heap.size 0 [.int .u8 0, .int .u8 0, .int .u8 0] 266 (by exact heap_alloc_new w _) [.int .u8 x0.toNat, .int .u8 x1.toNat, .int .u8 x2.toNat] (show 3 = Nat.min (l.length - k) 3 from (Nat.min_eq_right (by omega)).symm) (fun _ => ⟨rfl, _, rfl, S.out _ (((Below.refl _ _).alloc (Nat.le_refl _) _).drew)⟩) (by simp) (by simp [Value.oneCell']) w.heap.size w (((Below.refl _ _).alloc (Nat.le_refl _) _).drew) (Nat.le_refl _) ?_; intro w1 hg1 hb1)
    have d0 : w1.cell? ⟨w.heap.size, 0, none⟩ = some (.int .u8 x0.toNat) := by have := hg1.out; simp [splice] at this; simp [World.cell?, this]
    have d1 : w1.cell? ⟨w.heap.size, 1, none⟩ = some (.int .u8 x1.toNat) := by have := hg1.out; simp [splice] at this; simp [World.cell?, this]
    have d2 : w1.cell? ⟨w.heap.size, 2, none⟩ = some (.int .u8 x2.toNat) := by have := hg1.out; simp [splice] at this; simp [World.cell?, this]
    clear hg1
    have b0 := x0.toNat_lt
    have b1 := x1.toNat_lt
    have b2 := x2.toNat_lt
    go_wp2
    go_loop [4, 21] (fun n i => (n = .int .i64 0 ∧ i = .int .i64 0) ∨ (n = .int .i64 x0.toNat ∧ i = .int .i64 1) ∨ (n = .int .i64 (256 * x0.toNat + x1.toNat) ∧ i = .int .i64 2) ∨ (n = .int .i64 (65536 * x0.toNat + 256 * x1.toNat + x2.toNat) ∧ i = .int .i64 3)) (fun _ i => 3 - (intOf i).toNat)
    case atStart => exact .inl ⟨rfl, rfl⟩
    case round =>
      rcases hrel with ⟨rfl, rfl⟩ | ⟨rfl, rfl⟩ | ⟨rfl, rfl⟩ | ⟨rfl, rfl⟩
      · go_wp2
        go_round
        case rel => exact .inr (.inl ⟨by rw [or_zero], rfl⟩)
        case measure => simp [intOf]
      · go_wp2
        go_round
        case rel => exact .inr (.inr (.inl ⟨by rw [or_byte _ _ (by omega)], rfl⟩))
        case measure => simp [intOf]
      · go_wp2
        go_round
        case rel => exact .inr (.inr (.inr ⟨or_last _ _ _ b0 b1, rfl⟩))
        case measure => simp [intOf]
      · go_wp2
        go_ret3
        exact ⟨rfl, hb1⟩
  · have hv := pl_bad hi
    have hx : plX l i = 0 := by simp [plX, hv]
    have hN : plN l i = 0 := by simp [plN, hv]
    have hst := stands_any A l.length c i 3 w hn (by omega)
    rw [hx, hN]
    generalize stV l.length i 3 = v at *
    have hvb : (v != 0) = true := by simpa using hv
    have Hst := Lib.hid hst
    clear hst h hi hv hx hN
    go_enter Tryz.func253, Tryz.ntmps253
    go_wp2_with (go_at_call 191; refine Hst.out.mono ?_; rintro e w' ⟨rfl, rfl⟩)
    go_ret3
    exact ⟨rfl, Below.refl _ _⟩

set_option maxHeartbeats 400000 in
theorem refPlace_any (A : Option Addr) (c : Nat) (l : List UInt8) (i : Int) (w : World) (B : Nat) (hn : l.length ≤ 1099511627776) (h : Lies w B A l) :
    Calls Tryz.prog 135 #[.slice A l.length c, .int .i64 i] w fun e w' => e = .returned (.tuple #[.int .i64 (plX l i), .int .i64 (plN l i), .int .i64 (stV l.length i 3)]) ∧ Below w.heap.size w w' := by
  by_cases hi : 0 ≤ i ∧ i + 3 ≤ l.length
  · obtain ⟨k, rfl⟩ : ∃ k : Nat, i = k := ⟨i.toNat, by omega⟩
    have hk : k + 3 ≤ l.length := by omega
    have hv : stV l.length k 3 = 0 := st_ok (by omega) (by omega) (by omega)
    have hst := have_any A l.length c k 3 w hn (by omega)
    rw [hv] at hst
    rw [hv]
    have Hst := Lib.hid hst
    clear hst
    obtain ⟨g, o, rfl, hg, hcell⟩ := h (by omega)
    have c0 := hcell k (by omega)
    have c1 := hcell (k + 1) (by omega)
    have c2 := hcell (k + 2) (by omega)
    clear h hcell
    obtain ⟨x0, hx0⟩ : ∃ x, x = l[k] := ⟨_, rfl⟩
    obtain ⟨x1, hx1⟩ : ∃ x, x = l[k + 1] := ⟨_, rfl⟩
    obtain ⟨x2, hx2⟩ : ∃ x, x = l[k + 2] := ⟨_, rfl⟩
    rw [← hx0] at c0; rw [← hx1] at c1; rw [← hx2] at c2
    have hX : plX l k = 65536 * (x0.toNat : Int) + 256 * (x1.toNat : Int) + (x2.toNat : Int) := by
      subst hx0 hx1 hx2; simp [plX, hv, show k < l.length by omega, show k + 1 < l.length by omega, show k + 2 < l.length by omega]
    have hN : plN l k = (k : Int) + 3 := by simp [plN, hv]
    rw [hX, hN]
    have b0 := x0.toNat_lt
    have b1 := x1.toNat_lt
    have b2 := x2.toNat_lt
    clear hX hN hx0 hx1 hx2 hi hv
    go_enter Tryz.func135, Tryz.ntmps135
    go_wp2_with (go_at_call 161; refine Hst.out.mono ?_; rintro e w' ⟨rfl, rfl⟩)
    go_quiet (fail)
    go_wp2
    go_ret3
    exact ⟨rfl, below_draws _⟩
  · have hv := pl_bad hi
    have hx : plX l i = 0 := by simp [plX, hv]
    have hN : plN l i = 0 := by simp [plN, hv]
    have hst := have_any A l.length c i 3 w hn (by omega)
    rw [hx, hN]
    generalize stV l.length i 3 = v at *
    have hvb : (v != 0) = true := by simpa using hv
    have Hst := Lib.hid hst
    clear hst h hi hv hx hN
    go_enter Tryz.func135, Tryz.ntmps135
    go_wp2_with (go_at_call 161; refine Hst.out.mono ?_; rintro e w' ⟨rfl, rfl⟩)
    go_ret3
    exact ⟨rfl, Below.refl _ _⟩

end Go.Proofs.YtjagjkogloggpaaGreat

namespace Go.Proofs.YtjagjkogloggpaaGreat
open Go.RowKit

def szT (l : List UInt8) (i : Int) : Nat := (l.getD i.toNat 0).toNat
def txE (l : List UInt8) (i : Int) : Int := if stV l.length i 1 = 0 then stV l.length (i + 1) (szT l i) else stV l.length i 1
def txS (l : List UInt8) (i : Int) : List UInt8 := if txE l i = 0 then (l.drop (i.toNat + 1)).take (szT l i) else []
def txN (l : List UInt8) (i : Int) : Int := if txE l i = 0 then i + 1 + szT l i else 0

set_option maxHeartbeats 400000 in
theorem text_any (A : Option Addr) (c : Nat) (l : List UInt8) (i : Int) (w : World) (B : Nat) (hc : l.length ≤ c) (hn : l.length ≤ 1099511627776) (h : Lies w B A l) :
    Calls Tryz.prog 156 #[.slice A l.length c, .int .i64 i] w fun e w' => e = .returned (.tuple #[.string (str (txS l i)), .int .i64 (txN l i), .int .i64 (txE l i)]) ∧ w = w' := by
  have h1 := one_any A c l i w B hn h
  by_cases hi : 0 ≤ i ∧ i < l.length
  · obtain ⟨k, rfl⟩ : ∃ k : Nat, i = k := ⟨i.toNat, by omega⟩
    have hk : k < l.length := by omega
    have hv : stV l.length k 1 = 0 := st_ok (by omega) (by omega) (by omega)
    have hs : szT l k = l[k].toNat := by simp [szT, hk]
    have hX : oneX l k = (szT l k : Int) := by simp [oneX, hv, szT]
    have hN1 : oneN l k = (k : Int) + 1 := by simp [oneN, hv]
    have hE : txE l k = stV l.length ((k : Int) + 1) (szT l k) := by simp [txE, hv]
    have hsz : szT l k < 256 := by rw [hs]; exact l[k].toNat_lt
    rw [hv, hX, hN1] at h1
    have h2 := stands_any A l.length c ((k : Int) + 1) (szT l k) w hn (by omega)
    by_cases hm : k + 1 + szT l k ≤ l.length
    · have h0 : stV l.length ((k : Int) + 1) (szT l k) = 0 := st_ok (by omega) (by omega) (by omega)
      have hS : txS l k = (l.drop (k + 1)).take (szT l k) := by simp [txS, hE, h0]
      have hN : txN l k = (k : Int) + 1 + szT l k := by simp [txN, hE, h0]
      rw [hS, hN, hE, h0]
      rw [h0] at h2
      obtain ⟨g, o, rfl, hg, hcell⟩ := h (by omega)
      clear hS hN hE h0 hX hN1 hv hs hi
      generalize szT l k = m at *
      have hlen : ((l.drop (k + 1)).take m).length = m := by simp; omega
      have hget : ∀ j (hj : j < ((l.drop (k + 1)).take m).length), w.cell? ⟨g, o + (k + 1) + j, none⟩ = some (.int .u8 (((l.drop (k + 1)).take m)[j].toNat : Int)) := by
        intro j hj
        have := hcell (k + 1 + j) (by omega)
        simpa [Nat.add_assoc] using this
      obtain ⟨T, hT⟩ : ∃ T, T = (l.drop (k + 1)).take m := ⟨_, rfl⟩
      rw [← hT] at hget hlen ⊢
      have hcv1 := fun d => conv_any w (some ⟨g, o + (k + 1), none⟩) T d (fun j hj => ⟨_, rfl, by rw [add_zero_off]; exact hget j hj⟩)
      rw [hlen] at hcv1
      have hcv := hcv1 (c - (k + 1))
      have hkl : k + 1 ≤ k + 1 + m := by omega
      have hml : k + 1 + m ≤ c := by omega
      have hr : k + 1 + m - (k + 1) = m := by omega
      have H1 := Lib.hid h1
      have H2 := Lib.hid h2
      clear hget hcell h1 h2 h
      by_cases hck : c = k + 1
      · obtain rfl : m = 0 := by omega
        obtain rfl : T = [] := List.eq_nil_of_length_eq_zero hlen
        have hcv0 := conv_any w (some ⟨g, o, none⟩) [] 0 (fun j hj => by simp at hj)
        simp only [List.length_nil] at hcv0
        clear hcv1 hcv hlen hT
        subst hck
        go_enter Tryz.func156, Tryz.ntmps156
        go_wp2_with (first | (go_at_call 130; refine H1.out.mono ?_; rintro e w' ⟨rfl, rfl⟩) | (go_at_call 191; refine H2.out.mono ?_; rintro e w' ⟨rfl, rfl⟩))
        go_ret3
        exact ⟨rfl, rfl⟩
      · clear hcv1 hlen hT
        go_enter Tryz.func156, Tryz.ntmps156
        go_wp2_with (first | (go_at_call 130; refine H1.out.mono ?_; rintro e w' ⟨rfl, rfl⟩) | (go_at_call 191; refine H2.out.mono ?_; rintro e w' ⟨rfl, rfl⟩))
        go_ret3
        exact ⟨rfl, rfl⟩
    · have h0 : stV l.length ((k : Int) + 1) (szT l k) = 5 := st_form (by omega) (by omega) (by omega)
      have hS : txS l k = [] := by simp [txS, hE, h0]
      have hN : txN l k = 0 := by simp [txN, hE, h0]
      rw [hS, hN, hE, h0]
      rw [h0] at h2
      clear hS hN hE h0 hX hN1 hv hs hi h
      generalize szT l k = m at *
      have H1 := Lib.hid h1
      have H2 := Lib.hid h2
      clear h1 h2
      go_enter Tryz.func156, Tryz.ntmps156
      go_wp2_with (first | (go_at_call 130; refine H1.out.mono ?_; rintro e w' ⟨rfl, rfl⟩) | (go_at_call 191; refine H2.out.mono ?_; rintro e w' ⟨rfl, rfl⟩))
      go_ret3
      exact ⟨rfl, rfl⟩
  · have hv := one_bad hi
    have hE : txE l i = stV l.length i 1 := by simp [txE, hv]
    have hS : txS l i = [] := by simp [txS, hE, hv]
    have hN : txN l i = 0 := by simp [txN, hE, hv]
    have hX : oneX l i = 0 := by simp [oneX, hv]
    have hN1 : oneN l i = 0 := by simp [oneN, hv]
    rw [hE, hS, hN]
    rw [hX, hN1] at h1
    generalize stV l.length i 1 = v at *
    have hvb : (v != 0) = true := by simpa using hv
    have H1 := Lib.hid h1
    clear h1 h hi hv hE hS hN hX hN1
    go_enter Tryz.func156, Tryz.ntmps156
    go_wp2_with (go_at_call 130; refine H1.out.mono ?_; rintro e w' ⟨rfl, rfl⟩)
    go_ret3
    exact ⟨rfl, rfl⟩

end Go.Proofs.YtjagjkogloggpaaGreat
