/-
  The law's own got: is a thing read at a place.
-/
import Derived.Test.YtjgjikeanmdhkaaI
namespace Go.Proofs.Ytjgjikeanmdhkaa
open Go.RowKit

def GotYes (w : World) (n : Int) (e : Ending) (w' : World) : Prop := e = .returned (.tuple #[.int .i64 n, .bool true]) ∧ Below w.heap.size w w'
def GotNo (w : World) (e : Ending) (w' : World) : Prop := ∃ n : Int, e = .returned (.tuple #[.int .i64 n, .bool false]) ∧ Below w.heap.size w w'

section
variable (A : Option Addr) (c : Nat) (L : List UInt8) (i : Int) (x : Thing) (w : World) (B : Nat)

set_option maxHeartbeats 1000000 in
theorem got0_yes (h : Lies w B A L) (hB : B ≤ w.heap.size) (hn : L.length ≤ 65600) (k0 : x.k.toNat % 3 = 0) (hs : stV L.length i 1 = 0) (hx : oneX L i = pairV x.hi x.lo) (hp : pairB x.hi x.lo = true) :
    Calls Try.prog 25 #[.slice A L.length c, .int .i64 i, .agg #[.int .u8 (x.k.toNat : Int), .int .i64 x.hi, .int .i64 x.lo, .int .i64 x.pl, .string (str x.tx)]] w (GotYes w (i + 1)) := by
  have hk := x.k.toNat_lt
  have t0 : (((x.k.toNat : Int) % 3) == 0) = true := by simp; omega
  have h1 := one_any A c L i _ B hn (h.alloc hB (.cells #[.int .u8 (x.k.toNat : Int), .int .i64 x.hi, .int .i64 x.lo, .int .i64 x.pl, .string (str x.tx)] 45))
  have hN : oneN L i = i + 1 := by simp [oneN, hs]
  rw [hs, hx, hN] at h1
  have hb := pairV_bd x.hi x.lo
  have hq : pairV x.hi x.lo / 16 = x.hi ∧ pairV x.hi x.lo % 16 = x.lo := by
    have hv : pairV x.hi x.lo = x.hi * 16 + x.lo := by simp [pairV, hp]
    simp [pairB] at hp
    omega
  have h2 := fun W => halves_any (pairV x.hi x.lo) W hb.1 hb.2
  simp only [hq.1, hq.2] at h2
  have H1 := Lib.hid h1
  have H2 := Lib.hid h2
  clear h1 h2 hN hs hx hp hq k0 hb h
  generalize pairV x.hi x.lo = v at *
  go_enter Try.func25, Try.ntmps25
  go_wp2_with fail
  refine H1.out.mono ?_
  rintro e w' ⟨rfl, rfl⟩
  go_wp2_with fail
  refine (H2.out _).mono ?_
  rintro e w' ⟨rfl, rfl⟩
  go_wp2_with fail
  go_quiet (fail)
  go_wp2
  go_ret2
  exact ⟨rfl, ((Below.refl _ _).alloc (Nat.le_refl _) _).trans (below_draws _)⟩

set_option maxHeartbeats 1000000 in
theorem got0_no (h : Lies w B A L) (hB : B ≤ w.heap.size) (hn : L.length ≤ 65600) (k0 : x.k.toNat % 3 = 0) (hs : stV L.length i 1 = 5) :
    Calls Try.prog 25 #[.slice A L.length c, .int .i64 i, .agg #[.int .u8 (x.k.toNat : Int), .int .i64 x.hi, .int .i64 x.lo, .int .i64 x.pl, .string (str x.tx)]] w (GotNo w) := by
  have hk := x.k.toNat_lt
  have t0 : (((x.k.toNat : Int) % 3) == 0) = true := by simp; omega
  have h1 := one_any A c L i _ B hn (h.alloc hB (.cells #[.int .u8 (x.k.toNat : Int), .int .i64 x.hi, .int .i64 x.lo, .int .i64 x.pl, .string (str x.tx)] 45))
  have hN : oneN L i = 0 := by simp [oneN, hs]
  have hX : oneX L i = 0 := by simp [oneX, hs]
  rw [hs, hX, hN] at h1
  have H1 := Lib.hid h1
  clear h1 hN hs hX k0 h
  go_enter Try.func25, Try.ntmps25
  go_wp2_with fail
  refine H1.out.mono ?_
  rintro e w' ⟨rfl, rfl⟩
  go_wp2_with fail
  refine (halves_any 0 _ (by omega) (by omega)).mono ?_
  rintro e w' ⟨rfl, rfl⟩
  go_wp2_with fail
  go_quiet (fail)
  go_wp2
  go_ret2
  exact ⟨_, rfl, ((Below.refl _ _).alloc (Nat.le_refl _) _).trans (below_draws _)⟩

set_option maxHeartbeats 1000000 in
theorem got1_yes (h : Lies w B A L) (hB : B ≤ w.heap.size) (hc : L.length ≤ c) (hn : L.length ≤ 65600) (k1 : x.k.toNat % 3 = 1) (hs : stV L.length i 3 = 0) (hx : plX L i = x.pl) :
    Calls Try.prog 25 #[.slice A L.length c, .int .i64 i, .agg #[.int .u8 (x.k.toNat : Int), .int .i64 x.hi, .int .i64 x.lo, .int .i64 x.pl, .string (str x.tx)]] w (GotYes w (i + 3)) := by
  have hk := x.k.toNat_lt
  have t0 : (((x.k.toNat : Int) % 3) == 0) = false := by simp; omega
  have t1 : (((x.k.toNat : Int) % 3) == 1) = true := by simp; omega
  have h1 := place_any A c L i _ B hc hn (h.alloc hB (.cells #[.int .u8 (x.k.toNat : Int), .int .i64 x.hi, .int .i64 x.lo, .int .i64 x.pl, .string (str x.tx)] 45))
  have hN : plN L i = i + 3 := by simp [plN, hs]
  rw [hs, hx, hN] at h1
  have H1 := Lib.hid h1
  clear h1 hN hs hx k1 h
  go_enter Try.func25, Try.ntmps25
  go_wp2_with fail
  refine H1.out.mono ?_
  rintro e w1 ⟨rfl, hb⟩
  have d3 : w1.cell? ⟨w.heap.size, 3, none⟩ = some (.int .i64 x.pl) := (hb.cell (by simp)).trans (by simp)
  have hbb := ((Below.refl _ _).alloc (Nat.le_refl _) _).trans (hb.mono (by simp))
  clear hb H1
  go_wp2_with fail
  go_quiet (fail)
  go_wp2
  go_ret2
  exact ⟨rfl, hbb.trans (below_draws _)⟩

set_option maxHeartbeats 1000000 in
theorem got1_no (h : Lies w B A L) (hB : B ≤ w.heap.size) (hc : L.length ≤ c) (hn : L.length ≤ 65600) (k1 : x.k.toNat % 3 = 1) (hs : stV L.length i 3 = 5) :
    Calls Try.prog 25 #[.slice A L.length c, .int .i64 i, .agg #[.int .u8 (x.k.toNat : Int), .int .i64 x.hi, .int .i64 x.lo, .int .i64 x.pl, .string (str x.tx)]] w (GotNo w) := by
  have hk := x.k.toNat_lt
  have t0 : (((x.k.toNat : Int) % 3) == 0) = false := by simp; omega
  have t1 : (((x.k.toNat : Int) % 3) == 1) = true := by simp; omega
  have h1 := place_any A c L i _ B hc hn (h.alloc hB (.cells #[.int .u8 (x.k.toNat : Int), .int .i64 x.hi, .int .i64 x.lo, .int .i64 x.pl, .string (str x.tx)] 45))
  have hN : plN L i = 0 := by simp [plN, hs]
  have hX : plX L i = 0 := by simp [plX, hs]
  rw [hs, hX, hN] at h1
  have H1 := Lib.hid h1
  clear h1 hN hs hX k1 h
  go_enter Try.func25, Try.ntmps25
  go_wp2_with fail
  refine H1.out.mono ?_
  rintro e w1 ⟨rfl, hb⟩
  have hbb := ((Below.refl _ _).alloc (Nat.le_refl _) _).trans (hb.mono (by simp))
  clear hb H1
  go_wp2_with fail
  go_quiet (fail)
  go_wp2
  go_ret2
  exact ⟨_, rfl, hbb.trans (below_draws _)⟩

set_option maxHeartbeats 1000000 in
theorem got2_yes (h : Lies w B A L) (hB : B ≤ w.heap.size) (hc : L.length ≤ c) (hn : L.length ≤ 65600) (k0 : x.k.toNat % 3 ≠ 0) (k1 : x.k.toNat % 3 ≠ 1) (n : Int) (hs : txE L i = 0) (hx : txS L i = x.tx) (hN : txN L i = n) :
    Calls Try.prog 25 #[.slice A L.length c, .int .i64 i, .agg #[.int .u8 (x.k.toNat : Int), .int .i64 x.hi, .int .i64 x.lo, .int .i64 x.pl, .string (str x.tx)]] w (GotYes w n) := by
  have hk := x.k.toNat_lt
  have t0 : (((x.k.toNat : Int) % 3) == 0) = false := by simp; omega
  have t1 : (((x.k.toNat : Int) % 3) == 1) = false := by simp; omega
  have h1 := text_any A c L i _ B hc hn (h.alloc hB (.cells #[.int .u8 (x.k.toNat : Int), .int .i64 x.hi, .int .i64 x.lo, .int .i64 x.pl, .string (str x.tx)] 45))
  rw [hs, hx, hN] at h1
  have H1 := Lib.hid h1
  clear h1 hN hs hx k0 k1 h
  go_enter Try.func25, Try.ntmps25
  go_wp2_with fail
  refine H1.out.mono ?_
  rintro e w' ⟨rfl, rfl⟩
  go_wp2_with fail
  go_quiet (fail)
  go_wp2
  go_ret2
  exact ⟨rfl, ((Below.refl _ _).alloc (Nat.le_refl _) _).trans (below_draws _)⟩

set_option maxHeartbeats 1000000 in
theorem got2_no (h : Lies w B A L) (hB : B ≤ w.heap.size) (hc : L.length ≤ c) (hn : L.length ≤ 65600) (k0 : x.k.toNat % 3 ≠ 0) (k1 : x.k.toNat % 3 ≠ 1) (hs : txE L i = 5) :
    Calls Try.prog 25 #[.slice A L.length c, .int .i64 i, .agg #[.int .u8 (x.k.toNat : Int), .int .i64 x.hi, .int .i64 x.lo, .int .i64 x.pl, .string (str x.tx)]] w (GotNo w) := by
  have hk := x.k.toNat_lt
  have t0 : (((x.k.toNat : Int) % 3) == 0) = false := by simp; omega
  have t1 : (((x.k.toNat : Int) % 3) == 1) = false := by simp; omega
  have h1 := text_any A c L i _ B hc hn (h.alloc hB (.cells #[.int .u8 (x.k.toNat : Int), .int .i64 x.hi, .int .i64 x.lo, .int .i64 x.pl, .string (str x.tx)] 45))
  rw [hs] at h1
  have H1 := Lib.hid h1
  clear h1 hs k0 k1 h
  go_enter Try.func25, Try.ntmps25
  go_wp2_with fail
  refine H1.out.mono ?_
  rintro e w' ⟨rfl, rfl⟩
  go_wp2_with fail
  go_quiet (fail)
  go_wp2
  go_ret2
  exact ⟨_, rfl, ((Below.refl _ _).alloc (Nat.le_refl _) _).trans (below_draws _)⟩
end

/-! what stands in P, the bytes of a thing, and more -/
theorem in_len (P E R : List UInt8) : (P ++ E ++ R).length = P.length + E.length + R.length := by simp; omega
theorem in_get (P E R : List UInt8) (j : Nat) (h : j < E.length) : (P ++ E ++ R).getD (P.length + j) 0 = E[j] := by
  rw [List.append_assoc]
  simp [List.getD, List.getElem?_append_right, List.getElem?_append_left, h]

theorem got_yes (A : Option Addr) (c : Nat) (P R : List UInt8) (x : Thing) (w : World) (B : Nat) (h : Lies w B A (P ++ encT x ++ R)) (hB : B ≤ w.heap.size) (hc : (P ++ encT x ++ R).length ≤ c) (hn : (P ++ encT x ++ R).length ≤ 65600) (ho : okT x = true) :
    Calls Try.prog 25 #[.slice A (P ++ encT x ++ R).length c, .int .i64 (P.length : Int), .agg #[.int .u8 (x.k.toNat : Int), .int .i64 x.hi, .int .i64 x.lo, .int .i64 x.pl, .string (str x.tx)]] w (GotYes w ((P ++ encT x).length : Nat)) := by
  by_cases k0 : x.k.toNat % 3 = 0
  · have hp : pairB x.hi x.lo = true := by simpa [okT, k0] using ho
    have he : encT x = [UInt8.ofNat (pairV x.hi x.lo).toNat] := by simp [encT, k0]
    have hb := pairV_bd x.hi x.lo
    have hs : stV (P ++ encT x ++ R).length (P.length : Int) 1 = 0 := st_ok (by omega) (by rw [in_len]; omega) (by rw [in_len, he]; simp; omega)
    have hx : oneX (P ++ encT x ++ R) (P.length : Int) = pairV x.hi x.lo := by
      unfold oneX
      rw [if_pos hs, he, Int.toNat_natCast]
      have := in_get P [UInt8.ofNat (pairV x.hi x.lo).toNat] R 0 (by simp)
      rw [Nat.add_zero] at this
      rw [this]
      have : (UInt8.ofNat (pairV x.hi x.lo).toNat).toNat = (pairV x.hi x.lo).toNat := by simp; omega
      simp only [List.getElem_cons_zero]
      rw [this]; omega
    have e : (((P ++ encT x).length : Nat) : Int) = (P.length : Int) + 1 := by rw [he]; simp
    rw [e]
    exact got0_yes A c _ _ x w B h hB hn k0 hs hx hp
  by_cases k1 : x.k.toNat % 3 = 1
  · have hp : 0 ≤ x.pl ∧ x.pl < 16777216 := by
      have : (ppE x.pl == 0) = true := by simpa [okT, k1] using ho
      unfold ppE at this
      by_cases hb : 0 ≤ x.pl ∧ x.pl < 16777216
      · exact hb
      · simp [hb] at this
    have he : encT x = plB x.pl.toNat := by simp [encT, k1]
    have hl : (plB x.pl.toNat).length = 3 := rfl
    have hs : stV (P ++ encT x ++ R).length (P.length : Int) 3 = 0 := st_ok (by omega) (by rw [in_len]; omega) (by rw [in_len, he, hl]; omega)
    have hx : plX (P ++ encT x ++ R) (P.length : Int) = x.pl := by
      unfold plX
      rw [if_pos hs, he, Int.toNat_natCast]
      have g0 := in_get P (plB x.pl.toNat) R 0 (by simp [plB])
      have g1 := in_get P (plB x.pl.toNat) R 1 (by simp [plB])
      have g2 := in_get P (plB x.pl.toNat) R 2 (by simp [plB])
      rw [Nat.add_zero] at g0
      rw [g0, g1, g2]
      have h0 : (UInt8.ofNat (x.pl.toNat / 65536)).toNat = x.pl.toNat / 65536 := by simp; omega
      have h1 : (UInt8.ofNat (x.pl.toNat / 256 % 256)).toNat = x.pl.toNat / 256 % 256 := by simp
      have h2 : (UInt8.ofNat (x.pl.toNat % 256)).toNat = x.pl.toNat % 256 := by simp
      simp only [plB, List.getElem_cons_zero, List.getElem_cons_succ, h0, h1, h2]
      omega
    have e : (((P ++ encT x).length : Nat) : Int) = (P.length : Int) + 3 := by rw [he]; simp [plB]
    rw [e]
    exact got1_yes A c _ _ x w B h hB hc hn k1 hs hx
  · have hp : x.tx.length ≤ 255 := by
      have : (ptE x.tx == 0) = true := by simpa [okT, k0, k1] using ho
      unfold ptE at this
      by_cases hb : x.tx.length ≤ 255
      · exact hb
      · simp [hb] at this
    have he : encT x = ptB x.tx := by simp [encT, k0, k1]
    have hl : (ptB x.tx).length = x.tx.length + 1 := by simp [ptB]
    have hs1 : stV (P ++ encT x ++ R).length (P.length : Int) 1 = 0 := st_ok (by omega) (by rw [in_len]; omega) (by rw [in_len, he, hl]; omega)
    have hz : szT (P ++ encT x ++ R) (P.length : Int) = x.tx.length := by
      unfold szT
      rw [Int.toNat_natCast, he]
      have g0 := in_get P (ptB x.tx) R 0 (by simp [ptB])
      rw [Nat.add_zero] at g0
      rw [g0]
      simp [ptB]; omega
    have hs : txE (P ++ encT x ++ R) (P.length : Int) = 0 := by
      unfold txE
      rw [if_pos hs1, hz]
      exact st_ok (by omega) (by rw [in_len, he, hl]; omega) (by rw [in_len, he, hl]; omega)
    have hx : txS (P ++ encT x ++ R) (P.length : Int) = x.tx := by
      unfold txS
      rw [if_pos hs, hz, Int.toNat_natCast, he]
      simp [ptB, List.drop_append, List.take_append]
    have hN : txN (P ++ encT x ++ R) (P.length : Int) = ((P ++ encT x).length : Nat) := by
      unfold txN
      rw [if_pos hs, hz, he]
      simp [ptB]; omega
    exact got2_yes A c _ _ x w B h hB hc hn k0 k1 _ hs hx hN

theorem got_no (A : Option Addr) (c : Nat) (P : List UInt8) (x : Thing) (w : World) (B : Nat) (h : Lies w B A (P ++ (encT x).dropLast)) (hB : B ≤ w.heap.size) (hc : (P ++ (encT x).dropLast).length ≤ c) (hn : (P ++ (encT x).dropLast).length ≤ 65600) (ho : okT x = true) :
    Calls Try.prog 25 #[.slice A (P ++ (encT x).dropLast).length c, .int .i64 (P.length : Int), .agg #[.int .u8 (x.k.toNat : Int), .int .i64 x.hi, .int .i64 x.lo, .int .i64 x.pl, .string (str x.tx)]] w (GotNo w) := by
  by_cases k0 : x.k.toNat % 3 = 0
  · have he : encT x = [UInt8.ofNat (pairV x.hi x.lo).toNat] := by simp [encT, k0]
    refine got0_no A c _ _ x w B h hB hn k0 (st_form (by omega) (by rw [List.length_append]; omega) ?_)
    rw [he]; simp
  by_cases k1 : x.k.toNat % 3 = 1
  · have he : encT x = plB x.pl.toNat := by simp [encT, k1]
    refine got1_no A c _ _ x w B h hB hc hn k1 (st_form (by omega) (by rw [List.length_append]; omega) ?_)
    rw [he]; simp [plB]; omega
  · have hp : x.tx.length ≤ 255 := by
      have : (ptE x.tx == 0) = true := by simpa [okT, k0, k1] using ho
      unfold ptE at this
      by_cases hb : x.tx.length ≤ 255
      · exact hb
      · simp [hb] at this
    have he : encT x = ptB x.tx := by simp [encT, k0, k1]
    refine got2_no A c _ _ x w B h hB hc hn k0 k1 ?_
    rw [he]
    unfold txE
    by_cases h0 : x.tx.length = 0
    · have : x.tx = [] := List.eq_nil_of_length_eq_zero h0
      have e1 : stV (P ++ (ptB x.tx).dropLast).length (P.length : Int) 1 = 5 := st_form (by omega) (by rw [List.length_append]; omega) (by rw [this]; simp [ptB])
      rw [e1]; simp
    · have hl : (ptB x.tx).dropLast.length = x.tx.length := by simp [ptB]
      have e1 : stV (P ++ (ptB x.tx).dropLast).length (P.length : Int) 1 = 0 := st_ok (by omega) (by rw [List.length_append]; omega) (by rw [List.length_append, hl]; omega)
      rw [if_pos e1]
      have hz : szT (P ++ (ptB x.tx).dropLast) (P.length : Int) = x.tx.length := by
        unfold szT
        rw [Int.toNat_natCast]
        have g0 := in_get P (ptB x.tx).dropLast [] 0 (by omega)
        rw [Nat.add_zero, List.append_nil] at g0
        rw [g0]
        simp [ptB]; omega
      rw [hz]
      exact st_form (by omega) (by rw [List.length_append, hl]; omega) (by rw [List.length_append, hl]; omega)

end Go.Proofs.Ytjgjikeanmdhkaa
