/-
  Things that are put; the law's own put.
-/
import Derived.Test.YtjgjikeanmdhkaaU
import Derived.Test.YtjgjikeanmdhkaaO
import Derived.Test.YtjgjikeanmdhkaaF
namespace Go.Proofs.Ytjgjikeanmdhkaa
open Go.RowKit

structure Thing where
  k : UInt8
  hi : Int
  lo : Int
  pl : Int
  tx : List UInt8

def tCells (x : Thing) : List Value := [.int .u8 (x.k.toNat : Int), .int .i64 x.hi, .int .i64 x.lo, .int .i64 x.pl, .string (str x.tx)]
def tVal (x : Thing) : Value := .agg #[.int .u8 (x.k.toNat : Int), .int .i64 x.hi, .int .i64 x.lo, .int .i64 x.pl, .string (str x.tx)]
def okT (x : Thing) : Bool := if x.k.toNat % 3 = 0 then pairB x.hi x.lo else if x.k.toNat % 3 = 1 then ppE x.pl == 0 else ptE x.tx == 0
def encT (x : Thing) : List UInt8 := if x.k.toNat % 3 = 0 then [UInt8.ofNat (pairV x.hi x.lo).toNat] else if x.k.toNat % 3 = 1 then plB x.pl.toNat else ptB x.tx

theorem Roomy.own {w : World} {g B : Nat} {l : List UInt8} (h : Roomy w g l) (hB : B ≤ g) (hl : l.length ≤ 100000) : Own w B (.slice (some ⟨g, 0, none⟩) l.length (l.length + 40)) l := by
  refine ⟨by simp, .inr ⟨g, l.length + 40, _, rfl, hB, h, by omega, by simp only [maxLen]; omega, by simp, ?_⟩⟩
  simp only [Nat.mul_one]
  rw [List.take_left' (by simp)]

theorem pairV_bd (h l : Int) : 0 ≤ pairV h l ∧ pairV h l < 256 := by
  unfold pairV; split
  · rename_i hb; simp [pairB] at hb; omega
  · omega

theorem pair_lies (w : World) (h l : Int) : Lies (w.alloc (.cells #[.int .u8 (pairV h l)] 5)) (w.alloc (.cells #[.int .u8 (pairV h l)] 5)).heap.size (some ⟨w.heap.size, 0, none⟩) [UInt8.ofNat (pairV h l).toNat] :=
  lies_lit w 5 _ _ (by
    have hb := pairV_bd h l
    have h0 : ((UInt8.ofNat (pairV h l).toNat).toNat : Int) = pairV h l := by
      have : (UInt8.ofNat (pairV h l).toNat).toNat = (pairV h l).toNat := by simp; omega
      rw [this]; omega
    simp only [List.map_cons, List.map_nil, b8, h0])

def PutT (w : World) (B g : Nat) (bs : List UInt8) (x : Thing) (e : Ending) (w' : World) : Prop :=
  ∃ v, e = .returned (.tuple #[v, .bool (okT x)]) ∧ (okT x = true → Own w' B v (bs ++ encT x)) ∧ w.grownBy w' (some g)

theorem grown_of_below {w w' : World} {row : Option Nat} (h : Below w.heap.size w w') : w.grownBy w' row := ⟨h.os, h.tape, h.output, h.size, fun k hk _ => h.block k hk⟩
theorem grown_trans_below {w w1 w2 : World} {row : Option Nat} (h : w.grownBy w1 row) (k : Below w.heap.size w1 w2) : w.grownBy w2 row :=
  ⟨k.os.trans h.os, k.tape.trans h.tape, k.output.trans h.output, Nat.le_trans h.size k.size, fun i hi hne => (k.block i hi).trans (h.block i hi hne)⟩

theorem ppL_ok {l : List UInt8} {n : Int} (h : (ppE n == 0) = true) : ppL l n = l ++ plB n.toNat := by
  unfold ppE at h
  by_cases hb : 0 ≤ n ∧ n < 16777216
  · simp [ppL, hb]
  · simp [hb] at h
theorem ptL_ok {l s : List UInt8} (h : (ptE s == 0) = true) : ptL l s = l ++ ptB s := by
  unfold ptE at h
  by_cases hb : s.length ≤ 255
  · simp [ptL, hb]
  · simp [hb] at h

set_option maxHeartbeats 1000000 in
theorem put_any (g B : Nat) (bs : List UInt8) (x : Thing) (w : World) (hr : Roomy w g bs) (hB : B ≤ g) (hb : bs.length ≤ 60000) (ht : x.tx.length ≤ 1000) :
    Calls Try.prog 24 #[.slice (some ⟨g, 0, none⟩) bs.length (bs.length + 40), .agg #[.int .u8 (x.k.toNat : Int), .int .i64 x.hi, .int .i64 x.lo, .int .i64 x.pl, .string (str x.tx)]] w (PutT w B g bs x) := by
  have hk := x.k.toNat_lt
  have hg := hr.lt
  by_cases k0 : x.k.toNat % 3 = 0
  · have e1 : okT x = pairB x.hi x.lo := by simp [okT, k0]
    have e2 : encT x = [UInt8.ofNat (pairV x.hi x.lo).toNat] := by simp [encT, k0]
    unfold PutT
    rw [e1, e2]
    have t0 : (((x.k.toNat : Int) % 3) == 0) = true := by simp; omega
    have ho := hr.own hB (by omega)
    clear e1 e2 k0
    have HP := Lib.hid (pair_lies (w.alloc (.cells #[.int .u8 (x.k.toNat : Int), .int .i64 x.hi, .int .i64 x.lo, .int .i64 x.pl, .string (str x.tx)] 45)) x.hi x.lo)
    simp only [World.size_alloc] at HP
    have HO := Lib.hid (And.intro hr ho)
    clear hr ho
    go_enter Try.func24, Try.ntmps24
    go_wp2_with fail
    refine (pair_any x.hi x.lo _).mono ?_
    rintro e w' ⟨rfl, rfl⟩
    go_wp2_with (at_builtin
                 (refine app_slice _ rfl (.tmp 25) (.tmp 27) rfl B _ bs rfl ((HO.out.2.alloc _).alloc _) (some ⟨w.heap.size + 1, 0, none⟩) 1 _ [UInt8.ofNat (pairV x.hi x.lo).toNat] rfl (by simp) HP.out (by simp; omega) (by simp; omega) ?_)
                 intro v2 w2 ho2 hg2)
    go_ret2
    exact ⟨v2, rfl, fun _ => ho2, ((World.grownBy_alloc w _ _).trans (World.grownBy_alloc _ _ _)).trans hg2⟩
  have hra := hr.below ((Below.refl _ _).alloc (Nat.le_refl _) (.cells #[.int .u8 (x.k.toNat : Int), .int .i64 x.hi, .int .i64 x.lo, .int .i64 x.pl, .string (str x.tx)] 45)) hg
  have hl := hra.lies (B := (w.alloc (.cells #[.int .u8 (x.k.toNat : Int), .int .i64 x.hi, .int .i64 x.lo, .int .i64 x.pl, .string (str x.tx)] 45)).heap.size) (by simp; omega)
  clear hra
  by_cases k1 : x.k.toNat % 3 = 1
  · have e1 : okT x = (ppE x.pl == 0) := by simp [okT, k1]
    have e2 : encT x = plB x.pl.toNat := by simp [encT, k1]
    unfold PutT
    rw [e1, e2]
    have t0 : (((x.k.toNat : Int) % 3) == 0) = false := by simp; omega
    have t1 : (((x.k.toNat : Int) % 3) == 1) = true := by simp; omega
    clear e1 e2 k0 k1
    have HC := Lib.hid (putPlace_any (some ⟨g, 0, none⟩) (bs.length + 40) bs x.pl _ (by simp) hl (by omega))
    clear hl hr
    go_enter Try.func24, Try.ntmps24
    go_wp2_with fail
    refine HC.out.mono ?_
    rintro e w2 ⟨v, rfl, ho, hb2⟩
    go_wp2
    go_ret2
    refine ⟨v, rfl, fun h => ?_, grown_trans_below (World.grownBy_alloc w _ _) (hb2.mono (by simp))⟩
    rw [ppL_ok h] at ho
    exact ho.base (by simp; omega)
  · have e1 : okT x = (ptE x.tx == 0) := by simp [okT, k0, k1]
    have e2 : encT x = ptB x.tx := by simp [encT, k0, k1]
    unfold PutT
    rw [e1, e2]
    have t0 : (((x.k.toNat : Int) % 3) == 0) = false := by simp; omega
    have t1 : (((x.k.toNat : Int) % 3) == 1) = false := by simp; omega
    clear e1 e2 k0 k1
    have HC := Lib.hid (putText_any (some ⟨g, 0, none⟩) (bs.length + 40) bs x.tx _ (by simp) hl (by omega) (by omega))
    clear hl hr
    go_enter Try.func24, Try.ntmps24
    go_wp2_with fail
    refine HC.out.mono ?_
    rintro e w2 ⟨v, rfl, ho, hb2⟩
    go_wp2
    go_ret2
    refine ⟨v, rfl, fun h => ?_, grown_trans_below (World.grownBy_alloc w _ _) (hb2.mono (by simp))⟩
    rw [ptL_ok h] at ho
    exact ho.base (by simp; omega)

end Go.Proofs.Ytjgjikeanmdhkaa
