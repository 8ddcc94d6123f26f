/-
  Contracts of the document's U and S.
-/
import Derived.Test.YtgpoicbbmaimpaaU2S
namespace Go.Proofs.Ytgpoicbbmaimpaa
open Go.RowKit

def RdR (b : Bool) (kd : IntKind) (l : List UInt8) (i : Int) (w : World) (e : Ending) (w' : World) : Prop :=
  e = .returned (.tuple #[.int kd (rdX b l i), .int .i64 (rdN b l i), .int .i64 (rdE b l i)]) ∧ Below w.heap.size w w'

theorem lg_le (r : List UInt8) : lg r 10 ≤ r.length := by
  by_cases h : lg r 10 = 0
  · omega
  · exact (lg_has 10 r h).2.1
theorem sm_take_bound (r : List UInt8) : 0 ≤ sm (r.take (lg r 10)) ∧ sm (r.take (lg r 10)) < pw (lg r 10) := by
  have h := sm_bound (r.take (lg r 10))
  rwa [List.length_take, Nat.min_eq_left (lg_le r)] at h

set_option maxRecDepth 100000 in
set_option maxHeartbeats 1000000 in
theorem refU_any (A : Option Addr) (c : Nat) (l : List UInt8) (i : Int) (w : World) (hn : l.length ≤ 1099511627776) (h : Lies w w.heap.size A l) :
    Calls Try.prog 46 #[.slice A l.length c, .int .i64 i] w (RdR false .u64 l i w) := by
  by_cases hi : i < 0 ∨ (l.length : Int) < i
  · have RR := Lib.hid (rd_arg (b := false) hi)
    rcases hi with h1 | h1
    · go_enter Try.func46, Try.ntmps46
      go_wp2
      go_ret3
      exact ⟨by rw [RR.out.1, RR.out.2.1, RR.out.2.2]; rfl, Below.refl _ _⟩
    · have h2 : ¬ i < 0 := by omega
      go_enter Try.func46, Try.ntmps46
      go_wp2
      go_ret3
      exact ⟨by rw [RR.out.1, RR.out.2.1, RR.out.2.2]; rfl, Below.refl _ _⟩
  · obtain ⟨k, rfl⟩ : ∃ k : Nat, i = k := ⟨i.toNat, by omega⟩
    have hk : k ≤ l.length := by omega
    clear hi
    have hlong := long_any A c l k w w.heap.size hn h hk
    have hle := lg_le (l.drop k)
    have hsum := sum_any A c l k (lg (l.drop k) 10) w w.heap.size hn h (by simp at hle; omega)
    have hb := sm_take_bound (l.drop k)
    have hX : hv false (l.drop k) = sm ((l.drop k).take (lg (l.drop k) 10)) % 18446744073709551616 := by simp [hv, val]
    rw [← hX] at hsum
    have hx0 : 0 ≤ hv false (l.drop k) := by rw [hX]; omega
    have hx1 : hv false (l.drop k) < 18446744073709551616 := by rw [hX]; omega
    have hok := rd_ok (b := false) (l := l) (k := k) hk
    have hbad := rd_form (b := false) (l := l) (k := k) hk
    have hgd : good false (l.drop k) ↔ lg (l.drop k) 10 ≠ 0 ∧ nB false (hv false (l.drop k)) <+: l.drop k := Iff.rfl
    have hlen : lg (l.drop k) 10 ≤ 10 := by
      by_cases h0 : lg (l.drop k) 10 = 0
      · omega
      · exact (lg_has 10 _ h0).1
    clear hX hb hle
    generalize lg (l.drop k) 10 = n at *
    generalize hv false (l.drop k) = x at *
    have HL := Lib.hid hlong
    have HS := Lib.hid hsum
    clear hlong hsum
    by_cases h0 : n = 0
    · have RR := Lib.hid (hbad (fun g => (hgd.1 g).1 h0))
      have h00 : (n : Int) ≤ 0 := by omega
      clear hok hbad hgd h0
      go_enter Try.func46, Try.ntmps46
      go_wp2_with (first | (go_at_call 54; refine HL.out.mono ?_; rintro e w' ⟨rfl, rfl⟩) | (go_at_call 55; refine HS.out.mono ?_; rintro e w' ⟨rfl, rfl⟩))
      go_ret3
      exact ⟨by rw [RR.out.1, RR.out.2.1, RR.out.2.2]; rfl, Below.refl _ _⟩
    · have hn0 : 0 < (n : Int) := by omega
      have HOK := Lib.hid hok
      have HBAD := Lib.hid hbad
      have HGD := Lib.hid hgd
      have HN0 := Lib.hid h0
      clear hok hbad hgd h0
      go_enter Try.func46, Try.ntmps46
      go_wp2_with (first | (go_at_call 54; refine HL.out.mono ?_; rintro e w' ⟨rfl, rfl⟩) | (go_at_call 55; refine HS.out.mono ?_; rintro e w' ⟨rfl, rfl⟩))
      refine (refPutU_any none 0 [] x _ (fun _ => rfl) (Lies.empty _ _ _) (by simp) hx0 hx1).mono ?_
      rintro e w1 ⟨v, rfl, ho, hb⟩
      obtain ⟨A2, c2, rfl, _, _, hL2⟩ := ho.form
      rw [List.nil_append] at hL2
      go_wp2_with fail
      refine (refStands_any A A2 c c2 l (nB false x) k _ hn (by rw [nB_len]; have := size_le false x; omega) ((h.below hb).more hb.size) hL2 hk).mono ?_
      rintro e w2 ⟨rfl, hb2⟩
      have HB := Lib.hid (hb.trans (hb2.mono hb.size))
      clear hb hb2 ho hL2
      by_cases hp : nB false x <+: l.drop k
      · have RR := Lib.hid (HOK.out (HGD.out.2 ⟨HN0.out, hp⟩))
        rw [decide_eq_true hp]
        clear hp
        go_wp2
        go_ret3
        exact ⟨by rw [RR.out.1, RR.out.2.1, RR.out.2.2]; rfl, HB⟩
      · have RR := Lib.hid (HBAD.out (fun g => hp (HGD.out.1 g).2))
        rw [decide_eq_false hp]
        clear hp
        go_wp2
        go_ret3
        exact ⟨by rw [RR.out.1, RR.out.2.1, RR.out.2.2]; rfl, HB⟩
end Go.Proofs.Ytgpoicbbmaimpaa
