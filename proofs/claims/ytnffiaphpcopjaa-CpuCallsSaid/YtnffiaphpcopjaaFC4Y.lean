/-
  Merged for a claim: C4Y.
-/
import Derived.Test.YtnffiaphpcopjaaFC4X
import Derived.Test.YtnffiaphpcopjaaFI3L
import Derived.Test.YtnffiaphpcopjaaFC4N
import Derived.LoopTactic
namespace Go.Proofs.Ytnffiaphpcopjaa
open Go Go.RowKit

/-- bytes, and an instruction put behind them -/
def PutLR (l : List UInt8) (i : Ins) (w : World) (e : Ending) (w' : World) : Prop := ∃ A c l', e = .returned (.slice A l'.length c) ∧ Hid (l' = l ++ ownB i) ∧ (A = none → c = 0) ∧ Lies w' w'.heap.size A l' ∧ Below w.heap.size w w'
theorem putL (A : Option Addr) (c : Nat) (l : List UInt8) (i : Ins) (w : World) (hr : i.Rng) (hc : A = none → c = 0) (h : Lies w w.heap.size A l) (hn : l.length ≤ 1099511627776) : Calls Try.prog 8 #[.slice A l.length c, iv i] w (PutLR l i w) := by
  refine (isaPut_any A c l i w hr hc h hn).mono ?_
  rintro e w' ⟨v, rfl, ho, hb⟩
  obtain ⟨A', c', rfl, _, h1, h2⟩ := ho.form
  exact ⟨A', c', _, rfl, rfl, h1, h2, hb⟩
/-- the code so far -/
def CodeI (w wr : World) (q : Nat) (A : Option Addr) (c : Nat) (l : List UInt8) : Prop := l = cf q ∧ (A = none → c = 0) ∧ Lies wr wr.heap.size A l ∧ Below w.heap.size w wr
theorem m0_cM (K n : Nat) : m0 (cfAll K) 0 n [] = cM K n 0 n 0 0 0 := rfl

/-- an instruction as a value -/
def iw (k o r s t n m : Int) : Value := .agg #[.int .u8 k, .int .u8 o, .int .i64 r, .int .i64 s, .int .i64 t, .int .i64 n, .int .i64 m]
theorem okc {K n : Nat} {k : Nat} (hk : K ≤ 59) (hn : n ≤ 40) (hk2 : k ≤ 1000) : Okm (cM K n 0 n 0 0 0) k :=
  ⟨by show (cfAll K).length ≤ _; have := cf_len K (by omega); have := ret_ok.2; simp only [cfAll, List.length_append]; omega, by show (wdC n 0).length ≤ _; rw [wdC_len]; omega, by show [].length + k ≤ _; simp; omega⟩

set_option maxRecDepth 100000 in
set_option maxHeartbeats 4000000 in
theorem cpuCalls_any (a b : Nat) (ha : a < 256) (hb : b < 256) (W : World) : Calls Try.prog 5 #[.int .u8 a, .int .u8 b] W (Yes4 W) := by
  obtain ⟨n, hn0⟩ : ∃ n, n = 1 + a % 40 := ⟨_, rfl⟩
  obtain ⟨K, hK⟩ : ∃ K, K = b % 60 := ⟨_, rfl⟩
  have e0 : 1 + (a : Int) % 40 = (n : Int) := by rw [hn0]; omega
  have e1 : 1 + (b : Int) % 60 = (K : Int) + 1 := by rw [hK]; omega
  have hn1 : 1 ≤ n := by omega
  have hn : n ≤ 40 := by omega
  have hk : K ≤ 59 := by omega
  have HP1 : Hid (Calls Try.prog 8 #[.slice none 0 0, .agg #[.int .u8 12, .int .u8 0, .int .i64 0, .int .i64 0, .int .i64 0, .int .i64 6, .int .i64 0]] W (PutLR [] (callI 6) W)) := putL none 0 [] (callI 6) W (call_rng (by decide) (by decide)) (fun _ => rfl) (Lies.empty _ _ _) (by simp)
  clear hn0 hK
  go_enter Try.func5, Try.ntmps5
  go_wp2_with fail
  refine HP1.out.mono ?_
  rintro e w1 ⟨A1, c1, l1, rfl, hl1, hc1, hL1, hb1⟩
  have hn1' : l1.length ≤ 100 := by rw [hl1.out, List.nil_append, call_len (by decide) (by decide)]; omega
  have HP2 : Hid (Calls Try.prog 8 #[.slice A1 l1.length c1, .agg #[.int .u8 17, .int .u8 0, .int .i64 15, .int .i64 0, .int .i64 0, .int .i64 0, .int .i64 0]] w1 (PutLR l1 haltI w1)) := putL A1 c1 l1 haltI w1 halt_rng hc1 hL1 (by omega)
  have HB1 := Lib.hid hb1
  clear hb1 hL1 hc1 HP1
  go_wp2_with fail
  refine HP2.out.mono ?_
  rintro e w2 ⟨A2, c2, l2, rfl, hl2, hc2, hL2, hb2⟩
  have HI : Hid (CodeI W w2 0 A2 c2 l2) := ⟨by rw [hl2.out, hl1.out, List.nil_append]; rfl, hc2, hL2, HB1.out.trans (hb2.mono HB1.out.size)⟩
  clear hb2 hL2 hc2 HP2 hl2 hl1 hn1' HB1
  go_wp2_with fail
  go_loopw [7, 8] (fun v j wr => ∃ (q : Nat) (A : Option Addr) (c : Nat) (l : List UInt8), q ≤ K ∧ v = .slice A l.length c ∧ j = .int .i64 (q + 1) ∧ Hid (CodeI W wr q A c l)) (fun _ j _ => K + 1 - (intOf j).toNat)
  case atStart => exact ⟨0, A2, c2, l2, by omega, rfl, rfl, HI⟩
  case round =>
    obtain ⟨q, A, c, l, hq, rfl, rfl, hI⟩ := hrel
    clear HI
    obtain ⟨hl, hc, hL, hb⟩ := hI.out
    have hlen : l.length ≤ 306 := by rw [hl, cf_len q (by omega)]; omega
    have HL := Lib.hid hl
    have HB := Lib.hid hb
    by_cases hlt : q < K
    · have HPa : Hid (Calls Try.prog 8 #[.slice A l.length c, .agg #[.int .u8 12, .int .u8 0, .int .i64 0, .int .i64 0, .int .i64 0, .int .i64 ((l.length : Int) + 5), .int .i64 0]] wr (PutLR l (callI ((l.length : Int) + 5)) wr)) := putL A c l (callI ((l.length : Int) + 5)) wr (call_rng (by omega) (by omega)) hc hL (by omega)
      clear hl hc hL hb hI
      go_wp2_with fail
      refine HPa.out.mono ?_
      rintro e w3 ⟨A3, c3, l3, rfl, hl3, hc3, hL3, hb3⟩
      have hl3n : l3.length ≤ 400 := by rw [hl3.out, List.length_append, call_len (by omega) (by omega)]; omega
      have HPb : Hid (Calls Try.prog 8 #[.slice A3 l3.length c3, .agg #[.int .u8 13, .int .u8 0, .int .i64 0, .int .i64 0, .int .i64 0, .int .i64 0, .int .i64 0]] w3 (PutLR l3 retI w3)) := putL A3 c3 l3 retI w3 ret_rng hc3 hL3 (by omega)
      have HB3 := Lib.hid (HB.out.trans (hb3.mono HB.out.size))
      clear hb3 hL3 hc3 HPa HB
      go_wp2_with fail
      refine HPb.out.mono ?_
      rintro e w4 ⟨A4, c4, l4, rfl, hl4, hc4, hL4, hb4⟩
      have HI4 : Hid (CodeI W w4 (q + 1) A4 c4 l4) := ⟨by rw [hl4.out, hl3.out, cf, ← HL.out], hc4, hL4, HB3.out.trans (hb4.mono HB3.out.size)⟩
      clear hb4 hL4 hc4 HPb HB3 hl4 hl3
      go_wp2_with fail
      go_roundw
      case rel => exact ⟨q + 1, A4, c4, l4, by omega, rfl, by go_num, HI4⟩
      case measure => simp [intOf]; omega
    · obtain rfl : q = K := by omega
      have HPb : Hid (Calls Try.prog 8 #[.slice A l.length c, .agg #[.int .u8 13, .int .u8 0, .int .i64 0, .int .i64 0, .int .i64 0, .int .i64 0, .int .i64 0]] wr (PutLR l retI wr)) := putL A c l retI wr ret_rng hc hL (by omega)
      clear hl hc hL hb hI
      go_wp2_with fail
      refine HPb.out.mono ?_
      rintro e w3 ⟨A3, c3, l3, rfl, hl3, hc3, hL3, hb3⟩
      have hl3n : l3.length ≤ 400 := by rw [hl3.out, List.length_append, ret_ok.2]; omega
      have hl3e : l3 = cfAll q := by rw [hl3.out, HL.out]; rfl
      have HN : Hid (Calls Try.prog 19 #[.slice A3 l3.length c3, .int .i64 0, .int .i64 n, .slice none 0 0] w3 (NewR l3 0 n [] w3)) := new_good A3 none c3 0 l3 [] 0 n w3 hL3 (fun h => absurd h (by simp)) (by simp) (by omega) (by omega) (by omega) (by omega) (by omega)
      have HE3 := Lib.hid hl3e
      have HB3 := Lib.hid (HB.out.trans (hb3.mono HB.out.size))
      clear hb3 hL3 hc3 HPb HB hl3 hl3e
      go_wp2_with fail
      refine HN.out.mono ?_
      rintro e w4 ⟨g, p, rfl, hM, hb4⟩
      rw [HE3.out, m0_cM] at hM
      have HR := Lib.hid (run_any hM 1000 (okc hk hn (by decide)))
      have HB4 := Lib.hid (HB3.out.trans (hb4.mono HB3.out.size))
      have HS0 : Hid (∀ k, grow none_ w3 w4 k → W.heap.size ≤ k) := fun k hk => by
        rcases hk with h | h
        · exact absurd h (fun h => h)
        · have := h.1; have := HB3.out.size; omega
      clear hM hb4 HN HB3
      generalize grow none_ w3 w4 = S at HR HS0
      unfold RunR at HR
      simp only [show (1000 : Int).toNat = 1000 from rfl] at HR
      by_cases hnk : n < q + 1
      · obtain ⟨L, hrun⟩ := run_full hk hn hnk
        rw [hrun] at HR
        simp only [cM] at HR
        clear hrun
        go_wp2_with fail
        refine HR.out.mono ?_
        rintro e w5 ⟨rfl, p5, hM5, hk5⟩
        have HB5 := Lib.hid (HB4.out.trans (hk5.below HS0.out HB4.out.size))
        have HH := Lib.hid (halted_any hM5)
        have HO := Lib.hid (regs_any hM5)
        simp only [haltV, haltB] at HH
        clear hM5 hk5 HR
        go_wp2_with fail
        refine HH.out.mono ?_
        rintro e w' ⟨rfl, rfl⟩
        go_wp2_with fail
        refine HO.out.mono ?_
        rintro e w6 ⟨v, rfl, h1, h2, -⟩
        obtain ⟨A6, c6, rfl, hc6, hls⟩ := h1.ils
        obtain ⟨g6, o6, rfl, -, q6⟩ := hls (by simp)
        have c15 := q6 15 (by simp)
        have HB6 := Lib.hid (HB5.out.trans (h2.mono HB5.out.size))
        simp at c15
        clear h1 h2 hls q6 HO HH
        go_wp2_with fail
        refine (works4_any _).mono ?_
        rintro e w7 ⟨rfl, hb7⟩
        have HB7 := Lib.hid (HB6.out.trans (hb7.mono HB6.out.size))
        clear hb7
        go_wp2_with fail
        go_ret
        exact ⟨rfl, HB7.out⟩
      · obtain ⟨L, hrun⟩ := run_halts hk hn (by omega)
        rw [hrun] at HR
        simp only [cM] at HR
        clear hrun
        go_wp2_with fail
        refine HR.out.mono ?_
        rintro e w5 ⟨rfl, p5, hM5, hk5⟩
        have HB5 := Lib.hid (HB4.out.trans (hk5.below HS0.out HB4.out.size))
        have HH := Lib.hid (halted_any hM5)
        simp only [haltV, haltB] at HH
        clear hM5 hk5 HR
        go_wp2_with fail
        refine HH.out.mono ?_
        rintro e w' ⟨rfl, rfl⟩
        go_wp2_with fail
        refine (works4_any _).mono ?_
        rintro e w7 ⟨rfl, hb7⟩
        have HB7 := Lib.hid (HB5.out.trans (hb7.mono HB5.out.size))
        clear hb7
        go_wp2_with fail
        go_ret
        exact ⟨rfl, HB7.out⟩

end Go.Proofs.Ytnffiaphpcopjaa
