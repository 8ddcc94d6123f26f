/-
  The walk of IsaBack.
-/
import Derived.Test.YtdapflfbkjoicaaI3X
import Derived.Deep.RegionHeld3
namespace Go.Proofs.Ytdapflfbkjoicaa
open Go.RowKit

theorem ins_neq (a : Ins) (w : World) : (binOp .neq 24 (.agg (ic a)) (.agg (ic a))).run Try.prog w = .ok (.bool false) w := by
  simp [binOp, go_sem, ins_equal]

/-- an instruction's cells in a block -/
def Cell7 (W : World) (g : Nat) (y : Ins) : Prop := W.cell? ⟨g, 0, none⟩ = some (.int .u8 y.k) ∧ W.cell? ⟨g, 1, none⟩ = some (.int .u8 y.o) ∧ W.cell? ⟨g, 2, none⟩ = some (.int .i64 y.r) ∧ W.cell? ⟨g, 3, none⟩ = some (.int .i64 y.s) ∧ W.cell? ⟨g, 4, none⟩ = some (.int .i64 y.t) ∧ W.cell? ⟨g, 5, none⟩ = some (.int .i64 y.n) ∧ W.cell? ⟨g, 6, none⟩ = some (.int .i64 y.m)
theorem Cell7.below {w w' : World} {g B : Nat} {y : Ins} (h : Cell7 w g y) (hb : Below B w w') (h1 : g < B) : Cell7 w' g y := by
  have e1 : ∀ j, w'.cell? ⟨g, j, none⟩ = w.cell? ⟨g, j, none⟩ := fun j => hb.cell (p := ⟨g, j, none⟩) h1
  unfold Cell7 at *
  simp only [e1]
  exact h
theorem zero_eq (w : World) : (binOp .eql 24 (.agg #[.int .u8 0, .int .u8 0, .int .i64 0, .int .i64 0, .int .i64 0, .int .i64 0, .int .i64 0]) (.agg #[.int .u8 0, .int .u8 0, .int .i64 0, .int .i64 0, .int .i64 0, .int .i64 0, .int .i64 0])).run Try.prog w = .ok (.bool true) w := by
  have := ins_eql (insOf 0) (insOf 0) w
  rwa [decide_eq_true (rfl : insOf 0 = insOf 0)] at this

set_option maxRecDepth 100000 in
set_option maxHeartbeats 8000000 in
theorem isaBack_any (A A2 : Option Addr) (c c2 : Nat) (l t : List UInt8) (x : Ins) (w : World) (hr : x.Rng) (hc : A = none → c = 0) (h : Lies w w.heap.size A l) (_hlc : l.length ≤ c) (hc2 : A2 = none → c2 = 0) (h2 : Lies w w.heap.size A2 t) (hlc2 : t.length ≤ c2) :
    Calls Try.prog 5 #[.slice A l.length c, iv x, .slice A2 t.length c2] w (Yes w) := by
  by_cases hbig : 1024 < l.length
  · unfold iv ic
    have hb0 := below_box w (.cells (ic x) 24)
    unfold ic at hb0
    go_enter Try.func5, Try.ntmps5
    go_wp2_with fail
    refine (works_any _).mono ?_
    rintro e w' ⟨rfl, hb⟩
    go_wp2
    go_ret
    exact ⟨rfl, hb0.trans (hb.mono hb0.size)⟩
  by_cases hbig2 : 1024 < t.length
  · unfold iv ic
    have hb0 := below_box w (.cells (ic x) 24)
    unfold ic at hb0
    go_enter Try.func5, Try.ntmps5
    go_wp2_with fail
    refine (works_any _).mono ?_
    rintro e w' ⟨rfl, hb⟩
    go_wp2
    go_ret
    exact ⟨rfl, hb0.trans (hb.mono hb0.size)⟩
  · have HC := Lib.hid hc
    have HC2 := Lib.hid hc2
    have HRG := Lib.hid hr
    have hb0 := below_box w (.cells (ic x) 24)
    have HB0 := Lib.hid hb0
    have HX0 := Lib.hid (show InsAt (w.alloc (.cells (ic x) 24)) w.heap.size x from heap_alloc_new w _)
    have HL0 := Lib.hid ((h.below hb0).more hb0.size)
    have HT0 := Lib.hid (h2.below hb0)
    have hlen := ownB_len x
    have HPU := Lib.hid (isaPut_any A c l x _ hr hc HL0.out (by omega))
    have hRI := fun w => right_any x w
    have HSZ := Lib.hid (fun w => isaSize_any x w hr)
    unfold RightR at hRI
    unfold iv at hRI HSZ HPU
    clear h h2 hc hc2 hb0
    unfold ic at HB0 HX0 HL0 HT0 HPU hRI HSZ
    rcases hright : rightB x with _ | _
    · have HO := Lib.hid (show ownB x = [] by simp [ownB, hright])
      rw [HO.out, List.append_nil] at HPU
      rw [HO.out] at HSZ
      rw [hright] at hRI
      have HRI := Lib.hid hRI
      clear hRI hright hr hlen
      unfold iv ic
      go_enter Try.func5, Try.ntmps5
      go_wp2_with fail
      refine HPU.out.mono ?_
      rintro e w1 ⟨v, rfl, ho, hb1⟩
      obtain ⟨A1, c1, rfl, _, _, hL1⟩ := ho.form
      have hz1 : w.heap.size + 1 ≤ w1.heap.size := by simpa using hb1.size
      have hx1 := HX0.out.below hb1 (by simp)
      obtain ⟨⟨d0, d1, d2, d3, d4, d5, d6⟩, _⟩ := ins_cells hx1
      have HX1 := Lib.hid hx1
      have HL1 := Lib.hid hL1
      have HM1 := Lib.hid ((HL0.out.below hb1).more hb1.size)
      have HB1 := Lib.hid (HB0.out.trans (hb1.mono (by simp)))
      clear ho hL1 hx1 hb1 HPU
      go_wp2_with fail
      refine (HRI.out _).mono ?_
      rintro e w2 ⟨rfl, hb2⟩
      have hz2 := hb2.size
      have hx2 := HX1.out.below hb2 (by omega)
      obtain ⟨⟨e0, e1, e2, e3, e4, e5, e6⟩, _⟩ := ins_cells hx2
      have HL2 := Lib.hid (HL1.out.below hb2)
      have HM2 := Lib.hid (HM1.out.below hb2)
      have HB2 := Lib.hid (HB1.out.trans (hb2.mono (by omega)))
      clear hb2 hx2 d0 d1 d2 d3 d4 d5 d6
      go_wp2_with fail
      refine (eqBytes_same A1 A c1 c l _ _ _ (by omega) HL2.out HM2.out).mono ?_
      rintro e w' ⟨rfl, rfl⟩
      go_wp2_with fail
      refine (HSZ.out _).mono ?_
      rintro e w3 ⟨rfl, hb3⟩
      have HB3 := Lib.hid (HB2.out.trans (hb3.mono (by omega)))
      have hz3 := HB3.out.size
      clear hb3 e0 e1 e2 e3 e4 e5 e6
      go_wp2_with fail
      refine (works_any _).mono ?_
      rintro e w4 ⟨rfl, hb4⟩
      have HB4 := Lib.hid (HB3.out.trans (hb4.mono hz3))
      clear hb4
      go_wp2_with fail
      go_ret
      exact ⟨rfl, HB4.out⟩
    · rw [hright] at hRI
      have HRI := Lib.hid hRI
      have hol := own_len hright
      have HRX := Lib.hid hright
      have HCUT := Lib.hid (fun (W : World) (B : Option Addr) (d k n : Nat) (hL : Lies W W.heap.size B (l ++ ownB x)) (hn : (l ++ ownB x).length = n) (h1 : l.length ≤ k) (h2 : k < n) (h3 : n ≤ d) => cutI (i := x) hr hright d k n hL hn (by omega) h1 h2 h3)
      have HREAD := Lib.hid (fun (W : World) (B : Option Addr) (d n m : Nat) (hL : Lies W W.heap.size B (l ++ ownB x ++ t)) (hn : (l ++ ownB x ++ t).length = n) (hm : (l ++ ownB x).length = m) (h1 : n ≤ 65536) (h2 : n ≤ d) => readI (i := x) hr hright d n m hL hn hm h1 h2)
      clear hRI hright hr
      have HSL := Lib.hid (show (l ++ ownB x).length = l.length + (ownB x).length from List.length_append)
      have HSL2 := Lib.hid (show (l ++ ownB x ++ t).length = l.length + (ownB x).length + t.length by rw [List.length_append, List.length_append])
      generalize ownB x = O at *
      unfold iv ic at HREAD
      unfold iv ic
      go_enter Try.func5, Try.ntmps5
      go_wp2_with fail
      refine HPU.out.mono ?_
      rintro e w1 ⟨v, rfl, ho, hb1⟩
      obtain ⟨A1, m, c1, rfl, hm, hmc, _, hL1⟩ := ho.formN
      have hz1 : w.heap.size + 1 ≤ w1.heap.size := by simpa using hb1.size
      have hx1 := HX0.out.below hb1 (by simp)
      obtain ⟨⟨d0, d1, d2, d3, d4, d5, d6⟩, _⟩ := ins_cells hx1
      have HX1 := Lib.hid hx1
      have HL1 := Lib.hid hL1
      have HT1 := Lib.hid (HT0.out.below (hb1.mono (by simp)))
      have HB1 := Lib.hid (HB0.out.trans (hb1.mono (by simp)))
      clear ho hL1 hx1 hb1 HPU
      go_wp2_with fail
      refine (HRI.out _).mono ?_
      rintro e w2 ⟨rfl, hb2⟩
      have hz2 := hb2.size
      have hx2 := HX1.out.below hb2 (by omega)
      have HX2 := Lib.hid hx2
      have HL2 := Lib.hid ((HL1.out.below hb2).more hz2)
      have HT2 := Lib.hid (HT1.out.below (hb2.mono (by omega)))
      have HB2 := Lib.hid (HB1.out.trans (hb2.mono (by omega)))
      have hms : m = l.length + O.length := by rw [← hm.out, HSL.out]
      have q1 : (l.length : Int) + 1 ≤ (m : Int) := by omega
      have q2 : (m : Int) ≤ (l.length : Int) + 12 := by omega
      have q3 : l.length + 1 ≤ m := by omega
      have q4 : m ≤ l.length + 12 := by omega
      have HMS := Lib.hid hms
      have hcb := copyBytes_any A1 c1 (l ++ O) w2 (by rw [hm.out]; omega) HL2.out
      rw [hm.out] at hcb
      have HCB := Lib.hid hcb
      clear hb2 hx2 d0 d1 d2 d3 d4 d5 d6 hms hcb
      go_wp2_with fail
      refine HCB.out.mono ?_
      rintro e w3 ⟨v1, rfl, ho3, hb3⟩
      have HO3 := Lib.hid ho3
      have HT3 := Lib.hid (HT2.out.below (hb3.mono (by omega)))
      have hz3 := hb3.size
      have HB3 := Lib.hid hb3
      clear ho3 hb3 HCB
      go_wp2_with (at_builtin; refine app_slice _ rfl (.tmp 49) (.tmp 50) rfl w2.heap.size v1 (l ++ O) rfl HO3.out A2 c2 w.heap.size t rfl HC2.out HT3.out (by rw [hm.out]; omega) (by omega) ?_; intro v2 w4 ho4 hg4; obtain ⟨A4, n4, c4, rfl, hn4, hnc4, _, hL4⟩ := ho4.formN; have HB4 := Lib.hid (HB3.out.grown hg4 (by omega) (fun k hk => (HO3.out.lt k hk).1)); have HL4 := Lib.hid hL4; have HG4 := Lib.hid hg4; clear ho4 hL4 hg4)
      have hn4b : n4 ≤ 65536 := by rw [← hn4.out, HSL2.out]; omega
      refine (HREAD.out w4 A4 c4 n4 m HL4.out hn4.out hm.out hn4b hnc4).mono ?_
      rintro e w5 ⟨rfl, hb5⟩
      have hz4 := HB4.out.size
      have hz5 := hb5.size
      have hb25 := HB4.out.trans (hb5.mono hz4)
      have hb26 := hb25.alloc (by omega) (.cells (ic x) 24)
      have hx6 := HX2.out.below hb26 (by omega)
      have hy6 : InsAt (w5.alloc (.cells (ic x) 24)) w5.heap.size x := heap_alloc_new _ _
      obtain ⟨⟨d0, d1, d2, d3, d4, d5, d6⟩, _⟩ := ins_cells hx6
      have HX6 := Lib.hid hx6
      have HB6 := Lib.hid hb26
      have hneq := ins_neq x
      have b1 : ((m : Int) != (m : Int)) = false := by simp
      have b2 : ((O.length : Int) != (m : Int) - (l.length : Int)) = false := by rw [HMS.out]; simp; omega
      unfold ic at HX6 HB6 hneq d0 d1 d2 d3 d4 d5 d6
      clear hb5 hb25 hb26 hx6 hy6
      go_wp2_with fail
      refine (HSZ.out _).mono ?_
      rintro e w7 ⟨rfl, hb7⟩
      have HB7 := Lib.hid (HB6.out.trans (hb7.mono (by simp; omega)))
      have hz7 := HB7.out.size
      have HL7 := Lib.hid ((HL2.out.below HB7.out).more hz7)
      have HT7 := Lib.hid (HT2.out.below (HB7.out.mono (by omega)))
      have HB27 := Lib.hid (HB2.out.trans (HB7.out.mono (by omega)))
      clear hb7 d0 d1 d2 d3 d4 d5 d6 hneq HB6 HX6
      go_wp2_with fail
      clear b1 b2
      go_loopw [12] (fun k wr => ∃ q : Nat, l.length ≤ q ∧ q ≤ m ∧ k = .int .i64 q ∧ Hid (Below w7.heap.size w7 wr)) (fun k _ => m - (intOf k).toNat)
      case atStart => exact ⟨l.length, by omega, by omega, rfl, Below.refl _ _⟩
      case round =>
        obtain ⟨q, hq1, hq2, rfl, hw⟩ := hrel
        have hzw := hw.out.size
        by_cases hlt : q < m
        · have hqc : q ≤ c1 := by omega
          have HC7 := Lib.hid (HCUT.out wr A1 c1 q m ((HL7.out.below hw.out).more hzw) hm.out hq1 hlt hmc)
          go_wp2_with fail
          refine HC7.out.mono ?_
          rintro e w8 ⟨⟨er, her, rfl⟩, hb8⟩
          have HB8 := Lib.hid ((hw.out.trans (hb8.mono hzw)).alloc (by have := hb8.size; omega) (.cells #[.int .u8 0, .int .u8 0, .int .i64 0, .int .i64 0, .int .i64 0, .int .i64 0, .int .i64 0] 24))
          clear hb8 HC7
          go_wp2_with fail
          go_roundw
          case rel => exact ⟨q + 1, by omega, by omega, by go_num, HB8⟩
          case measure => simp [intOf]; omega
        · obtain rfl : q = m := by omega
          have hG := isaGet_any A2 c2 t 0 wr hlc2 (by omega) ((HT7.out.below (hw.out.mono (by omega))).more (by omega))
          unfold GetR at hG
          have HW := Lib.hid (HB27.out.trans (hw.out.mono (by have := HB27.out.size; omega)))
          have HTW := Lib.hid (HT7.out.below (hw.out.mono (by omega)))
          clear hw HCUT HREAD HSZ HRI HL7 HL2 HX2 HX1 HL1
          have hzW := HW.out.size
          rcases headIs t with ⟨p, p1, p2, p3, yr, yright, hP, hl, he, hn⟩ | ⟨he, hi, hn⟩
          · rw [he, hn] at hG
            obtain ⟨y, hy⟩ : ∃ y, y = gI t 0 := ⟨_, rfl⟩
            rw [← hy] at hG yr yright hP hl
            clear hy he hn
            have hRy := fun W => right_any y W
            unfold RightR at hRy
            rw [yright] at hRy
            have HRy := Lib.hid hRy
            have HPy := Lib.hid (fun W => putIs W yr hl)
            rw [hP] at HPy
            have hPl : (t.take p).length = p := by rw [← hP]; exact hl
            have HEy := Lib.hid (fun W B d B1 (h1 : Lies W B1 B (t.take p)) (h2 : Lies W w.heap.size A2 (t.take p)) => eqIs B A2 d c2 B1 w.heap.size W hPl hPl (by omega) h1 h2)
            have HG := Lib.hid hG
            clear hG hRy hP hl yr yright hPl
            unfold iv ic at HG HRy HPy
            go_wp2_with fail
            refine HG.out.mono ?_
            rintro e w8 ⟨rfl, hb8⟩
            have hz8 := hb8.size
            have HB8 := Lib.hid ((HW.out.trans (hb8.mono hzW)).alloc (by omega) (.cells #[.int .u8 y.k, .int .u8 y.o, .int .i64 y.r, .int .i64 y.s, .int .i64 y.t, .int .i64 y.n, .int .i64 y.m] 24))
            have hM8 := ((HTW.out.below (hb8.mono hzW)).alloc (by omega) (.cells #[.int .u8 y.k, .int .u8 y.o, .int .i64 y.r, .int .i64 y.s, .int .i64 y.t, .int .i64 y.n, .int .i64 y.m] 24)).take p
            have hC8 : Cell7 (w8.alloc (.cells #[.int .u8 y.k, .int .u8 y.o, .int .i64 y.r, .int .i64 y.s, .int .i64 y.t, .int .i64 y.n, .int .i64 y.m] 24)) w8.heap.size y := (ins_cells (show InsAt (w8.alloc (.cells #[.int .u8 y.k, .int .u8 y.o, .int .i64 y.r, .int .i64 y.s, .int .i64 y.t, .int .i64 y.n, .int .i64 y.m] 24)) w8.heap.size y from heap_alloc_new _ _)).1
            have HM8 := Lib.hid hM8
            unfold Cell7 at hC8
            obtain ⟨d0, d1, d2, d3, d4, d5, d6⟩ := hC8
            have e1 : (0 : Int) ≤ (p : Int) := by omega
            have e2 : (p : Int) ≤ (c2 : Int) := by omega
            have e3 : p ≤ c2 := by omega
            have e4 : decide ((p : Int) < 1) = false := by simp; omega
            have e5 : decide (p < 1) = false := by simp; omega
            have e6 : decide ((p : Int) ≤ 0) = false := by simp; omega
            have e7 : decide ((t.length : Int) < (p : Int)) = false := by simp; omega
            have e8 : decide (t.length < p) = false := by simp; omega
            clear hb8 hM8
            go_wp2_with fail
            go_region_held3 (fun W => W.cell? ⟨w8.heap.size, 0, none⟩ = some (.int .u8 y.k) ∧ W.cell? ⟨w8.heap.size, 1, none⟩ = some (.int .u8 y.o) ∧ W.cell? ⟨w8.heap.size, 2, none⟩ = some (.int .i64 y.r) ∧ W.cell? ⟨w8.heap.size, 3, none⟩ = some (.int .i64 y.s) ∧ W.cell? ⟨w8.heap.size, 4, none⟩ = some (.int .i64 y.t) ∧ W.cell? ⟨w8.heap.size, 5, none⟩ = some (.int .i64 y.n) ∧ W.cell? ⟨w8.heap.size, 6, none⟩ = some (.int .i64 y.m)) (first | go_keep | (exact Cell7.below (show Cell7 _ w8.heap.size y from by assumption) hb10 (by omega)) | (exact Cell7.below (show Cell7 _ w8.heap.size y from by assumption) hb9 (by simp))) (first
              | (go_at_call 11; refine (HRy.out _).mono ?_; rintro e w9 ⟨rfl, hb9⟩; have hs9 : w8.heap.size + 1 ≤ w9.heap.size := (by simpa using hb9.size); have hM9 : Lies w9 w.heap.size A2 (t.take p) := Lies.below (by exact HM8.out) (Below.mono hb9 (by simp; omega)))
              | (go_at_call 10; refine (HPy.out _).mono ?_; rintro e w10 ⟨Ay, cy, rfl, hLy, hb10⟩; have hM10 : Lies w10 w.heap.size A2 (t.take p) := Lies.below (by exact hM9) (Below.mono hb10 (by omega)))
              | (go_at_call 15; refine (HEy.out _ Ay cy _ (by exact hLy) (by exact hM10)).mono ?_; rintro e w' ⟨rfl, rfl⟩))
            have hb9' : Below w.heap.size _ w9 := Below.mono (by first | exact drawn hb9 | exact hb9) HB8.out.size
            have HB9 := Lib.hid (HB8.out.trans hb9')
            have HB10 := Lib.hid (HB9.out.trans (hb10.mono HB9.out.size))
            clear e1 e2 e3 e4 e5 e6 e7 e8 hb9 hb9' hb10 d0 d1 d2 d3 d4 d5 d6 hLy hM9 hM10
            go_wp2_with fail
            refine (works_any _).mono ?_
            rintro e w11 ⟨rfl, hb11⟩
            have HB11 := Lib.hid (HB10.out.trans (hb11.mono HB10.out.size))
            clear hb11
            go_wp2_with fail
            go_ret
            exact ⟨rfl, HB11.out⟩
          · rw [hi, hn] at hG
            have hef := nbeq_of he
            generalize gE t 0 = er at *
            have HG := Lib.hid hG
            have hz0 := zero_eq
            clear hG he hi hn
            unfold iv ic insOf at HG
            go_wp2_with fail
            refine HG.out.mono ?_
            rintro e w8 ⟨rfl, hb8⟩
            have hz8 := hb8.size
            have HB8 := Lib.hid ((HW.out.trans (hb8.mono hzW)).alloc (by omega) (.cells #[.int .u8 0, .int .u8 0, .int .i64 0, .int .i64 0, .int .i64 0, .int .i64 0, .int .i64 0] 24))
            clear hb8
            go_wp2_with fail
            go_quiet (fail)
            have HB9 := Lib.hid (HB8.out.trans (below_draws nq))
            go_wp2_with fail
            refine (works_any _).mono ?_
            rintro e w9 ⟨rfl, hb9⟩
            have HB10 := Lib.hid (HB9.out.trans (hb9.mono HB9.out.size))
            clear hb9
            go_wp2_with fail
            go_ret
            exact ⟨rfl, HB10.out⟩

end Go.Proofs.Ytdapflfbkjoicaa
