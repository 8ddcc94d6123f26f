/-
  Contract of token.Scan.
-/
import Derived.Test.YtmajhmionghccaaDoorTKH
import Derived.Test.YtmajhmionghccaaDoorTKB
import Derived.Test.YtmajhmionghccaaDoorKO
namespace Go.Proofs.YtmajhmionghccaaDoor
open Go Go.RowKit

/-- tokens in memory -/
def eT : El Tk where
  e := 35
  sz := 4
  f := fun t => [.int .u8 t.kd, .string (str t.tx), .int .i64 t.nu, .int .i64 (t.ln : Int)]
  len := fun _ => rfl
  one := by
    intro x u hu
    simp at hu
    rcases hu with rfl | rfl | rfl | rfl <;> rfl
  pos := by decide
theorem tok_info : (Tryd.prog.info? 35).map (fun i => (i.zero, i.size, i.bytes)) = some (some (.agg #[.int .u8 0, .string ⟨#[]⟩, .int .i64 0, .int .i64 0]), 4, 40) := by kernel_rfl
/-- what scanning tells -/
def ScanR (l : List UInt8) (w : World) (e : Ending) (w' : World) : Prop :=
  Below w.heap.size w w' ∧ ((16384 < l.length ∧ e = .returned (.tuple #[.slice none 0 0, .int .i64 0, .int .i64 11])) ∨ (l.length ≤ 16384 ∧ ((∃ k : Nat, scanP l = .error k ∧ e = .returned (.tuple #[.slice none 0 0, .int .i64 k, .int .i64 6])) ∨ (∃ ts v, scanP l = .ok ts ∧ e = .returned (.tuple #[v, .int .i64 0, .int .i64 0]) ∧ eT.Own w' w.heap.size v ts))))
theorem nl_le (l : List UInt8) : nl l ≤ l.length := List.count_le_length
/-- one more token -/
theorem scan_step {N : Nat} {acc : List Tk} {r : List UInt8} {T : Except Nat (List Tk)} {kd : Int} {s : List UInt8} {nu : Int} (h : appT acc (scanS N r) = T) (ht : tok1 r = some (kd, s, nu)) (hN : nl r ≤ N) :
    s ≠ [] ∧ s.length ≤ r.length ∧ appT (acc ++ [⟨kd, s, nu, N - nl r⟩]) (scanS N (sk false (r.drop s.length))) = T ∧ (sk false (r.drop s.length)).length < r.length ∧ nl (sk false (r.drop s.length)) ≤ N ∧ nl (r.drop s.length) ≤ 1099511627776 + N ∧
      N - nl r + (nl (r.drop s.length) - nl (sk false (r.drop s.length))) = N - nl (sk false (r.drop s.length)) := by
  obtain ⟨h1, h2⟩ := tok1_ok ht
  have h3 := scan_rest h1.ne h2
  have h4 := sk_nl false (r.drop s.length)
  have h5 : nl r = nl (r.drop s.length) := by
    have := congrArg nl h2
    rw [nl_append, nl_zero (tok_nl h1), Nat.zero_add] at this
    exact this
  have h6 : s.length ≤ r.length := by
    have := congrArg List.length h2
    rw [List.length_append] at this
    omega
  refine ⟨h1.ne, h6, ?_, h3, by omega, by omega, by omega⟩
  rw [← h, scanS_some N ht, appT_cons]
set_option maxRecDepth 100000 in
set_option maxHeartbeats 8000000 in
theorem scan_any (A : Option Addr) (c : Nat) (l : List UInt8) (w : World) (hl : Lies w w.heap.size A l) (hL : Laid w) (hn : l.length ≤ 1099511627776) :
    Calls Tryd.prog 9 #[.slice A l.length c] w (ScanR l w) := by
  by_cases hbig : 16384 < l.length
  · have hbi : (16384 : Int) < (l.length : Int) := by omega
    go_enter Tryd.func9, Tryd.ntmps9
    go_wp2_with fail
    go_ret3
    exact ⟨Below.refl _ _, .inl ⟨hbig, rfl⟩⟩
  have hbi : (l.length : Int) ≤ 16384 := by omega
  have hcv : ∀ w', Below w.heap.size w w' → (convert 22 9 (.slice A l.length c)).run Tryd.prog w' = .ok (.string (str l)) w' := fun w' hb => conv_any w' A l c fun j hj => by
    obtain ⟨g, o, e, _, hc⟩ := (hl.below hb).at_ hj
    exact ⟨_, e, by rw [add_zero_off]; exact hc⟩
  have HW := Lib.hid (words_any w)
  obtain ⟨N, hN⟩ : ∃ N, 1 + nl l = N := ⟨_, rfl⟩
  have hNl := nl_le l
  have hT0 : appT [] (scanS N (sk false l)) = scanP l := by
    rw [← hN]
    unfold scanP
    cases scanS (1 + nl l) (sk false l) <;> rfl
  have hk0 := sk_nl false l
  have hk1 := sk_len false l
  have HLG := Lib.hid (fun w' => letGo_any l 1 w' hn (by omega) (by omega))
  have hk2 : (1 : Int) + ((nl l - nl (sk false l) : Nat) : Int) = ((N - nl (sk false l) : Nat) : Int) := by omega
  rw [hk2] at HLG
  have HS0 := Lib.hid (show appT [] (scanS N (sk false l)) = scanP l ∧ ([] : List Tk).length + (sk false l).length ≤ 16384 ∧ nl (sk false l) ≤ N ∧ N ≤ 20000 from ⟨hT0, by simp; omega, by omega, by omega⟩)
  clear hk2 hT0 hk0 hk1 hl hN hNl
  unfold ScanR
  generalize scanP l = TOT at *
  generalize sk false l = r0 at *
  go_enter Tryd.func9, Tryd.ntmps9
  go_wp2_with fail
  refine HW.out.mono ?_
  rintro e w0 ⟨rfl, hkw, hb⟩
  have hcv0 := hcv w0 hb
  have HK := Lib.hid hkw
  have HB := Lib.hid hb
  have HL := Lib.hid (hL.below hb)
  have HLW := Lib.hid hL
  clear HW hcv hkw hb hL
  go_wp2_with fail
  refine (HLG.out _).mono ?_
  rintro e w' ⟨rfl, rfl⟩
  go_wp2_with fail
  go_loopw [2, 3, 6] (fun v ln rs wr => ∃ (acc : List Tk) (r : List UInt8) (A : Option Addr) (n c : Nat), v = .slice A n c ∧ ln = .int .i64 ((N - nl r : Nat) : Int) ∧ rs = .string (str r) ∧ Hid (acc.length = n) ∧ Hid (eT.Own wr w.heap.size (.slice A n c) acc) ∧ Hid (Below w.heap.size w wr) ∧ Hid (Kw wr w.heap.size) ∧ Hid (Laid wr) ∧ Hid (appT acc (scanS N r) = TOT ∧ acc.length + r.length ≤ 16384 ∧ nl r ≤ N ∧ N ≤ 20000)) (fun _ _ rs _ => sizeV rs)
  case atStart => exact ⟨[], r0, none, 0, 0, rfl, rfl, rfl, rfl, El.Own.nil _ _, HB, HK, HL, HS0⟩
  case round =>
    obtain ⟨acc, r, A1, n, c1, rfl, rfl, rfl, hn1, hO, hB, hK, hLd, hS⟩ := hrel
    clear HB HK HL HS0 hcv0 HLG
    have hS4 := hS.out.2.2.2
    have hSl := hS.out.2.1
    rcases r with _ | ⟨c0, r1⟩
    · have hnil : (str ([] : List UInt8)).toList = [] := str_toList []
      have HT := Lib.hid (show TOT = .ok acc by
        rw [← hS.out.1, scanS_nil]
        show Except.ok (acc ++ []) = _
        rw [List.append_nil])
      clear hS hK hLd hn1
      go_wp2_with fail
      go_ret3
      exact ⟨hB.out, .inr ⟨by omega, .inr ⟨acc, _, HT.out, rfl, hO.out⟩⟩⟩
    · have hne : (!(str (c0 :: r1)).toList.isEmpty) = true := by rw [str_toList]; rfl
      have HF := Lib.hid (first_any c0 r1 w.heap.size wr (by omega) hK.out hLd.out)
      have HNE := Lib.hid (show c0 :: r1 ≠ [] by simp)
      unfold OneR at HF
      generalize c0 :: r1 = r at *
      have hrs := str_sz r
      go_wp2_with fail
      refine HF.out.mono ?_
      rintro e w1 ⟨hb1, kd, s, nu, bb, rfl, hres⟩
      clear HF
      have hz1 := hb1.size
      have hzB := hB.out.size
      have HB1 := Lib.hid (hB.out.trans (hb1.mono hzB))
      have HK1 := Lib.hid (hK.out.below hb1)
      have HL1 := Lib.hid (hLd.out.below hb1)
      have HO1 := Lib.hid (hO.out.below hb1)
      have hB1z := HB1.out.size
      clear hb1 hB hK hLd hO
      rcases hres with ⟨ht, rfl⟩ | ⟨ht, rfl⟩
      · have HT := Lib.hid (show TOT = .error (N - nl r) by
          rw [← hS.out.1, scanS_none N HNE.out ht]
          rfl)
        clear hS ht
        unfold tokV
        go_wp2_with fail
        go_ret3
        exact ⟨HB1.out.alloc (by omega) _, .inr ⟨by omega, .inl ⟨_, HT.out, rfl⟩⟩⟩
      · obtain ⟨hs0, hsl, hS2, hsh, hnl2, hnl3, hln⟩ := scan_step hS.out.1 ht hS.out.2.2.1
        have hd := fun w' => run_drop_str w' r s.length hsl
        have HLG := Lib.hid (fun w' => letGo_any (r.drop s.length) ((N - nl r : Nat) : Int) w' (by rw [List.length_drop]; omega) (by omega) (by omega))
        rw [← Int.natCast_add, hln] at HLG
        have HS2 := Lib.hid (show appT (acc ++ [⟨kd, s, nu, N - nl r⟩]) (scanS N (sk false (r.drop s.length))) = TOT ∧ (acc ++ [(⟨kd, s, nu, N - nl r⟩ : Tk)]).length + (sk false (r.drop s.length)).length ≤ 16384 ∧ nl (sk false (r.drop s.length)) ≤ N ∧ N ≤ 20000 from ⟨hS2, by rw [List.length_append, List.length_singleton]; omega, hnl2, hS4⟩)
        have HSH := Lib.hid hsh
        have hss := str_sz s
        clear hS ht hs0 hS2 hsh hnl2 hnl3 hln
        generalize r.drop s.length = r2 at *
        generalize sk false r2 = r3 at *
        have hn2 : acc.length ≤ 1000000 := by omega
        have HACC := Lib.hid hn1
        clear hn1
        unfold tokV
        have hX0 : Below w1.heap.size w1 (w1.alloc (.cells #[.int .u8 kd, .string (str s), .int .i64 nu, .int .i64 ((N - nl r : Nat) : Int)] 35)) := (Below.refl _ _).alloc (Nat.le_refl _) _
        have hXn := heap_alloc_new w1 (.cells #[.int .u8 kd, .string (str s), .int .i64 nu, .int .i64 ((N - nl r : Nat) : Int)] 35)
        have hXz : (w1.alloc (.cells #[.int .u8 kd, .string (str s), .int .i64 nu, .int .i64 ((N - nl r : Nat) : Int)] 35)).heap.size = w1.heap.size + 1 := by simp
        have HX : Hid (∀ X0, w1.alloc (.cells #[.int .u8 kd, .string (str s), .int .i64 nu, .int .i64 ((N - nl r : Nat) : Int)] 35) = X0 → Below w1.heap.size w1 X0 ∧ X0.heap[w1.heap.size]? = some (.cells #[.int .u8 kd, .string (str s), .int .i64 nu, .int .i64 ((N - nl r : Nat) : Int)] 35 (0, 0)) ∧ X0.heap.size = w1.heap.size + 1) := by
          rintro _ rfl
          exact ⟨hX0, hXn, hXz⟩
        clear hX0 hXn hXz
        obtain ⟨hx1, hx2, hx3⟩ := HX.out _ rfl
        have hY := hx1.trans ((Below.refl _ _).alloc (by omega) (.cells #[.int .u8 kd, .string (str s), .int .i64 nu, .int .i64 ((N - nl r : Nat) : Int)] 35))
        have hY2 := heap_alloc_new (w1.alloc (.cells #[.int .u8 kd, .string (str s), .int .i64 nu, .int .i64 ((N - nl r : Nat) : Int)] 35)) (.cells #[.int .u8 kd, .string (str s), .int .i64 nu, .int .i64 ((N - nl r : Nat) : Int)] 35)
        rw [hx3] at hY2
        have HY2 := Lib.hid hY2
        have HOX := Lib.hid (HO1.out.below hY)
        have HBX := Lib.hid (HB1.out.trans (hY.mono hB1z))
        have HKX := Lib.hid (HK1.out.below hY)
        have HSX : Hid (∀ w6 : World, ((w1.alloc (.cells #[.int .u8 kd, .string (str s), .int .i64 nu, .int .i64 ((N - nl r : Nat) : Int)] 35)).alloc (.cells #[.int .u8 kd, .string (str s), .int .i64 nu, .int .i64 ((N - nl r : Nat) : Int)] 35)).grownBy w6 (Value.slice A1 n c1).ownBlock → w6.cell? ⟨w1.heap.size, 1, none⟩ = some (.string (str s))) := by
          intro w6 hg6
          have hq : w6.heap[w1.heap.size]? = some (.cells #[.int .u8 kd, .string (str s), .int .i64 nu, .int .i64 ((N - nl r : Nat) : Int)] 35 (0, 0)) := (hg6.block w1.heap.size (by simp; omega) (fun e => by have := (HO1.out.lt _ e.symm).2.1; omega)).trans (((Below.heap_alloc _ _ _ (by rw [hx3]; omega))).trans hx2)
          exact CAt.cell (e := 35) (cs := [.int .u8 kd, .string (str s), .int .i64 nu, .int .i64 ((N - nl r : Nat) : Int)]) hq (j := 1) (by simp)
        clear HX hx1 hx2 hx3 hY hY2
        go_wp2_with (at_builtin
                     refine El.app1 eT _ rfl 25 (.agg #[.int .u8 0, .string ⟨#[]⟩, .int .i64 0, .int .i64 0]) 40 Tryd.underlying25 tok_info rfl (by omega) (by decide) (.tmp 32) (.tmp 34) rfl w.heap.size _ acc rfl HOX.out (w1.heap.size + 1) 1 ⟨kd, s, nu, N - nl r⟩ rfl 35 HY2.out hn2 HBX.out.size ?_
                     intro v6 w6 ho6 hg6
                     have HO6 := Lib.hid ho6
                     have HG6 := Lib.hid hg6
                     have hs1 := HSX.out w6 hg6
                     obtain ⟨A6, n6, c6, rfl, hn6, _, _, _⟩ := ho6.formN
                     clear ho6 hg6)
        refine (HLG.out _).mono ?_
        rintro e w' ⟨rfl, rfl⟩
        go_wp2_with fail
        have HB6 := Lib.hid (El.below_grown HBX.out HG6.out HOX.out HBX.out.size)
        go_round
        case rel =>
          refine ⟨_, r3, A6, n6, c6, rfl, rfl, rfl, hn6, HO6.out, HB6.out, ?_, HLW.out.below HB6.out, HS2.out⟩
          refine HKX.out.at_ (HG6.out.block _ HKX.out.lt fun e => ?_)
          obtain ⟨_, _, hh⟩ := HOX.out.has _ e.symm
          obtain ⟨_, _, _, _, hm, _⟩ := HKX.out
          rw [hh] at hm
          cases hm
        case measure => simp only [sizeV, str_sz]; exact HSH.out
end Go.Proofs.YtmajhmionghccaaDoor
