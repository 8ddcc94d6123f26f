/-
  TokenShape where a source has tokens.
-/
import Derived.Test.YtmajhmionghccaaDoorTSB
import Derived.Test.YtmajhmionghccaaDoorTBB
import Derived.Test.YtmajhmionghccaaDoorTCD
namespace Go.Proofs.YtmajhmionghccaaDoor
open Go Go.RowKit

def mB : Value → Nat
  | .bool true => 0
  | _ => 1
set_option maxRecDepth 100000 in
set_option maxHeartbeats 8000000 in
theorem shape_ok (A : Option Addr) (c : Nat) (l : List UInt8) (w : World) (hA : Lies w w.heap.size A l) (hlc : l.length ≤ c) (hAc : A = none → c = 0) (hL : Laid w) (hn : l.length ≤ 8192) (ts : List Tk) (hs : scanP l = .ok ts) :
    Calls Tryd.prog 5 #[.slice A l.length c] w (TrueR11 w) := by
  have hni : (l.length : Int) ≤ 8192 := by omega
  have H1 := Lib.hid (scan_ok (c := c) hA hL (by omega) hs)
  have HL := Lib.hid hL
  have HA := Lib.hid hA
  have htl : ts.length ≤ 16384 := by
    have h1 := (scan_all _ _ _ _ (Nat.le_refl _) hs).2.2
    have h2 := sk_len false l
    omega
  obtain ⟨N, HN⟩ : ∃ N, Hid (N = 1 + nl l) := ⟨_, rfl⟩
  have HS0 := Lib.hid (show scanS N (sk false l) = .ok (ts.drop 0) by rw [HN.out]; exact hs)
  clear hs hL hA
  go_enter Tryd.func5, Tryd.ntmps5
  go_wp2_with fail
  refine H1.out.mono ?_
  rintro e w1 ⟨hb1, A1, c1, rfl, hc1, hc1n, hT1⟩
  have HB1 := Lib.hid hb1
  have HT1 := Lib.hid hT1
  clear H1 hb1 hT1
  go_wp2_with fail
  go_loopw [8, 9, 10] (fun at_ ln i wr => ∃ (j : Nat) (x u : List UInt8), j ≤ ts.length ∧ at_ = .int .i64 (x.length : Int) ∧ ln = .int .i64 ((1 + nl x : Nat) : Int) ∧ i = .int .i64 j ∧ Hid (l = x ++ u) ∧ Hid (scanS N (sk false u) = .ok (ts.drop j)) ∧ Hid (Below w1.heap.size w1 wr)) (fun _ _ i _ => ts.length - (intOf i).toNat)
  case atStart => exact ⟨0, [], l, by omega, rfl, rfl, rfl, rfl, HS0, Below.refl _ _⟩
  case round =>
    obtain ⟨j, x, u, hj, rfl, rfl, rfl, HX, HS, HB⟩ := hrel
    by_cases hlt : j < ts.length
    · have hq : scanS N (sk false u) = .ok (ts[j] :: ts.drop (j + 1)) := by rw [HS.out, ← List.drop_eq_getElem_cons hlt]
      obtain ⟨y, z, hu, hok, hln, hQ, hW, hnx, hnt, c0, s0, htx, hc0⟩ := sh_step HX.out HN.out hq
      clear hq HS HS0
      obtain ⟨g, o, rfl, hg, hc⟩ := (HT1.out.below HB.out).lies.at_ hlt
      generalize ts[j] = t at *
      obtain ⟨kd, tx, nu, ln⟩ := t
      dsimp only at hu hok hln hnt htx
      have d0 := hc 0 _ rfl
      have d1 := hc 1 _ rfl
      have d2 := hc 2 _ rfl
      have d3 := hc 3 _ rfl
      clear hc
      simp only [Nat.add_zero, show eT.sz = 4 from rfl] at d0 d1 d2 d3
      have hne : ¬ (str tx).toList = [] := by rw [str_toList, htx]; simp
      have hne2 : (!(str tx).toList.isEmpty) = true := by rw [str_toList, htx]; rfl
      have hXl : x.length + y.length + tx.length + z.length = l.length := by
        rw [HX.out, hu]; simp; omega
      have hnlx := nl_le x
      have hnly := nl_le y
      have HLN := Lib.hid hln
      have HLNI := Lib.hid (show (ln : Int) = 1 + ((nl x : Nat) : Int) + ((nl y : Nat) : Int) by omega)
      have hlx : 1 + ((nl x : Nat) : Int) ≤ (ln : Int) := by omega
      have hlx2 : (ln : Int) ≤ 20000 := by omega
      clear hln HLN
      obtain ⟨LN, HLNe⟩ : ∃ LN : Int, Hid ((ln : Int) = LN) := ⟨_, rfl⟩
      have d3' : wr.cell? ⟨g, o + j * 4 + 3, none⟩ = some (.int .i64 (ln : Int)) := d3
      clear d3
      rw [HLNe.out] at HLNI hlx hlx2 d3'
      clear HLNe
      have hor : ¬ ((str tx).toList.isEmpty = true ∨ LN < 1 + ((nl x : Nat) : Int)) := by
        rintro (h | h)
        · rw [h] at hne2; cases hne2
        · omega
      have hb2 : Below wr.heap.size wr (wr.alloc (.cells #[.int .u8 kd, .string (str tx), .int .i64 nu, .int .i64 LN] 35)) := (Below.refl _ _).alloc (Nat.le_refl _) _
      have hca : CAt (wr.alloc (.cells #[.int .u8 kd, .string (str tx), .int .i64 nu, .int .i64 LN] 35)) wr.heap.size 35 [.int .u8 kd, .string (str tx), .int .i64 nu, .int .i64 LN] := heap_alloc_new wr _
      obtain ⟨w2, HW2⟩ : ∃ w2, Hid (wr.alloc (.cells #[.int .u8 kd, .string (str tx), .int .i64 nu, .int .i64 LN] 35) = w2) := ⟨_, rfl⟩
      rw [HW2.out] at hb2 hca
      have HB2 := Lib.hid hb2
      have HCA := Lib.hid hca
      clear hb2 hca
      have HU := Lib.hid hu
      have HOK := Lib.hid hok
      have HQ := Lib.hid hQ
      have HW := Lib.hid hW
      have HNX := Lib.hid hnx
      have HNT := Lib.hid hnt
      have HTX := Lib.hid htx
      have HC0 := Lib.hid hc0
      clear hu hok hQ hW hnx hnt htx hc0
      go_wp2_with fail
      rw [HW2.out]
      have HBW := Lib.hid (HB1.out.trans ((HB.out.trans (HB2.out.mono HB.out.size)).mono HB1.out.size))
      have s0 := HCA.out.cell (j := 0) (by simp)
      have s1 := HCA.out.cell (j := 1) (by simp)
      have s2 := HCA.out.cell (j := 2) (by simp)
      have s3 := HCA.out.cell (j := 3) (by simp)
      simp only [List.getElem_cons_zero, List.getElem_cons_succ] at s0 s1 s2 s3
      have HA2 := Lib.hid ((HA.out.below HBW.out).more HBW.out.size)
      clear d0 d1 d2 d3' hor hlx
      go_loop [8, 9] (fun at_ ln => ∃ x1 y1 : List UInt8, at_ = .int .i64 (x1.length : Int) ∧ ln = .int .i64 (1 + ((nl x1 : Nat) : Int)) ∧ Hid (l = x1 ++ (y1 ++ (tx ++ z))) ∧ Hid (nl x1 + nl y1 = nl x + nl y) ∧ Hid (Qe y1) ∧ Hid (0 < nl y1 ∨ Wh y1)) (fun at_ _ => l.length - (intOf at_).toNat)
      case atStart => exact ⟨x, y, rfl, by go_num, by rw [← HU.out]; exact HX.out, rfl, HQ, HW⟩
      case round =>
        obtain ⟨x1, y1, rfl, rfl, hx1, hn1, hq1, hw1⟩ := hrel
        have hl1 : x1.length + y1.length + tx.length + z.length = l.length := by rw [hx1.out]; simp; omega
        have hnx1 := nl_le x1
        by_cases hp : 0 < nl y1
        · rcases y1 with _ | ⟨d, y2⟩
          · simp [nl] at hp
          obtain ⟨hqs, hws⟩ := hq1.out.step hp
          have hxl : x1.length < l.length := by simp at hl1; omega
          obtain ⟨g, o, rfl, hg, hcell⟩ := HA2.out.at_ hxl
          have hd : l[x1.length] = d := by simp [hx1.out]
          rw [hd] at hcell
          have hlt1 : 1 + ((nl x1 : Nat) : Int) < LN := by have := HLNI.out; have := hn1.out; omega
          have HX1 := Lib.hid (show l = (x1 ++ [d]) ++ (y2 ++ (tx ++ z)) by rw [hx1.out]; simp)
          have HN1 := Lib.hid (show nl (x1 ++ [d]) + nl y2 = nl x + nl y by
            have := hn1.out
            rw [nl_cons] at this
            rw [nl_append, nl_cons, nl_nil]
            omega)
          have HQ1 := Lib.hid hqs
          have HW1 := Lib.hid hws
          have HNE := Lib.hid (show nl (x1 ++ [d]) = nl x1 + if d = 10 then 1 else 0 by rw [nl_append, nl_cons, nl_nil, Nat.zero_add])
          have HLe := Lib.hid (show (x1 ++ [d]).length = x1.length + 1 by simp)
          clear hqs hws hx1 hn1 hq1 hw1 hp hd HX HU HQ HW
          by_cases h10 : d = 10
          · subst h10
            replace hcell : w2.cell? ⟨g, o + x1.length, none⟩ = some (.int .u8 10) := hcell
            go_wp2_with fail
            go_round
            case rel => exact ⟨x1 ++ [10], y2, by rw [HLe.out]; go_num, by rw [HNE.out]; go_num, HX1, HN1, HQ1, HW1⟩
            case measure => simp [intOf]; omega
          · have hx2 : ¬ ((d.toNat : Nat) : Int) = 10 := fun e => h10 (UInt8.toNat_inj.1 (show d.toNat = 10 by omega))
            rw [if_neg h10] at HNE
            generalize ((d.toNat : Nat) : Int) = XX at *
            go_wp2_with fail
            go_round
            case rel => exact ⟨x1 ++ [d], y2, by rw [HLe.out]; go_num, by rw [HNE.out]; go_num, HX1, HN1, HQ1, HW1⟩
            case measure => simp [intOf]; omega
        · have hwh := hw1.out.resolve_left hp
          have hge1 : LN ≤ 1 + ((nl x1 : Nat) : Int) := by have := HLNI.out; have := hn1.out; omega
          have HWH := Lib.hid (show Wh y1 ∧ nl y1 = 0 from ⟨hwh, by omega⟩)
          clear hwh hw1 hq1 hp
          go_wp2_with fail
          have HX1 := Lib.hid hx1.out
          clear hx1 hn1 hge1 hlx2 s3
          go_loopw [8, 12] (fun at_ fo wr_2 => ∃ (b : Bool) (x2 y2 : List UInt8), at_ = .int .i64 (x2.length : Int) ∧ fo = .bool b ∧ Hid (l = x2 ++ (y2 ++ (tx ++ z))) ∧ Hid (nl x2 = nl x1) ∧ Hid (Wh y2 ∧ nl y2 = 0) ∧ Hid (b = true → y2 = []) ∧ Hid (Below w2.heap.size w2 wr_2)) (fun at_ fo _ => 2 * (l.length - (intOf at_).toNat) + mB fo)
          case atStart => exact ⟨false, x1, y1, rfl, rfl, HX1, rfl, HWH, (by intro h; cases h), Below.refl _ _⟩
          case round =>
            obtain ⟨b, x2, y2, rfl, rfl, hx2, hn2, hw2, he2, HB4⟩ := hrel
            have HCA4 := Lib.hid (HCA.out.below HB4.out HCA.out.lt)
            have s1 := HCA4.out.cell (j := 1) (by simp)
            simp only [List.getElem_cons_zero, List.getElem_cons_succ] at s1
            have HA4 := Lib.hid ((HA2.out.below HB4.out).more HB4.out.size)
            have hl2 : x2.length + y2.length + tx.length + z.length = l.length := by rw [hx2.out]; simp; omega
            have hnx2 := nl_le x2
            have htl2 := str_sz tx
            rcases b with _ | _
            · obtain ⟨A', c', hsl, hcv⟩ := sub_str HA4.out hlc hAc (k := x2.length) (m := x2.length + tx.length) (by omega) (by omega)
              rw [show x2.length + tx.length - x2.length = tx.length by omega] at hsl hcv
              rw [Int.natCast_add] at hsl
              have hdr : l.drop x2.length = y2 ++ (tx ++ z) := by rw [hx2.out]; simp
              rw [hdr] at hcv
              rcases y2 with _ | ⟨d, y3⟩
              · have htk : (([] : List UInt8) ++ (tx ++ z)).take tx.length = tx := by simp
                rw [htk] at hcv
                have HXX := Lib.hid (show l = x2 ++ ([] ++ (tx ++ z)) from hx2.out)
                have HNN := Lib.hid hn2.out
                have hcvn := fun n => hcv (wr.drewN n) (below_draws n)
                have HWN := Lib.hid (show Wh [] ∧ nl [] = 0 from hw2.out)
                clear hx2 hn2 hw2 he2 hdr htk HX1 HWH
                go_wp2_with fail
                go_quiet (fail)
                go_wp2_with fail
                go_roundw
                case rel => exact ⟨true, x2, [], rfl, rfl, HXX, HNN, HWN, fun _ => rfl, HB4.out.trans ((below_draws _).mono HB4.out.size)⟩
                case measure => simp [intOf, mB]
              · have hbd : tBl d = true := hw2.out.1 d (by simp)
                have hne5 : ¬ ((d :: y3) ++ (tx ++ z)).take tx.length = tx := by
                  intro e2
                  rw [HTX.out] at e2
                  exact not_here hbd HC0.out e2
                have hxe : ((str (((d :: y3) ++ (tx ++ z)).take tx.length)).toList == (str tx).toList) = false := by rw [str_toList, str_toList]; exact beq_eq_false_iff_ne.2 hne5
                have hxe2 : ¬ (str (((d :: y3) ++ (tx ++ z)).take tx.length)).toList = (str tx).toList := by rw [str_toList, str_toList]; exact hne5
                have hxe3 : ¬ str (((d :: y3) ++ (tx ++ z)).take tx.length) = str tx := fun e => hxe2 (by rw [e])
                clear hne5
                generalize str (((d :: y3) ++ (tx ++ z)).take tx.length) = S at *
                have hcvn := fun n => hcv (wr.drewN n) (below_draws n)
                have hxl : x2.length < l.length := by simp at hl2; omega
                obtain ⟨g, o, hAe, hg, hcell⟩ := HA4.out.at_ hxl
                have hd : l[x2.length] = d := by simp [hx2.out]
                rw [hd] at hcell
                have h10 : ¬ ((d.toNat : Nat) : Int) = 10 := by
                  intro e
                  have : d = 10 := UInt8.toNat_inj.1 (show d.toNat = 10 by omega)
                  have h2 := hw2.out.2
                  rw [nl_cons, if_pos this] at h2
                  omega
                have hn10 : d ≠ 10 := fun e => h10 (by rw [e]; rfl)
                have HXX := Lib.hid (show l = (x2 ++ [d]) ++ (y3 ++ (tx ++ z)) by rw [hx2.out]; simp)
                have HNN := Lib.hid (show nl (x2 ++ [d]) = nl x1 by rw [nl_append, nl_cons, if_neg hn10, nl_nil]; exact hn2.out)
                have HWN := Lib.hid (show Wh y3 ∧ nl y3 = 0 from ⟨fun e he => hw2.out.1 e (List.mem_cons_of_mem _ he), by have := hw2.out.2; rw [nl_cons] at this; omega⟩)
                have HLe := Lib.hid (show (x2 ++ [d]).length = x2.length + 1 by simp)
                clear hx2 hn2 hw2 he2 hdr HX1 HWH hd hn10 hbd
                subst hAe
                generalize ((d.toNat : Nat) : Int) = XX at *
                go_wp2_with fail
                go_quiet (fail)
                go_wp2_with fail
                go_roundw
                case rel => exact ⟨false, x2 ++ [d], y3, by rw [HLe.out]; go_num, rfl, HXX, HNN, HWN, (by intro h; cases h), HB4.out.trans ((below_draws _).mono HB4.out.size)⟩
                case measure => simp [intOf, mB]; omega
            · obtain rfl := he2.out rfl
              go_wp2_with fail
              clear HX1 HWH hw2 he2
              have s0 := HCA4.out.cell (j := 0) (by simp)
              have s2 := HCA4.out.cell (j := 2) (by simp)
              simp only [List.getElem_cons_zero, List.getElem_cons_succ] at s0 s2
              have hne3 : 0 < tx.length := by rw [HTX.out]; simp
              have hx0 : ∀ h : 0 < tx.length, tx[0] = c0 := by
                intro h
                simp [HTX.out]
              have htx0 : tx.head? = some c0 := by rw [HTX.out]; rfl
              rcases HOK.out.kind with ⟨hkd, hall, hhd, rfl, hle⟩ | ⟨rfl, hall, hnu, hv⟩ | ⟨rfl, hhd, hle, rfl, _⟩
              · rcases hkd with rfl | rfl
                · rw [htx0] at hhd
                  have hd0 : tDi c0 = false := by simpa using hhd
                  have HAL := Lib.hid hall
                  have HLE := Lib.hid hle
                  have HDZ := Lib.hid hd0
                  have HX0 := Lib.hid hx0
                  clear hall hhd HTX htx0 HU HX HQ HW hle hd0 hx0
                  go_loop [13, 14, 15, 16] (fun xv le di kv => ∃ (k : Nat) (X : Int) (b : Bool), k ≤ tx.length ∧ kv = .int .i64 k ∧ xv = .int .u64 X ∧ le = .bool true ∧ di = .bool b ∧ Hid (b = decide (k = 0))) (fun _ _ _ kv => tx.length - (intOf kv).toNat)
                  case atStart => exact ⟨0, 0, true, by omega, rfl, rfl, rfl, rfl, rfl⟩
                  case round =>
                    obtain ⟨k, X, b, hk, rfl, rfl, rfl, rfl, hb⟩ := hrel
                    by_cases hltk : k < tx.length
                    · have hld : tLd tx[k] = true := HAL.out _ (List.getElem_mem hltk)
                      have hix := run_idx_str wr tx k hltk
                      have HLm := Lib.hid (fun w' => refLetter_i ((tx[k]).toNat : Int) w')
                      have HDm := Lib.hid (fun w' => refDigit_i ((tx[k]).toNat : Int) w')
                      rw [show leI ((tx[k]).toNat : Int) = tLe tx[k] from rfl] at HLm
                      rw [show diI ((tx[k]).toNat : Int) = tDi tx[k] from rfl] at HDm
                      have hfd := Lib.hid (show k = 0 → tDi tx[k] = false from fun e => by subst e; rw [HX0.out]; exact HDZ.out)
                      unfold tLd at hld
                      have HLD := Lib.hid hld
                      clear hld
                      generalize tLe tx[k] = le at *
                      generalize tDi tx[k] = di at *
                      generalize ((tx[k]).toNat : Int) = D at *
                      by_cases hk0 : k = 0
                      · obtain rfl : b = true := by rw [hb.out]; exact decide_eq_true hk0
                        obtain rfl := hfd.out hk0
                        obtain rfl : le = true := by simpa using HLD.out
                        clear hk0 hb hfd
                        go_wp2_with fail
                        refine (HLm.out _).mono ?_
                        rintro e w' ⟨rfl, rfl⟩
                        go_wp2_with fail
                        refine (HDm.out _).mono ?_
                        rintro e w' ⟨rfl, rfl⟩
                        go_wp2_with fail
                        go_round
                        case rel => exact ⟨k + 1, _, false, by omega, by go_num, rfl, rfl, rfl, by simp [Hid]⟩
                        case measure => simp [intOf]; omega
                      · obtain rfl : b = false := by rw [hb.out]; exact decide_eq_false hk0
                        clear hk0 hb
                        cases le
                        · obtain rfl : di = true := by simpa using HLD.out
                          go_wp2_with fail
                          refine (HLm.out _).mono ?_
                          rintro e w' ⟨rfl, rfl⟩
                          go_wp2_with fail
                          refine (HDm.out _).mono ?_
                          rintro e w' ⟨rfl, rfl⟩
                          go_wp2_with fail
                          go_round
                          case rel => exact ⟨k + 1, _, false, by omega, by go_num, rfl, rfl, rfl, by simp [Hid]⟩
                          case measure => simp [intOf]; omega
                        · go_wp2_with fail
                          refine (HLm.out _).mono ?_
                          rintro e w' ⟨rfl, rfl⟩
                          go_wp2_with fail
                          go_round
                          case rel => exact ⟨k + 1, _, false, by omega, by go_num, rfl, rfl, rfl, by simp [Hid]⟩
                          case measure => simp [intOf]; omega
                    · obtain rfl : k = tx.length := by omega
                      obtain rfl : b = false := by rw [hb.out]; exact decide_eq_false (by omega)
                      have hlei : (tx.length : Int) ≤ 24 := by have := HLE.out; omega
                      have hzl : (tx.length : Int) ≠ 0 := by have := hne3; omega
                      go_wp2_with fail
                      go_roundw
                      case rel => exact ⟨j + 1, x2 ++ tx, z, by omega, by rw [List.length_append]; go_num, by rw [nl_append, HNT.out, hn2.out]; go_num, by go_num, (show l = (x2 ++ tx) ++ z by rw [hx2.out]; simp), HNX, HB.out.trans ((HB2.out.trans (HB4.out.mono HB2.out.size)).mono HB.out.size)⟩
                      case measure => simp [intOf]; omega
                · rw [htx0] at hhd
                  have hd0 : tDi c0 = false := by simpa using hhd
                  have HAL := Lib.hid hall
                  have HLE := Lib.hid hle
                  have HDZ := Lib.hid hd0
                  have HX0 := Lib.hid hx0
                  clear hall hhd HTX htx0 HU HX HQ HW hle hd0 hx0
                  go_loop [13, 14, 15, 16] (fun xv le di kv => ∃ (k : Nat) (X : Int) (b : Bool), k ≤ tx.length ∧ kv = .int .i64 k ∧ xv = .int .u64 X ∧ le = .bool true ∧ di = .bool b ∧ Hid (b = decide (k = 0))) (fun _ _ _ kv => tx.length - (intOf kv).toNat)
                  case atStart => exact ⟨0, 0, true, by omega, rfl, rfl, rfl, rfl, rfl⟩
                  case round =>
                    obtain ⟨k, X, b, hk, rfl, rfl, rfl, rfl, hb⟩ := hrel
                    by_cases hltk : k < tx.length
                    · have hld : tLd tx[k] = true := HAL.out _ (List.getElem_mem hltk)
                      have hix := run_idx_str wr tx k hltk
                      have HLm := Lib.hid (fun w' => refLetter_i ((tx[k]).toNat : Int) w')
                      have HDm := Lib.hid (fun w' => refDigit_i ((tx[k]).toNat : Int) w')
                      rw [show leI ((tx[k]).toNat : Int) = tLe tx[k] from rfl] at HLm
                      rw [show diI ((tx[k]).toNat : Int) = tDi tx[k] from rfl] at HDm
                      have hfd := Lib.hid (show k = 0 → tDi tx[k] = false from fun e => by subst e; rw [HX0.out]; exact HDZ.out)
                      unfold tLd at hld
                      have HLD := Lib.hid hld
                      clear hld
                      generalize tLe tx[k] = le at *
                      generalize tDi tx[k] = di at *
                      generalize ((tx[k]).toNat : Int) = D at *
                      by_cases hk0 : k = 0
                      · obtain rfl : b = true := by rw [hb.out]; exact decide_eq_true hk0
                        obtain rfl := hfd.out hk0
                        obtain rfl : le = true := by simpa using HLD.out
                        clear hk0 hb hfd
                        go_wp2_with fail
                        refine (HLm.out _).mono ?_
                        rintro e w' ⟨rfl, rfl⟩
                        go_wp2_with fail
                        refine (HDm.out _).mono ?_
                        rintro e w' ⟨rfl, rfl⟩
                        go_wp2_with fail
                        go_round
                        case rel => exact ⟨k + 1, _, false, by omega, by go_num, rfl, rfl, rfl, by simp [Hid]⟩
                        case measure => simp [intOf]; omega
                      · obtain rfl : b = false := by rw [hb.out]; exact decide_eq_false hk0
                        clear hk0 hb
                        cases le
                        · obtain rfl : di = true := by simpa using HLD.out
                          go_wp2_with fail
                          refine (HLm.out _).mono ?_
                          rintro e w' ⟨rfl, rfl⟩
                          go_wp2_with fail
                          refine (HDm.out _).mono ?_
                          rintro e w' ⟨rfl, rfl⟩
                          go_wp2_with fail
                          go_round
                          case rel => exact ⟨k + 1, _, false, by omega, by go_num, rfl, rfl, rfl, by simp [Hid]⟩
                          case measure => simp [intOf]; omega
                        · go_wp2_with fail
                          refine (HLm.out _).mono ?_
                          rintro e w' ⟨rfl, rfl⟩
                          go_wp2_with fail
                          go_round
                          case rel => exact ⟨k + 1, _, false, by omega, by go_num, rfl, rfl, rfl, by simp [Hid]⟩
                          case measure => simp [intOf]; omega
                    · obtain rfl : k = tx.length := by omega
                      obtain rfl : b = false := by rw [hb.out]; exact decide_eq_false (by omega)
                      have hlei : (tx.length : Int) ≤ 24 := by have := HLE.out; omega
                      have hzl : (tx.length : Int) ≠ 0 := by have := hne3; omega
                      go_wp2_with fail
                      go_roundw
                      case rel => exact ⟨j + 1, x2 ++ tx, z, by omega, by rw [List.length_append]; go_num, by rw [nl_append, HNT.out, hn2.out]; go_num, by go_num, (show l = (x2 ++ tx) ++ z by rw [hx2.out]; simp), HNX, HB.out.trans ((HB2.out.trans (HB4.out.mono HB2.out.size)).mono HB.out.size)⟩
                      case measure => simp [intOf]; omega
              · have HAL := Lib.hid hall
                have HVL := Lib.hid hv
                have HNU := Lib.hid hnu
                clear hnu
                clear hall hv HTX htx0 HU HX HQ HW hx0
                go_loop [13, 14, 15, 16] (fun xv le di kv => ∃ (k : Nat) (X : Int), k ≤ tx.length ∧ kv = .int .i64 k ∧ xv = .int .u64 X ∧ le = .bool true ∧ di = .bool true ∧ Hid (X = (val (tx.take k) : Int))) (fun _ _ _ kv => tx.length - (intOf kv).toNat)
                case atStart => exact ⟨0, 0, by omega, rfl, rfl, rfl, rfl, rfl⟩
                case round =>
                  obtain ⟨k, X, hk, rfl, rfl, rfl, rfl, hXk⟩ := hrel
                  by_cases hltk : k < tx.length
                  · have hdg : tDi tx[k] = true := HAL.out _ (List.getElem_mem hltk)
                    have h4 := digit_range hdg
                    have hix := run_idx_str wr tx k hltk
                    have HLm := Lib.hid (fun w' => refLetter_i ((tx[k]).toNat : Int) w')
                    have HDm := Lib.hid (fun w' => refDigit_i ((tx[k]).toNat : Int) w')
                    rw [show leI ((tx[k]).toNat : Int) = tLe tx[k] from rfl] at HLm
                    rw [show diI ((tx[k]).toNat : Int) = tDi tx[k] from rfl] at HDm
                    have hnl : tLe tx[k] = false := by
                      have h4 := digit_range hdg
                      unfold tLe leI
                      simp
                      omega
                    rw [hnl] at HLm
                    rw [hdg] at HDm
                    have v1 := val_snoc hltk
                    have v2 := val_le tx (k + 1)
                    have v3 := HVL.out
                    have v5 := hXk.out
                    obtain ⟨D, hDe⟩ : ∃ D : Int, ((tx[k]).toNat : Int) = D + 48 := ⟨_, (Int.sub_add_cancel _ _).symm⟩
                    have hV1 : (val (tx.take (k + 1)) : Int) = 10 * X + D := by omega
                    have hD0 : 0 ≤ D := by omega
                    have hD9 : D ≤ 9 := by omega
                    have hX0 : 0 ≤ X := by omega
                    have hX1 : 10 * X + D ≤ 9223372036854775807 := by omega
                    have hX2 : 10 * X ≤ 9223372036854775807 := by omega
                    rw [hDe] at hix HLm HDm
                    have HR := Lib.hid (show 10 * X + D = (val (tx.take (k + 1)) : Int) from hV1.symm)
                    clear v1 v2 v3 v5 hDe hV1 hXk hdg hnl h4
                    go_wp2_with fail
                    refine (HLm.out _).mono ?_
                    rintro e w' ⟨rfl, rfl⟩
                    go_wp2_with fail
                    refine (HDm.out _).mono ?_
                    rintro e w' ⟨rfl, rfl⟩
                    go_wp2_with fail
                    refine (HDm.out _).mono ?_
                    rintro e w' ⟨rfl, rfl⟩
                    go_wp2_with fail
                    go_round
                    case rel => exact ⟨k + 1, 10 * X + D, by omega, by go_num, rfl, rfl, rfl, HR⟩
                    case measure => simp [intOf]; omega
                  · obtain rfl : k = tx.length := by omega
                    rw [List.take_length] at hXk
                    have hXn : X = nu := by rw [hXk.out, HNU.out]
                    have hn0 : 0 ≤ nu := by have := HNU.out; omega
                    have hn1 : nu ≤ 9223372036854775807 := by have := HVL.out; have := HNU.out; omega
                    subst hXn
                    clear hXk HNU
                    have hzl : (tx.length : Int) ≠ 0 := by have := hne3; omega
                    go_wp2_with fail
                    go_roundw
                    case rel => exact ⟨j + 1, x2 ++ tx, z, by omega, by rw [List.length_append]; go_num, by rw [nl_append, HNT.out, hn2.out]; go_num, by go_num, (show l = (x2 ++ tx) ++ z by rw [hx2.out]; simp), HNX, HB.out.trans ((HB2.out.trans (HB4.out.mono HB2.out.size)).mono HB.out.size)⟩
                    case measure => simp [intOf]; omega
              · rw [htx0] at hhd
                have hd0 : tLd c0 = false := by simpa using hhd
                clear hhd HTX htx0 HU HX HQ HW
                go_loop [13, 14, 15, 16] (fun xv le di kv => ∃ (k : Nat) (X : Int) (b : Bool), k ≤ tx.length ∧ kv = .int .i64 k ∧ xv = .int .u64 X ∧ le = .bool b ∧ di = .bool b ∧ Hid (b = decide (k = 0))) (fun _ _ _ kv => tx.length - (intOf kv).toNat)
                case atStart => exact ⟨0, 0, true, by omega, rfl, rfl, rfl, rfl, rfl⟩
                case round =>
                  obtain ⟨k, X, b, hk, rfl, rfl, rfl, rfl, hb⟩ := hrel
                  by_cases hltk : k < tx.length
                  · skip
                    have hix := run_idx_str wr tx k hltk
                    have HLm := Lib.hid (fun w' => refLetter_i ((tx[k]).toNat : Int) w')
                    have HDm := Lib.hid (fun w' => refDigit_i ((tx[k]).toNat : Int) w')
                    rw [show leI ((tx[k]).toNat : Int) = tLe tx[k] from rfl] at HLm
                    rw [show diI ((tx[k]).toNat : Int) = tDi tx[k] from rfl] at HDm
                    have hfd := Lib.hid (show k = 0 → tLe tx[k] = false ∧ tDi tx[k] = false from fun e => by subst e; rw [hx0]; unfold tLd at hd0; simpa using hd0)
                    generalize tLe tx[k] = le at *
                    generalize tDi tx[k] = di at *
                    generalize ((tx[k]).toNat : Int) = D at *
                    by_cases hk0 : k = 0
                    · obtain rfl : b = true := by rw [hb.out]; exact decide_eq_true hk0
                      obtain ⟨rfl, rfl⟩ := hfd.out hk0
                      clear hk0 hb hfd
                      go_wp2_with fail
                      refine (HLm.out _).mono ?_
                      rintro e w' ⟨rfl, rfl⟩
                      go_wp2_with fail
                      refine (HDm.out _).mono ?_
                      rintro e w' ⟨rfl, rfl⟩
                      go_wp2_with fail
                      refine (HDm.out _).mono ?_
                      rintro e w' ⟨rfl, rfl⟩
                      go_wp2_with fail
                      go_round
                      case rel => exact ⟨k + 1, _, false, by omega, by go_num, rfl, rfl, rfl, by simp [Hid]⟩
                      case measure => simp [intOf]; omega
                    · obtain rfl : b = false := by rw [hb.out]; exact decide_eq_false hk0
                      clear hk0 hb
                      clear HLm HDm hfd
                      go_wp2_with fail
                      go_round
                      case rel => exact ⟨k + 1, _, false, by omega, by go_num, rfl, rfl, rfl, by simp [Hid]⟩
                      case measure => simp [intOf]; omega
                  · obtain rfl : k = tx.length := by omega
                    obtain rfl : b = false := by rw [hb.out]; exact decide_eq_false (by omega)
                    have hlei : (tx.length : Int) ≤ 2 := by omega
                    have hzl : (tx.length : Int) ≠ 0 := by have := hne3; omega
                    go_wp2_with fail
                    go_roundw
                    case rel => exact ⟨j + 1, x2 ++ tx, z, by omega, by rw [List.length_append]; go_num, by rw [nl_append, HNT.out, hn2.out]; go_num, by go_num, (show l = (x2 ++ tx) ++ z by rw [hx2.out]; simp), HNX, HB.out.trans ((HB2.out.trans (HB4.out.mono HB2.out.size)).mono HB.out.size)⟩
                    case measure => simp [intOf]; omega
    · obtain rfl : j = ts.length := by omega
      have HB2 := Lib.hid (HB1.out.trans (HB.out.mono HB1.out.size))
      have HW := Lib.hid (works_any wr (HL.out.below HB2.out))
      clear HT1 HS0 HS HX
      go_wp2_with fail
      refine HW.out.mono ?_
      rintro e w7 ⟨rfl, hb7⟩
      have HB7 := Lib.hid (HB2.out.trans (hb7.mono HB2.out.size))
      clear HW hb7
      go_wp2_with fail
      go_ret
      exact ⟨rfl, HB7.out⟩
end Go.Proofs.YtmajhmionghccaaDoor
