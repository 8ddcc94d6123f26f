/-
  Merged for a claim: S9M, O1C, O1D, O1N.
-/
import Derived.Test.YtjagjkogloggpaaGreatHJ15
import Derived.Test.YtjagjkogloggpaaGreatHJ14
import Derived.Below
import Derived.Laws.OwnMore
import Derived.Deep.AppendLies
import Derived.Deep.Draws
import Derived.Deep.QuietTactic
import Derived.BigQuiet
import Derived.RegionTactic
import Derived.Test.YtjagjkogloggpaaGreatHJ0
import Derived.Laws.BitsAllLaws
import Derived.Laws.BitsLemmas
namespace Go.Proofs.YtjagjkogloggpaaGreat
open Go Go.RowKit

theorem endP_take {ps : List Pp} {k : Nat} (h : k < ps.length) : endP 0 (ps.take (k + 1)) = ps[k].tt := by
  rw [← List.take_append_getElem h]; exact endP_snoc _ _ _
theorem enP9s_take {ps : List Pp} {k : Nat} (h : k < ps.length) : enP9s 0 ((ps.take (k + 1)).map Pp.d) = enP9s 0 ((ps.take k).map Pp.d) ++ enP9 (endP 0 (ps.take k)) ps[k].d := by
  rw [← List.take_append_getElem h]; exact enP9s_snoc _ _ _

set_option maxRecDepth 100000 in
set_option maxHeartbeats 8000000 in
theorem put9_any (A A1 A2 : Option Addr) (c c1 c2 : Nat) (b : List UInt8) (ps : List Pp) (qs : List Pq) (w : World) (hc : A = none → c = 0) (hb : Lies w w.heap.size A b) (hbn : b.length ≤ 500000000000) (h : TL w w.heap.size A1 ps) (h2 : UL w w.heap.size A2 qs) (hp : TabP ps qs) :
    Calls Tryz.prog 26 #[.slice A b.length c, .slice A1 ps.length c1, .slice A2 qs.length c2] w (PutR9 b (ps.map Pp.d) (qs.map Pq.d) w) := by
  have HRT := Lib.hid (right9_any A1 A2 c1 c2 ps qs w hp.1 h h2)
  cases hr : right9 (ps.map Pp.d) (qs.map Pq.d)
  · have HX := Lib.hid (show ptE9 (ps.map Pp.d) (qs.map Pq.d) = 1 ∧ ptB9 b (ps.map Pp.d) (qs.map Pq.d) = [] from ⟨if_neg (by rw [hr]; decide), if_neg (by rw [hr]; decide)⟩)
    rw [hr] at HRT
    unfold PutR9
    rw [HX.out.1, HX.out.2]
    clear hr h h2 hb hc
    go_enter Tryz.func26, Tryz.ntmps26
    go_wp2_with (go_at_call 27; refine HRT.out.mono ?_; rintro e w1 ⟨rfl, hb1⟩)
    go_ret2
    exact ⟨_, rfl, Own.nil _ _, hb1⟩
  have HX := Lib.hid (show ptE9 (ps.map Pp.d) (qs.map Pq.d) = 0 ∧ ptB9 b (ps.map Pp.d) (qs.map Pq.d) = b ++ own9 (ps.map Pp.d) (qs.map Pq.d) from ⟨if_pos hr, if_pos hr⟩)
  have hr' := hr
  unfold right9 at hr'
  rw [Bool.and_eq_true, Bool.and_eq_true] at hr'
  have hlen := of_decide_eq_true hr'.1
  simp only [List.length_map] at hlen
  have hall := allP_of (Int.le_refl 0) hr'.2.1 hp.1.1 hp.2
  have hpt : ∀ q ∈ qs, PntP q := fun q hq => okQ_of (by simpa using hlen.1) (fun p hp' => by
    obtain ⟨x, hx, rfl⟩ := List.mem_map.1 hp'
    obtain ⟨k, hk, rfl⟩ := List.getElem_of_mem hx
    have := (allP_get hall hk).2.2.1
    simpa [Pp.d] using this) (List.all_eq_true.1 hr'.2.2 _ (List.mem_map_of_mem hq))
  have hL1 := fun k => enP9s_len (allP_take (ps := ps) k hall)
  have hL2 := fun k => enQs_len (qs := qs.take k) (fun q hq => hpt q (List.mem_of_mem_take hq))
  have HALL := Lib.hid hall
  have HPT := Lib.hid hpt
  have HL1 := Lib.hid hL1
  have HL2 := Lib.hid hL2
  have HC := Lib.hid hc
  have hpi : (ps.length : Int) ≤ 64 := by omega
  have hqi : (qs.length : Int) ≤ 1000 := by omega
  rw [hr] at HRT
  unfold PutR9
  rw [HX.out.1, HX.out.2]
  clear hr hr' hall hpt hL1 hL2 hc hlen hp
  go_enter Tryz.func26, Tryz.ntmps26
  go_wp2_with fail
  refine HRT.out.mono ?_
  rintro e w1 ⟨rfl, hb1⟩
  have HB1 := Lib.hid hb1
  have HT := Lib.hid (h.next hb1)
  have HU := Lib.hid (h2.next hb1)
  have HBY := Lib.hid ((hb.below hb1).more hb1.size)
  have n1 := nb10 (ps.length : Int)
  have n2 := nb10 (qs.length : Int)
  clear h h2 hb hb1 HRT
  go_wp2_with fail
  refine (putNumber_any (.slice none 0 0) [] (ps.length : Int) w1 w1.heap.size (Nat.le_refl _) (Own.nil _ _) (by simp) (by omega) (by omega)).mono ?_
  rintro e w2 ⟨v2, rfl, ho2, hb2, _, _⟩
  have HO2 := Lib.hid (show Own w2 w1.heap.size v2 (nB false (ps.length : Int) ++ enP9s 0 ((ps.take 0).map Pp.d)) by simpa [enP9s] using ho2)
  have HB2 := Lib.hid hb2
  clear ho2 hb2
  go_wp2_with fail
  go_loopw [8, 9, 23] (fun s a i wr => ∃ k : Nat, k ≤ ps.length ∧ i = .int .i64 k ∧ a = .int .i64 (endP 0 (ps.take k)) ∧ Hid (Own wr w1.heap.size s (nB false (ps.length : Int) ++ enP9s 0 ((ps.take k).map Pp.d))) ∧ Hid (Below w1.heap.size w1 wr)) (fun _ _ i _ => ps.length - (intOf i).toNat)
  case atStart => exact ⟨0, by omega, rfl, rfl, HO2, HB2⟩
  case round =>
    obtain ⟨k, hk, rfl, rfl, hO, hBb⟩ := hrel
    clear HO2 HB2
    have hzr := hBb.out.size
    by_cases hlt : k < ps.length
    · obtain ⟨g, o, rfl, hg, x0, x1, x2, x3, x4⟩ := eL_at (HT.out.1.below hBb.out) hlt
      have hpl := (HT.out.2 _ (List.getElem_mem hlt)).below hBb.out
      have hpp := allP_get HALL.out hlt
      have HT1 := Lib.hid (endP_take hlt)
      have HE1 := Lib.hid (enP9s_take hlt)
      have hln := HL1.out k
      rw [List.length_take] at hln
      generalize hag : endP 0 (ps.take k) = ag at *
      clear hag
      generalize ps[k] = p at *
      have hb3 := below_lnew wr (.cells (lK p) 51)
      have hf3 := heap_alloc_new wr (.cells (lK p) 51)
      have hpv := fun (v : Value) (ho : Own wr w1.heap.size v (nB false (ps.length : Int) ++ enP9s 0 ((ps.take k).map Pp.d))) => putPlace_any v _ p ag (wr.alloc (.cells (lK p) 51)) w1.heap.size (Nat.le_trans hzr hb3.size) (ho.below hb3) (by simp only [List.length_append]; omega) (hpl.below (hb3.mono hzr)) hpp
      obtain ⟨nm, fr, tt, vs, vA, vc, ss, sA, sc⟩ := p
      have hpd : Hid (Pp.d ⟨nm, fr, tt, vs, vA, vc, ss, sA, sc⟩ = Pp.d ⟨nm, fr, tt, vs, vA, vc, ss, sA, sc⟩) := rfl
      have hpv2 := hpv _ hO.out
      unfold lV at hpv2
      unfold lK tv at hb3 hf3 hpv2
      dsimp only at hb3 hf3 hpv2 x0 x1 x2 x3 x4 HT1
      have HPV := Lib.hid hpv2
      clear hpv hpv2 hpd hpl hpp
      go_upto_region 8 with fail
      obtain ⟨W2, hW2⟩ : ∃ W2, W2 = wr.alloc (.cells #[.string (str nm), .int .i64 fr, .int .i64 tt, .slice vA vs.length vc, .slice sA ss.length sc] 51) := ⟨_, rfl⟩
      rw [← hW2] at hb3 hf3 HPV ⊢
      have hT2 : HasT W2 wr.heap.size 51 := ⟨_, _, hf3⟩
      obtain ⟨v0, v1, v2', v3, v4⟩ : W2.cell? ⟨wr.heap.size, 0, none⟩ = some (.string (str nm)) ∧ W2.cell? ⟨wr.heap.size, 1, none⟩ = some (.int .i64 fr) ∧ W2.cell? ⟨wr.heap.size, 2, none⟩ = some (.int .i64 tt) ∧ W2.cell? ⟨wr.heap.size, 3, none⟩ = some (.slice vA vs.length vc) ∧ W2.cell? ⟨wr.heap.size, 4, none⟩ = some (.slice sA ss.length sc) := by
        simp [World.cell?, hf3]
      have HBW := Lib.hid (hBb.out.trans (hb3.mono hzr))
      have HTT := Lib.hid hT2
      clear hW2 hf3 hT2 hb3 x0 x1 x2 x3 x4
      go_wp2_with fail
      refine HPV.out.mono ?_
      rintro e w5 ⟨v5, rfl, ho5, hb5, ht5⟩
      have y2 := (ht5.cell (p := ⟨wr.heap.size, 2, none⟩) HTT.out (by decide)).trans v2'
      have HO5 := Lib.hid (show Own w5 w1.heap.size v5 (nB false (ps.length : Int) ++ enP9s 0 ((ps.take (k + 1)).map Pp.d)) by rw [HE1.out, ← List.append_assoc]; exact ho5)
      have HB5 := Lib.hid (HBW.out.trans hb5)
      clear v0 v1 v2' v3 v4 ho5 hb5 ht5 HPV HBW HTT
      go_wp2_with fail
      go_roundw
      case rel => exact ⟨k + 1, by omega, by go_num, by rw [HT1.out], HO5, HB5⟩
      case measure => simp [intOf]; omega
    · have hki : (ps.length : Int) ≤ k := by omega
      have hx0 := hO.out
      rw [List.take_of_length_le (by omega)] at hx0
      have hln := HL1.out ps.length
      rw [List.take_of_length_le (Nat.le_refl _)] at hln
      have HX0 := Lib.hid hx0
      clear hO hx0
      go_wp2_with fail
      refine (putNumber_any _ _ (qs.length : Int) wr w1.heap.size hzr HX0.out (by simp only [List.length_append]; omega) (by omega) (by omega)).mono ?_
      rintro e w3 ⟨v3, rfl, ho3, hb3, _, _⟩
      obtain ⟨m, hm⟩ : ∃ m, m = nB false (ps.length : Int) ++ enP9s 0 (ps.map Pp.d) ++ nB false (qs.length : Int) := ⟨_, rfl⟩
      rw [← hm] at ho3
      have hml : m.length ≤ 5000000000 := by rw [hm]; simp only [List.length_append]; omega
      have HM := Lib.hid hm
      have HO3 := Lib.hid (show Own w3 w1.heap.size v3 (m ++ ((qs.take 0).map Pq.d).flatMap encQ) by simpa using ho3)
      have HB3 := Lib.hid (hBb.out.trans hb3)
      clear ho3 hb3 hm HX0 hBb hln hzr
      go_wp2_with fail
      go_loopw [8, 40] (fun s i wx => ∃ j : Nat, j ≤ qs.length ∧ i = .int .i64 j ∧ Hid (Own wx w1.heap.size s (m ++ ((qs.take j).map Pq.d).flatMap encQ)) ∧ Hid (Below w1.heap.size w1 wx)) (fun _ i _ => qs.length - (intOf i).toNat)
      case atStart => exact ⟨0, by omega, rfl, HO3, HB3⟩
      case round =>
        obtain ⟨j, hj, rfl, hO, hBb⟩ := hrel
        clear HO3 HB3
        have hzr := hBb.out.size
        by_cases hltj : j < qs.length
        · obtain ⟨g, o, rfl, hg, x0, x1, x2⟩ := eQ_at (HU.out.1.below hBb.out) hltj
          have hql := (HU.out.2 _ (List.getElem_mem hltj)).below hBb.out
          have hpq := HPT.out _ (List.getElem_mem hltj)
          have HTK := Lib.hid (show (qs.take (j + 1)).map Pq.d = (qs.take j).map Pq.d ++ [qs[j].d] by rw [← List.take_append_getElem hltj, List.map_append]; rfl)
          have hln := HL2.out j
          rw [List.length_take] at hln
          generalize qs[j] = q at *
          have hb3 := below_lnew wr (.cells (qK q) 60)
          have hf3 := heap_alloc_new wr (.cells (qK q) 60)
          have hpv := fun (v : Value) (ho : Own wr w1.heap.size v (m ++ ((qs.take j).map Pq.d).flatMap encQ)) => putPoint_any v _ q (wr.alloc (.cells (qK q) 60)) w1.heap.size (Nat.le_trans hzr hb3.size) (ho.below hb3) (by simp only [List.length_append]; omega) (hql.below (hb3.mono hzr)) hpq.1 hpq.2.1 (by have := hpq.2.2.1; omega) hpq.2.2.2
          obtain ⟨⟨fn, ln, scp⟩, qA, qc⟩ := q
          have hpv2 := hpv _ hO.out
          unfold qV at hpv2
          unfold qK at hb3 hf3 hpv2
          dsimp only at hb3 hf3 hpv2 x0 x1 x2 HTK
          have HPV := Lib.hid hpv2
          clear hpv hpv2 hql hpq
          go_upto_region 15 with fail
          obtain ⟨W2, hW2⟩ : ∃ W2, W2 = wr.alloc (.cells #[.int .i64 fn, .int .i64 ln, .slice qA scp.length qc] 60) := ⟨_, rfl⟩
          rw [← hW2] at hb3 hf3 HPV ⊢
          obtain ⟨v0, v1, v2'⟩ : W2.cell? ⟨wr.heap.size, 0, none⟩ = some (.int .i64 fn) ∧ W2.cell? ⟨wr.heap.size, 1, none⟩ = some (.int .i64 ln) ∧ W2.cell? ⟨wr.heap.size, 2, none⟩ = some (.slice qA scp.length qc) := by
            simp [World.cell?, hf3]
          have HBW := Lib.hid (hBb.out.trans (hb3.mono hzr))
          clear hW2 hf3 hb3 x0 x1 x2
          go_wp2_with fail
          refine HPV.out.mono ?_
          rintro e w5 ⟨v5, rfl, ho5, hb5, ht5⟩
          have HO5 := Lib.hid (show Own w5 w1.heap.size v5 (m ++ ((qs.take (j + 1)).map Pq.d).flatMap encQ) by rw [HTK.out, List.flatMap_append, ← List.append_assoc]; simpa using ho5)
          have HB5 := Lib.hid (HBW.out.trans hb5)
          clear v0 v1 v2' ho5 hb5 ht5 HPV HBW
          go_wp2_with fail
          go_roundw
          case rel => exact ⟨j + 1, by omega, by go_num, HO5, HB5⟩
          case measure => simp [intOf]; omega
        · have hji : (qs.length : Int) ≤ j := by omega
          have hx0 := hO.out
          rw [List.take_of_length_le (by omega)] at hx0
          have hln := HL2.out qs.length
          rw [List.take_of_length_le (Nat.le_refl _)] at hln
          obtain ⟨A3, c3, hv3, hc3, hl3, _⟩ := hx0.form9
          clear hO hx0
          subst hv3
          have hcat := concat_any wr.heap.size A A3 c c3 b (m ++ (qs.map Pq.d).flatMap encQ) (wr.alloc (.cells #[.slice A b.length c, .slice A3 (m ++ (qs.map Pq.d).flatMap encQ).length c3] 22)) (heap_alloc_new wr _) HC.out hc3 ((HBY.out.below (hBb.out.trans ((below_lnew wr _).mono hzr))).more (by simp; omega)) ((hl3.below (below_lnew wr _)).more (by simp)) (by omega) (by simp only [List.length_append]; omega)
          have HBC := Lib.hid (hBb.out.trans ((below_lnew wr (.cells #[.slice A b.length c, .slice A3 (m ++ (qs.map Pq.d).flatMap encQ).length c3] 22)).mono hzr))
          generalize hsd : (m ++ (qs.map Pq.d).flatMap encQ) = sd at *
          have HSD := Lib.hid hsd
          obtain ⟨sn, hsn⟩ : ∃ sn, sd.length = sn := ⟨_, rfl⟩
          rw [hsn] at hcat HBC ⊢
          have HCAT := Lib.hid hcat
          have HSN := Lib.hid hsn
          clear hcat hsd hl3 hsn hln
          go_wp2_with (go_at_call 63; refine HCAT.out.mono ?_; rintro e w6 ⟨v6, rfl, ho6, hb6⟩)
          go_ret2
          have hz6 := HBC.out.size
          refine ⟨v6, rfl, ?_, HB1.out.trans ((HBC.out.trans (hb6.mono hz6)).mono HB1.out.size)⟩
          have e9 : b ++ own9 (ps.map Pp.d) (qs.map Pq.d) = b ++ sd := by
            rw [← HSD.out, HM.out]
            unfold own9
            simp only [List.length_map, List.append_assoc]
          rw [e9]
          exact ho6.base (Nat.le_trans HB1.out.size hz6)
end Go.Proofs.YtjagjkogloggpaaGreat

namespace Go.Proofs.YtjagjkogloggpaaGreat
open Go.RowKit

/-- what is told of so many bytes from a place on: 1, 5, or 0 -/
def stV (n : Nat) (i s : Int) : Int := if i < 0 ∨ (n : Int) < i then 1 else if (n : Int) - i < s then 5 else 0

theorem st_arg {n : Nat} {i s : Int} (h : i < 0 ∨ (n : Int) < i) : stV n i s = 1 := by simp [stV, h]
theorem st_form {n : Nat} {i s : Int} (h0 : 0 ≤ i) (h1 : i ≤ n) (h : (n : Int) - i < s) : stV n i s = 5 := by
  unfold stV; rw [if_neg (by omega), if_pos h]
theorem st_ok {n : Nat} {i s : Int} (h0 : 0 ≤ i) (h1 : i ≤ n) (h : s ≤ (n : Int) - i) : stV n i s = 0 := by
  unfold stV; rw [if_neg (by omega), if_neg (by omega)]

set_option maxHeartbeats 400000 in
theorem stands_any (A : Option Addr) (n c : Nat) (i s : Int) (w : World) (hn : n ≤ 1099511627776) (_ : 0 ≤ s) :
    Calls Tryz.prog 191 #[.slice A n c, .int .i64 i, .int .i64 s] w fun e w' => e = .returned (.int .i64 (stV n i s)) ∧ w = w' := by
  by_cases h1 : i < 0
  · rw [st_arg (.inl h1)]
    go_enter Tryz.func191, Tryz.ntmps191
    go_wp2
    go_ret
    exact ⟨rfl, rfl⟩
  by_cases h2 : (n : Int) < i
  · rw [st_arg (.inr h2)]
    go_enter Tryz.func191, Tryz.ntmps191
    go_wp2
    go_ret
    exact ⟨rfl, rfl⟩
  by_cases h3 : (n : Int) - i < s
  · rw [st_form (by omega) (by omega) h3]
    go_enter Tryz.func191, Tryz.ntmps191
    go_wp2
    go_ret
    exact ⟨rfl, rfl⟩
  · rw [st_ok (by omega) (by omega) (by omega)]
    go_enter Tryz.func191, Tryz.ntmps191
    go_wp2
    go_ret
    exact ⟨rfl, rfl⟩

set_option maxHeartbeats 400000 in
theorem have_any (A : Option Addr) (n c : Nat) (i s : Int) (w : World) (hn : n ≤ 1099511627776) (_ : 0 ≤ s) :
    Calls Tryz.prog 161 #[.slice A n c, .int .i64 i, .int .i64 s] w fun e w' => e = .returned (.int .i64 (stV n i s)) ∧ w = w' := by
  by_cases h1 : i < 0
  · rw [st_arg (.inl h1)]
    go_enter Tryz.func161, Tryz.ntmps161
    go_wp2
    go_ret
    exact ⟨rfl, rfl⟩
  by_cases h2 : (n : Int) < i
  · rw [st_arg (.inr h2)]
    go_enter Tryz.func161, Tryz.ntmps161
    go_wp2
    go_ret
    exact ⟨rfl, rfl⟩
  by_cases h3 : (n : Int) - i < s
  · rw [st_form (by omega) (by omega) h3]
    go_enter Tryz.func161, Tryz.ntmps161
    go_wp2
    go_ret
    exact ⟨rfl, rfl⟩
  · rw [st_ok (by omega) (by omega) (by omega)]
    go_enter Tryz.func161, Tryz.ntmps161
    go_wp2
    go_ret
    exact ⟨rfl, rfl⟩

end Go.Proofs.YtjagjkogloggpaaGreat

namespace Go.Proofs.YtjagjkogloggpaaGreat
open Go.RowKit

/-- what One answers: the byte, the place behind it, the error -/
def oneX (l : List UInt8) (i : Int) : Int := if stV l.length i 1 = 0 then ((l.getD i.toNat 0).toNat : Int) else 0
def oneN (l : List UInt8) (i : Int) : Int := if stV l.length i 1 = 0 then i + 1 else 0

theorem one_bad {l : List UInt8} {i : Int} (h : ¬ (0 ≤ i ∧ i < l.length)) : stV l.length i 1 ≠ 0 := by
  unfold stV; split
  · omega
  · split <;> omega

set_option maxHeartbeats 400000 in
theorem one_any (A : Option Addr) (c : Nat) (l : List UInt8) (i : Int) (w : World) (B : Nat) (hn : l.length ≤ 1099511627776) (h : Lies w B A l) :
    Calls Tryz.prog 130 #[.slice A l.length c, .int .i64 i] w fun e w' => e = .returned (.tuple #[.int .u8 (oneX l i), .int .i64 (oneN l i), .int .i64 (stV l.length i 1)]) ∧ w = w' := by
  by_cases hi : 0 ≤ i ∧ i < l.length
  · obtain ⟨k, rfl⟩ : ∃ k : Nat, i = k := ⟨i.toNat, by omega⟩
    have hk : k < l.length := by omega
    have hv : stV l.length k 1 = 0 := st_ok (by omega) (by omega) (by omega)
    have hx : oneX l k = (l[k].toNat : Int) := by simp [oneX, hv, hk]
    have hN : oneN l k = (k : Int) + 1 := by simp [oneN, hv]
    have hst := stands_any A l.length c k 1 w hn (by omega)
    rw [hv] at hst
    rw [hv, hx, hN]
    obtain ⟨g, o, rfl, _, hc⟩ := h.at_ hk
    clear h hi hv hx hN
    have Hst := Lib.hid hst
    clear hst
    go_enter Tryz.func130, Tryz.ntmps130
    go_wp2_with (go_at_call 191; refine Hst.out.mono ?_; rintro e w' ⟨rfl, rfl⟩)
    go_ret3
    exact ⟨rfl, rfl⟩
  · have hv := one_bad hi
    have hx : oneX l i = 0 := by simp [oneX, hv]
    have hN : oneN l i = 0 := by simp [oneN, hv]
    have hst := stands_any A l.length c i 1 w hn (by omega)
    rw [hx, hN]
    generalize stV l.length i 1 = v at *
    have hvb : (v != 0) = true := by simpa using hv
    have Hst := Lib.hid hst
    clear hst h hi hv hx hN
    go_enter Tryz.func130, Tryz.ntmps130
    go_wp2_with (go_at_call 191; refine Hst.out.mono ?_; rintro e w' ⟨rfl, rfl⟩)
    go_ret3
    exact ⟨rfl, rfl⟩

set_option maxHeartbeats 400000 in
theorem refOne_any (A : Option Addr) (c : Nat) (l : List UInt8) (i : Int) (w : World) (B : Nat) (hn : l.length ≤ 1099511627776) (h : Lies w B A l) :
    Calls Tryz.prog 133 #[.slice A l.length c, .int .i64 i] w fun e w' => e = .returned (.tuple #[.int .u8 (oneX l i), .int .i64 (oneN l i), .int .i64 (stV l.length i 1)]) ∧ w = w' := by
  by_cases hi : 0 ≤ i ∧ i < l.length
  · obtain ⟨k, rfl⟩ : ∃ k : Nat, i = k := ⟨i.toNat, by omega⟩
    have hk : k < l.length := by omega
    have hv : stV l.length k 1 = 0 := st_ok (by omega) (by omega) (by omega)
    have hx : oneX l k = (l[k].toNat : Int) := by simp [oneX, hv, hk]
    have hN : oneN l k = (k : Int) + 1 := by simp [oneN, hv]
    have hst := have_any A l.length c k 1 w hn (by omega)
    rw [hv] at hst
    rw [hv, hx, hN]
    obtain ⟨g, o, rfl, _, hc⟩ := h.at_ hk
    clear h hi hv hx hN
    have Hst := Lib.hid hst
    clear hst
    go_enter Tryz.func133, Tryz.ntmps133
    go_wp2_with (go_at_call 161; refine Hst.out.mono ?_; rintro e w' ⟨rfl, rfl⟩)
    go_ret3
    exact ⟨rfl, rfl⟩
  · have hv := one_bad hi
    have hx : oneX l i = 0 := by simp [oneX, hv]
    have hN : oneN l i = 0 := by simp [oneN, hv]
    have hst := have_any A l.length c i 1 w hn (by omega)
    rw [hx, hN]
    generalize stV l.length i 1 = v at *
    have hvb : (v != 0) = true := by simpa using hv
    have Hst := Lib.hid hst
    clear hst h hi hv hx hN
    go_enter Tryz.func133, Tryz.ntmps133
    go_wp2_with (go_at_call 161; refine Hst.out.mono ?_; rintro e w' ⟨rfl, rfl⟩)
    go_ret3
    exact ⟨rfl, rfl⟩

end Go.Proofs.YtjagjkogloggpaaGreat

namespace Go.Proofs.YtjagjkogloggpaaGreat

theorem ofInt64 (a : Nat) (ha : a < 9223372036854775808) : (BitVec.ofInt 64 (a : Int)).toNat = a := by
  rw [BitVec.ofInt_natCast, BitVec.toNat_ofNat]; exact Nat.mod_eq_of_lt (by omega)

theorem or_nat (a b : Nat) (ha : a < 9223372036854775808) (hb : b < 9223372036854775808) : bits .or .i64 (a : Int) (b : Int) = ((a ||| b : Nat) : Int) := by
  have hx : a ||| b < 2 ^ 63 := Nat.or_lt_two_pow (by omega) (by omega)
  show IntKind.i64.wrap ((BitVec.ofInt 64 (a : Int) ||| BitVec.ofInt 64 (b : Int)).toNat : Int) = _
  rw [BitVec.toNat_or, ofInt64 a ha, ofInt64 b hb, IntKind.wrap_i64]
  omega

theorem or_byte (a : Nat) (x : UInt8) (ha : a < 70368744177664) : bits .or .i64 ((a : Int) * 256) (x.toNat : Int) = 256 * (a : Int) + (x.toNat : Int) := by
  have hx := x.toNat_lt
  have e : (256 * a ||| x.toNat) = 256 * a + x.toNat := (Nat.two_pow_add_eq_or_of_lt (i := 8) (by simpa using hx) a).symm
  have h := or_nat (256 * a) x.toNat (by omega) (by omega)
  rw [e] at h
  have c : ((a : Int) * 256) = ((256 * a : Nat) : Int) := by omega
  rw [c, h]; omega

theorem or_zero (x : UInt8) : bits .or .i64 0 (x.toNat : Int) = (x.toNat : Int) := by
  have := or_byte 0 x (by omega)
  simpa using this

end Go.Proofs.YtjagjkogloggpaaGreat
