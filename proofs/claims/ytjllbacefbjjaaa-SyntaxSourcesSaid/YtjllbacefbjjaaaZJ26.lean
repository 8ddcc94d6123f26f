/-
  Merged for a claim: VCF, VKU, VCG.
-/
import Derived.Test.YtjllbacefbjjaaaZJ25
import Derived.Test.YtjllbacefbjjaaaZJ23
import Derived.Deep.QuietTactic
import Derived.KernelRfl
import Derived.Lib.SlBytesConst
import Derived.Deep.DeepMust
namespace Go.Proofs.Ytjllbacefbjjaaa
open Go Go.RowKit

def refSg : List (List UInt8) := sigs2 ++ sigs1
theorem refSigns_any (w : World) : Calls Try.prog 48 #[] w fun e w' => e = .returned (.slice (some ⟨w.heap.size, 0, none⟩) 24 24) ∧ Below w.heap.size w w' ∧ eS.Lies w' w'.heap.size (some ⟨w.heap.size, 0, none⟩) refSg := by
 have hb0 : ∀ o, Below w.heap.size w (w.alloc o) := fun o => (Below.refl _ _).alloc (Nat.le_refl _) _
 go_enter Try.func48, Try.ntmps48
 go_wp2_with fail
 go_ret
 refine ⟨rfl, hb0 _, strs_lie w _ refSg rfl⟩
def NoRef (m : List UInt8) (j : Nat) : Prop := ∀ i (h : i < 24), i < j → (refSg[i]'h).isPrefixOf m = false
theorem NoRef.next {m : List UInt8} {j : Nat} (h : NoRef m j) (hj : j < 24) (hn : (refSg[j]'hj).isPrefixOf m = false) : NoRef m (j + 1) := fun i hi hlt => by
 by_cases e : i = j
 · subst e
   exact hn
 · exact h i hi (by omega)
theorem ref_no2 {m : List UInt8} {j : Nat} (h : NoRef m j) (hj : 6 ≤ j) : m.take 2 ∉ sigs2 := fun hm => by
 obtain ⟨i, hi, e⟩ := List.mem_iff_getElem.1 hm
 have hi6 : i < 6 := hi
 have e1 : refSg[i]'(show i < 24 by omega) = sigs2[i] := List.getElem_append_left hi
 have h3 := h i (by omega) (by omega)
 have e2 : refSg[i]'(show i < 24 by omega) = m.take 2 := e1.trans e
 rw [e2, take_pre] at h3
 cases h3
theorem ref_sh : ∀ i : Fin 18, refSg[i.1 + 6]'(show i.1 + 6 < 24 by omega) = sigs1[i.1]'(show i.1 < 18 from i.2) := by decide
theorem ref_hit {m : List UInt8} {j : Nat} (hj : j < 24) (h : NoRef m j) (hp : (refSg[j]'hj).isPrefixOf m = true) : sign m = refSg[j]'hj ∧ refSg[j]'hj ≠ [] := by
 by_cases h6 : j < 6
 · have e1 : refSg[j]'hj = sigs2[j]'h6 := List.getElem_append_left h6
   have hm : refSg[j]'hj ∈ sigs2 := by rw [e1]; exact List.getElem_mem _
   have hl := sigs2_len _ hm
   have := pre_take hp
   rw [hl] at this
   refine ⟨?_, fun e => by rw [e] at hl; cases hl⟩
   unfold sign
   rw [this, if_pos hm]
 · have h18 : j - 6 < 18 := by omega
   have e1 : refSg[j]'hj = sigs1[j - 6]'h18 := List.getElem_append_right (by show 6 ≤ j; omega)
   have hm : refSg[j]'hj ∈ sigs1 := by rw [e1]; exact List.getElem_mem _
   have hl := sigs1_len _ hm
   have := pre_take hp
   rw [hl] at this
   refine ⟨?_, fun e => by rw [e] at hl; cases hl⟩
   unfold sign
   rw [if_neg (ref_no2 h (by omega)), this, if_pos hm]
theorem ref_none {m : List UInt8} (h : NoRef m 24) : sign m = [] := by
 unfold sign
 rw [if_neg (ref_no2 h (by omega)), if_neg]
 intro hm
 obtain ⟨i, hi, e⟩ := List.mem_iff_getElem.1 hm
 have hi18 : i < 18 := hi
 have e2 : refSg[i + 6]'(show i + 6 < 24 by omega) = m.take 1 := (ref_sh ⟨i, hi18⟩).trans e
 have h3 := h (i + 6) (by omega) (by omega)
 rw [e2, take_pre] at h3
 cases h3
theorem pre_iff {s m : List UInt8} : s.isPrefixOf m = true ↔ m.take s.length = s := ⟨pre_take, fun h => by rw [← h]; exact take_pre m _⟩
set_option maxRecDepth 100000 in
set_option maxHeartbeats 8000000 in
theorem refOne_sign (A : Option Addr) (c : Nat) (l : List UInt8) (k : Nat) (w : World) (hl : Lies w w.heap.size A l) (hn : l.length ≤ 1099511627776) (hlc : l.length ≤ c) (hA : A = none → c = 0) (hk : k < l.length) (hc1 : tLe l[k] = false) (hc : tDi l[k] = false) :
 Calls Try.prog 27 #[.slice A l.length c, .int .i64 k] w (OneR (l.drop k) w) := by
 have HT := Lib.hid (show tok1 (l.drop k) = if sign (l.drop k) = [] then none else some (4, sign (l.drop k), 0) by rw [List.drop_eq_getElem_cons hk]; simp only [tok1, hc1, hc]; rfl)
 have hb0 : ∀ o, Below w.heap.size w (w.alloc o) := fun o => (Below.refl _ _).alloc (Nat.le_refl _) _
 have HSUB := Lib.hid (fun (q : Nat) (hq : k + q ≤ l.length) => sub_str hl hlc hA (k := k) (m := k + q) (by omega) hq)
 have HLE := Lib.hid (show ∀ w', Calls Try.prog 43 #[.int .u8 ((l[k]).toNat : Int)] w' fun e w2 => e = .returned (.bool false) ∧ w' = w2 from fun w' => by have := refLetter_i ((l[k]).toNat : Int) w'; rw [show leI ((l[k]).toNat : Int) = false from hc1] at this; exact this)
 have HDE := Lib.hid (show ∀ w', Calls Try.prog 44 #[.int .u8 ((l[k]).toNat : Int)] w' fun e w2 => e = .returned (.bool false) ∧ w' = w2 from fun w' => by have := refDigit_i ((l[k]).toNat : Int) w'; rw [show diI ((l[k]).toNat : Int) = false from hc] at this; exact this)
 have hdl : (l.drop k).length = l.length - k := List.length_drop
 have HDL := Lib.hid hdl
 obtain ⟨m, HM⟩ : ∃ m, Hid (l.drop k = m) := ⟨_, rfl⟩
 rw [HM.out] at HT HDL
 rw [HM.out]
 unfold OneR
 generalize tok1 m = res at *
 obtain ⟨g, o, hAe, hg, hcell⟩ := hl.at_ hk
 have hc0 : ∀ ob, (w.alloc ob).cell? ⟨g, o + k, none⟩ = some (.int .u8 ((l[k]).toNat : Int)) := fun ob => ((hb0 ob).cell hg).trans hcell
 have hlti : (k : Int) < (l.length : Int) := by omega
 have hni : (l.length : Int) ≤ 1099511627776 := by omega
 clear hl hcell hdl
 subst hAe
 generalize ((l[k]).toNat : Int) = C at *
 go_enter Try.func27, Try.ntmps27
 go_wp2_with fail
 refine (HLE.out _).mono ?_
 rintro e w' ⟨rfl, rfl⟩
 clear HLE
 go_wp2_with fail
 refine (HDE.out _).mono ?_
 rintro e w' ⟨rfl, rfl⟩
 clear HDE hc0
 go_wp2_with fail
 refine (refSigns_any _).mono ?_
 rintro e w2 ⟨rfl, hb2, hS⟩
 have hA2 : CAt w2 w.heap.size 77 [.int .u8 0, .string (str []), .int .i64 0, .int .i64 0] := CAt.below (heap_alloc_new w _) hb2 (by simp)
 have HA2 := Lib.hid hA2
 have HB2 := Lib.hid ((hb0 _).trans (hb2.mono (hb0 _).size))
 have HSG := Lib.hid (fun j (hj : j < 24) (wr : World) (hbr : Below w2.heap.size w2 wr) => (show wr.cell? ⟨(w.alloc (.cells #[.int .u8 0, .string ⟨#[]⟩, .int .i64 0, .int .i64 0] 77)).heap.size, 0 + j, none⟩ = some (.string (str (refSg[j]'hj))) by
  obtain ⟨g', o', e', hg', hcj⟩ := hS.at_ (show j < refSg.length from hj)
  injection e' with e'
  injection e' with e1 e2
  subst e1 e2
  have := (hbr.cell hg').trans (hcj 0 _ rfl)
  rw [show 0 + j * eS.sz + 0 = 0 + j by show 0 + j * 1 + 0 = _; omega] at this
  exact this))
 simp only [World.size_alloc, Nat.zero_add] at HSG
 clear hb2 hS hA2
 go_wp2_with fail
 go_loopw [13] (fun i wr => ∃ j : Nat, j ≤ 24 ∧ i = .int .i64 j ∧ Hid (NoRef m j) ∧ Hid (Below w2.heap.size w2 wr)) (fun i _ => 24 - (intOf i).toNat)
 case atStart => exact ⟨0, by omega, rfl, (fun _ _ h => absurd h (by omega)), Below.refl _ _⟩
 case round =>
  obtain ⟨j, hj, rfl, HN, hBr⟩ := hrel
  have hA := CAt.below HA2.out hBr.out HA2.out.lt
  have HB1 := Lib.hid (HB2.out.trans (hBr.out.mono HB2.out.size))
  have f0 := hA.frozen 0
  have f1 := hA.frozen 1
  have f2 := hA.frozen 2
  have f3 := hA.frozen 3
  have s0 := hA.cell (j := 0) (by simp)
  have s1 := hA.cell (j := 1) (by simp)
  have s2 := hA.cell (j := 2) (by simp)
  have s3 := hA.cell (j := 3) (by simp)
  by_cases hlt : j < 24
  · have hlti24 : (j : Int) < 24 := by omega
    have hcj := HSG.out j hlt wr hBr.out
    have HNX := Lib.hid (fun h => HN.out.next hlt h)
    have HHI := Lib.hid (fun h => ref_hit hlt HN.out h)
    have HLN := Lib.hid (show ∀ s ∈ refSg, s.length ≤ 2 from by decide)
    have hs2 := HLN.out _ (List.getElem_mem (show j < refSg.length from hlt))
    clear HN HLN
    generalize refSg[j]'hlt = s at *
    have hss := str_sz s
    have hst := str_toList s
    by_cases hfit : k + s.length ≤ l.length
    · have hfi : (k : Int) + (s.length : Int) ≤ (l.length : Int) := by omega
      obtain ⟨A', c', hsl, hcv⟩ := HSUB.out s.length hfit
      rw [show k + s.length - k = s.length by omega, HM.out] at hcv
      rw [show k + s.length - k = s.length by omega] at hsl
      simp only [Int.natCast_add] at hsl
      have hcvn := fun n => hcv (wr.drewN n) (HB1.out.trans (below_draws n))
      by_cases heq : m.take s.length = s
      · have HRES := Lib.hid (show res = some (4, s, 0) by
         obtain ⟨h1, h2⟩ := HHI.out (pre_iff.2 heq)
         rw [HT.out, h1, if_neg h2])
        rw [heq] at hcvn
        have HW := Lib.hid ((((hA.set 0 (.int .u8 4)).set 1 (.string (str s))).set 2 (.int .i64 0)).set 3 (.int .i64 0))
        clear heq HHI HNX HT HSUB hcv hA
        go_wp2_with fail
        go_quiet (fail)
        go_wp2_with fail
        refine bodyPost_ret (tokv_back rfl rfl HW.out) rfl ?_
        exact ⟨(HB1.out.trans (below_draws nq)).grown (grown4 _ _ _ _ _ _) HB1.out.size (fun j e => by cases e; exact Nat.le_refl _), _, _, _, _, rfl, .inr ⟨HRES.out, rfl⟩⟩
      · have HNN := Lib.hid (HNX.out (by
         cases hp : s.isPrefixOf m with
         | false => rfl
         | true => exact absurd (pre_iff.1 hp) heq))
        have hxe : ((str (m.take s.length)).toList == (str s).toList) = false := by rw [str_toList, str_toList]; exact beq_eq_false_iff_ne.2 heq
        have hxe2 : ¬ (str (m.take s.length)).toList = (str s).toList := by rw [str_toList, str_toList]; exact heq
        clear heq HHI HNX HT HSUB hcv hA hst
        generalize m.take s.length = t at *
        have hxe3 : ¬ str t = str s := fun e => hxe2 (by rw [e])
        go_wp2_with fail
        go_quiet (fail)
        go_wp2_with fail
        go_roundw
        case rel => exact ⟨j + 1, by omega, by go_num, HNN, hBr.out.trans (below_draws nq)⟩
        case measure => simp [intOf]; omega
    · have hfi : (l.length : Int) < (k : Int) + (s.length : Int) := by omega
      have hfd : decide ((k : Int) + (s.length : Int) ≤ (l.length : Int)) = false := decide_eq_false (by omega)
      have HNN := Lib.hid (HNX.out (by
       cases hp : s.isPrefixOf m with
       | false => rfl
       | true =>
        have := congrArg List.length (pre_iff.1 hp)
        rw [List.length_take] at this
        have := HDL.out
        omega))
      clear HHI HNX HT HSUB hA
      go_wp2_with fail
      go_quiet (fail)
      go_wp2_with fail
      go_roundw
      case rel => exact ⟨j + 1, by omega, by go_num, HNN, hBr.out.trans (below_draws nq)⟩
      case measure => simp [intOf]; omega
  · obtain rfl : j = 24 := by omega
    have HRES := Lib.hid (show res = none by rw [HT.out, if_pos (ref_none HN.out)])
    have HW := Lib.hid ((((hA.set 0 (.int .u8 0)).set 1 (.string (str []))).set 2 (.int .i64 0)).set 3 (.int .i64 0))
    clear HN HT HSUB hA
    go_wp2_with fail
    refine bodyPost_ret (tokv_back rfl rfl HW.out) rfl ?_
    exact ⟨HB1.out.grown (grown4 _ _ _ _ _ _) HB1.out.size (fun j e => by cases e; exact Nat.le_refl _), _, _, _, _, rfl, .inl ⟨HRES.out, rfl⟩⟩
theorem refOne_any (A : Option Addr) (c : Nat) (l : List UInt8) (k : Nat) (w : World) (hl : Lies w w.heap.size A l) (hn : l.length ≤ 1099511627776) (hlc : l.length ≤ c) (hA : A = none → c = 0) (hk : k < l.length) :
 Calls Try.prog 27 #[.slice A l.length c, .int .i64 k] w (OneR (l.drop k) w) := by
 cases h1 : tLe l[k]
 · cases h2 : tDi l[k]
   · exact refOne_sign A c l k w hl hn hlc hA hk h1 h2
   · exact refOne_num A c l k w hl hn hlc hA hk h1 h2
 · exact refOne_name A c l k w hl hn hlc hA hk h1
end Go.Proofs.Ytjllbacefbjjaaa

namespace Go.Proofs.Ytjllbacefbjjaaa
open Go Go.RowKit

theorem nl_take {a : List UInt8} {j : Nat} (h : j < a.length) : nl (a.take (j + 1)) = nl (a.take j) + if a[j] = 10 then 1 else 0 := by
 rw [List.take_add_one, List.getElem?_eq_getElem h, nl_append]
 simp only [Option.toList]
 rw [nl_cons, nl_nil, Nat.zero_add]
theorem nl_take_le (a : List UInt8) (j : Nat) : nl (a.take j) ≤ a.length := Nat.le_trans (nl_le _) (by rw [List.length_take]; omega)
end Go.Proofs.Ytjllbacefbjjaaa

namespace Go.Proofs.Ytjllbacefbjjaaa
open Go Go.RowKit

theorem nl_split (l : List UInt8) (p : Nat) : nl (l.take p) + nl (l.drop p) = nl l := by
 conv => rhs; rw [← List.take_append_drop p l]
 rw [nl_append]
set_option maxRecDepth 100000 in
set_option maxHeartbeats 8000000 in
theorem refScan_any (A : Option Addr) (c : Nat) (l : List UInt8) (w : World) (hl : Lies w w.heap.size A l) (hlc : l.length ≤ c) (hA : A = none → c = 0) (hn : l.length ≤ 1099511627776) :
 Calls Try.prog 11 #[.slice A l.length c] w (ScanR l w) := by
 by_cases hbig : 16384 < l.length
 · have hbi : (16384 : Int) < (l.length : Int) := by omega
   go_enter Try.func11, Try.ntmps11
   go_wp2_with fail
   go_ret3
   exact ⟨Below.refl _ _, .inl ⟨hbig, rfl⟩⟩
 have hbi : (l.length : Int) ≤ 16384 := by omega
 obtain ⟨N, hN⟩ : ∃ N, 1 + nl l = N := ⟨_, rfl⟩
 have hNl := nl_le l
 have hT0 : appT [] (scanS N (sk false l)) = scanP l := by
  rw [← hN]
  unfold scanP
  cases scanS (1 + nl l) (sk false l) <;> rfl
 have hb0 := bp_drop (l := l) (k := 0) (by omega)
 rw [List.drop_zero] at hb0
 have HBL := Lib.hid (refBlank_any A c l 0 w hl hn (by omega))
 have HS0 := Lib.hid (show appT [] (scanS N (l.drop (bp l 0))) = scanP l from by rw [hb0.1]; exact hT0)
 have hp0 := hb0.2.1
 have HLi := Lib.hid hl
 have HNE := Lib.hid hN
 have hN2 : N ≤ 20000 := by omega
 clear hT0 hb0 hl hN hNl
 unfold ScanR
 generalize scanP l = TOT at *
 generalize bp l 0 = p0 at *
 go_enter Try.func11, Try.ntmps11
 go_wp2_with fail
 refine HBL.out.mono ?_
 rintro e w' ⟨rfl, rfl⟩
 clear HBL
 go_wp2_with fail
 go_loopw [5, 6, 7, 8] (fun v ln la at_ wr => ∃ (acc : List Tk) (q p : Nat) (A : Option Addr) (n c : Nat), v = .slice A n c ∧ ln = .int .i64 ((1 + nl (l.take q) : Nat) : Int) ∧ la = .int .i64 q ∧ at_ = .int .i64 p ∧ q ≤ p ∧ p ≤ l.length ∧ Hid (acc.length = n) ∧ Hid (eT.Own wr w.heap.size (.slice A n c) acc) ∧ Hid (Below w.heap.size w wr) ∧ Hid (appT acc (scanS N (l.drop p)) = TOT) ∧ acc.length + (l.length - p) ≤ 16384) (fun _ _ _ at_ _ => l.length - (intOf at_).toNat)
 case atStart => exact ⟨[], 0, p0, none, 0, 0, rfl, rfl, rfl, rfl, by omega, hp0, rfl, El.Own.nil _ _, Below.refl _ _, HS0, by simp; omega⟩
 case round =>
  obtain ⟨acc, q, p, A1, n, c1, rfl, rfl, rfl, rfl, hqp, hpl, hn1, hO, hB, hS, hSl⟩ := hrel
  clear HS0
  by_cases hlt : p < l.length
  · have hlti : (p : Int) < (l.length : Int) := by omega
    have hLw := HLi.out.below hB.out
    have HBr := Lib.hid hB.out
    go_wp2_with fail
    go_loop [6, 7] (fun ln i => ∃ j : Nat, j ≤ p ∧ i = .int .i64 j ∧ ln = .int .i64 ((1 + nl (l.take j) : Nat) : Int)) (fun _ i => p - (intOf i).toNat)
    case atStart => exact ⟨q, hqp, rfl, rfl⟩
    case round =>
     obtain ⟨j, hj, rfl, rfl⟩ := hrel
     have hq := nl_take_le l j
     by_cases hltj : j < p
     · have hjl : j < l.length := by omega
       obtain ⟨g, o, rfl, hg, hcell⟩ := hLw.at_ hjl
       have hst := Lib.hid (nl_take hjl)
       generalize nl (l.take j) = Q at *
       by_cases hx : l[j] = 10
       · have hs1 := Lib.hid (show nl (l.take (j + 1)) = Q + 1 by rw [hst.out, if_pos hx])
         rw [hx] at hcell
         replace hcell : wr.cell? ⟨g, o + j, none⟩ = some (.int .u8 10) := hcell
         clear hx hst
         go_wp2_with fail
         go_round
         case rel => exact ⟨j + 1, by omega, by go_num, by rw [hs1.out]; go_num⟩
         case measure => simp [intOf]; omega
       · have hs1 := Lib.hid (show nl (l.take (j + 1)) = Q by rw [hst.out, if_neg hx]; rfl)
         have hx2 : ¬ ((l[j]).toNat : Int) = 10 := fun e => hx (UInt8.toNat_inj.1 (show (l[j]).toNat = 10 by omega))
         clear hx hst
         generalize ((l[j]).toNat : Int) = X at *
         go_wp2_with fail
         go_round
         case rel => exact ⟨j + 1, by omega, by go_num, by rw [hs1.out]⟩
         case measure => simp [intOf]; omega
     · obtain rfl : j = p := by omega
       have hLQ : 1 + nl (l.take j) = N - nl (l.drop j) := by have := nl_split l j; have := HNE.out; omega
       have HF := Lib.hid (refOne_any A c l j wr (hLw.more hB.out.size) hn hlc hA hlt)
       obtain ⟨r, HRD⟩ : ∃ r, Hid (l.drop j = r) := ⟨_, rfl⟩
       have HRL := Lib.hid (show r.length + j = l.length by rw [← HRD.out, List.length_drop]; omega)
       have HNN := Lib.hid (show nl r ≤ N by rw [← HRD.out]; have := nl_split l j; have := HNE.out; omega)
       rw [hLQ]
       rw [HRD.out] at HF hS hLQ ⊢
       have HNE2 := Lib.hid (show r ≠ [] from fun e => by have := HRL.out; rw [e] at this; simp at this; omega)
       have hnr : nl r ≤ N := HNN.out
       unfold OneR at HF
       have HLQ := Lib.hid hLQ
       clear hLQ hltj hq hLw
       go_wp2_with fail
       refine HF.out.mono ?_
       rintro e w1 ⟨hb1, kd, s, nu, bb, rfl, hres⟩
       clear HF
       have hz1 := hb1.size
       have hzB := hB.out.size
       have HB1 := Lib.hid (hB.out.trans (hb1.mono hzB))
       have HO1 := Lib.hid (hO.out.below hb1)
       have hB1z := HB1.out.size
       clear hb1 hB hO
       rcases hres with ⟨ht, rfl⟩ | ⟨ht, rfl⟩
       · have HT := Lib.hid (show TOT = .error (N - nl r) by
          rw [← hS.out, scanS_none N HNE2.out ht]
          rfl)
         clear hS ht
         unfold tokV
         go_wp2_with fail
         go_ret3
         exact ⟨HB1.out.alloc (by omega) _, .inr ⟨by omega, .inl ⟨_, HT.out, rfl⟩⟩⟩
       · obtain ⟨hs0, hsl, hS2, hsh, hnl2, hnl3, hln⟩ := scan_step hS.out ht HNN.out
         have HS2 := Lib.hid hS2
         have HSL1 : 1 ≤ s.length := List.length_pos_iff.2 hs0
         have HSH := Lib.hid hsh
         have hss := str_sz s
         clear hS ht hS2 hsh hnl2 hnl3 hln
         have HR2 := Lib.hid (show sk false (r.drop s.length) = l.drop (bp l (j + s.length)) by rw [(bp_drop (l := l) (k := j + s.length) (by have := HRL.out; omega)).1, ← HRD.out, List.drop_drop])
         have hpl2 : j + s.length ≤ l.length := by have := HRL.out; omega
         have hbp := (bp_drop (l := l) hpl2).2
         generalize r.drop s.length = r2 at *
         generalize sk false r2 = r3 at *
         have hn2 : acc.length ≤ 1000000 := by omega
         have HACC := Lib.hid hn1
         clear hn1
         unfold tokV
         have hX0 : Below w1.heap.size w1 (w1.alloc (.cells #[.int .u8 kd, .string (str s), .int .i64 nu, .int .i64 ((N - nl r : Nat) : Int)] 77)) := (Below.refl _ _).alloc (Nat.le_refl _) _
         have hXn := heap_alloc_new w1 (.cells #[.int .u8 kd, .string (str s), .int .i64 nu, .int .i64 ((N - nl r : Nat) : Int)] 77)
         have hXz : (w1.alloc (.cells #[.int .u8 kd, .string (str s), .int .i64 nu, .int .i64 ((N - nl r : Nat) : Int)] 77)).heap.size = w1.heap.size + 1 := by simp
         have HX : Hid (∀ X0, w1.alloc (.cells #[.int .u8 kd, .string (str s), .int .i64 nu, .int .i64 ((N - nl r : Nat) : Int)] 77) = X0 → Below w1.heap.size w1 X0 ∧ X0.heap[w1.heap.size]? = some (.cells #[.int .u8 kd, .string (str s), .int .i64 nu, .int .i64 ((N - nl r : Nat) : Int)] 77 (0, 0)) ∧ X0.heap.size = w1.heap.size + 1) := by
          rintro _ rfl
          exact ⟨hX0, hXn, hXz⟩
         clear hX0 hXn hXz
         obtain ⟨hx1, hx2, hx3⟩ := HX.out _ rfl
         have hY := hx1.trans ((Below.refl _ _).alloc (by omega) (.cells #[.int .u8 kd, .string (str s), .int .i64 nu, .int .i64 ((N - nl r : Nat) : Int)] 77))
         have hY2 := heap_alloc_new (w1.alloc (.cells #[.int .u8 kd, .string (str s), .int .i64 nu, .int .i64 ((N - nl r : Nat) : Int)] 77)) (.cells #[.int .u8 kd, .string (str s), .int .i64 nu, .int .i64 ((N - nl r : Nat) : Int)] 77)
         rw [hx3] at hY2
         have HY2 := Lib.hid hY2
         have HOX := Lib.hid (HO1.out.below hY)
         have HBX := Lib.hid (HB1.out.trans (hY.mono hB1z))
         have HSX : Hid (∀ w6 : World, ((w1.alloc (.cells #[.int .u8 kd, .string (str s), .int .i64 nu, .int .i64 ((N - nl r : Nat) : Int)] 77)).alloc (.cells #[.int .u8 kd, .string (str s), .int .i64 nu, .int .i64 ((N - nl r : Nat) : Int)] 77)).grownBy w6 (Value.slice A1 n c1).ownBlock → w6.cell? ⟨w1.heap.size, 1, none⟩ = some (.string (str s))) := by
          intro w6 hg6
          have hq : w6.heap[w1.heap.size]? = some (.cells #[.int .u8 kd, .string (str s), .int .i64 nu, .int .i64 ((N - nl r : Nat) : Int)] 77 (0, 0)) := (hg6.block w1.heap.size (by simp; omega) (fun e => by have := (HO1.out.lt _ e.symm).2.1; omega)).trans (((Below.heap_alloc _ _ _ (by rw [hx3]; omega))).trans hx2)
          exact CAt.cell (e := 77) (cs := [.int .u8 kd, .string (str s), .int .i64 nu, .int .i64 ((N - nl r : Nat) : Int)]) hq (j := 1) (by simp)
         clear HX hx1 hx2 hx3 hY hY2
         go_wp2_with (at_builtin
                      refine El.app1 eT _ rfl 22 (.agg #[.int .u8 0, .string ⟨#[]⟩, .int .i64 0, .int .i64 0]) 40 Try.underlying22 tokv_info rfl (by omega) (by decide) (.tmp 43) (.tmp 45) rfl w.heap.size _ acc rfl HOX.out (w1.heap.size + 1) 1 ⟨kd, s, nu, N - nl r⟩ rfl 77 HY2.out hn2 HBX.out.size ?_
                      intro v6 w6 ho6 hg6
                      have HO6 := Lib.hid ho6
                      have HG6 := Lib.hid hg6
                      have hs1 := HSX.out w6 hg6
                      obtain ⟨A6, n6, c6, rfl, hn6, _, _, _⟩ := ho6.formN
                      clear ho6 hg6)
         have HB6 := Lib.hid (El.below_grown HBX.out HG6.out HOX.out HBX.out.size)
         have HBQ := Lib.hid (refBlank_any A c l (j + s.length) w6 ((HLi.out.below HB6.out).more HB6.out.size) hn hpl2)
         rw [Int.natCast_add] at HBQ
         refine HBQ.out.mono ?_
         rintro e w' ⟨rfl, rfl⟩
         clear HBQ
         go_wp2_with fail
         go_round
         case rel =>
          refine ⟨_, j, bp l (j + s.length), A6, n6, c6, rfl, by rw [HLQ.out], rfl, rfl, by omega, hbp.1, hn6, HO6.out, HB6.out, ?_, ?_⟩
          · rw [← HR2.out]; exact HS2.out
          · rw [List.length_append, List.length_singleton]; omega
         case measure => simp [intOf]; omega
  · obtain rfl : p = l.length := by omega
    have HT := Lib.hid (show TOT = .ok acc by
     rw [← hS.out, List.drop_length, scanS_nil]
     show Except.ok (acc ++ []) = _
     rw [List.append_nil])
    clear hS hn1
    go_wp2_with fail
    go_ret3
    exact ⟨hB.out, .inr ⟨by omega, .inr ⟨acc, _, HT.out, rfl, hO.out⟩⟩⟩
end Go.Proofs.Ytjllbacefbjjaaa
