/-
  Merged for a claim: VCA, VCB, VCC.
-/
import Derived.Test.YtjllbacefbjjaaaZJ23
import Derived.Deep.QuietTactic
namespace Go.Proofs.Ytjllbacefbjjaaa
open Go Go.RowKit

theorem sk_drop {l : List UInt8} {j : Nat} (h : j < l.length) (hb : tBl l[j] = true) : sk false (l.drop j) = sk false (l.drop (j + 1)) := by
 rw [List.drop_eq_getElem_cons h]
 simp only [sk, hb, if_true]
theorem sk_rem_drop {l : List UInt8} {j : Nat} (h : j < l.length) (h2 : j + 1 < l.length) (e : l[j] = 47) (e2 : l[j + 1] = 47) : sk false (l.drop j) = sk true (l.drop j) := by
 rw [List.drop_eq_getElem_cons h, List.drop_eq_getElem_cons h2, e, e2]
 rfl
theorem skt_drop {l : List UInt8} {j : Nat} (h : j < l.length) (hb : ¬ l[j] = 10) : sk true (l.drop j) = sk true (l.drop (j + 1)) := by
 rw [List.drop_eq_getElem_cons h]
 simp only [sk, hb, if_false]
theorem skt_end {l : List UInt8} {j : Nat} (h : j < l.length) (hb : l[j] = 10) : sk true (l.drop j) = sk false (l.drop j) := by
 rw [List.drop_eq_getElem_cons h, hb]
 rfl
theorem sk_here {l : List UInt8} {j : Nat} (h : j < l.length) (hb : tBl l[j] = false) (hr : ¬ (l[j] = 47 ∧ l[j + 1]? = some 47)) : sk false (l.drop j) = l.drop j := by
 rw [List.drop_eq_getElem_cons h]
 simp only [sk, hb]
 rw [if_neg (by simp), if_neg]
 rintro ⟨e, e2⟩
 refine hr ⟨e, ?_⟩
 rw [List.head?_drop] at e2
 exact e2
def bp (l : List UInt8) (k : Nat) : Nat := l.length - (sk false (l.drop k)).length
theorem bp_of {l : List UInt8} {k j : Nat} (hj : j ≤ l.length) (h : sk false (l.drop k) = l.drop j) : bp l k = j := by
 unfold bp
 rw [h, List.length_drop]
 omega
theorem bp_drop {l : List UInt8} {k : Nat} (_hk : k ≤ l.length) : l.drop (bp l k) = sk false (l.drop k) ∧ bp l k ≤ l.length ∧ k ≤ bp l k := by
 obtain ⟨u, hu⟩ := sk_suffix false (l.drop k)
 have h1 := sk_len false (l.drop k)
 rw [List.length_drop] at h1
 have h2 : l.length - k = u.length + (sk false (l.drop k)).length := by
  have := congrArg List.length hu
  rw [List.length_append, List.length_drop] at this
  exact this
 have e : bp l k = k + u.length := by unfold bp; omega
 refine ⟨?_, by unfold bp; omega, by omega⟩
 rw [e, ← List.drop_drop, hu, List.drop_left]
 rw [← hu]
set_option maxRecDepth 100000 in
set_option maxHeartbeats 8000000 in
theorem refBlank_any (A : Option Addr) (c : Nat) (l : List UInt8) (k : Nat) (w : World) (hl : Lies w w.heap.size A l) (hn : l.length ≤ 1099511627776) (hk : k ≤ l.length) :
 Calls Try.prog 26 #[.slice A l.length c, .int .i64 k] w fun e w' => e = .returned (.int .i64 (bp l k : Nat)) ∧ w = w' := by
 obtain ⟨T, hT⟩ : ∃ T, sk false (l.drop k) = T := ⟨_, rfl⟩
 have HP := Lib.hid (fun j (hj : j ≤ l.length) (h : T = l.drop j) => bp_of (k := k) hj (hT.trans h))
 have H0 := Lib.hid (show sk false (l.drop k) = T from hT)
 clear hT
 have hni : (l.length : Int) ≤ 1099511627776 := by omega
 generalize bp l k = R at *
 go_enter Try.func26, Try.ntmps26
 go_wp2_with fail
 go_loop [1] (fun i => ∃ j : Nat, j ≤ l.length ∧ i = .int .i64 j ∧ Hid (sk false (l.drop j) = T)) (fun i => l.length - (intOf i).toNat)
 case atStart => exact ⟨k, hk, rfl, H0⟩
 case round =>
  obtain ⟨j, hj, rfl, HS⟩ := hrel
  clear H0
  by_cases hlt : j < l.length
  · obtain ⟨g, o, rfl, hg, hcell⟩ := hl.at_ hlt
    have hlti : (j : Int) < (l.length : Int) := by omega
    cases hb : tBl l[j]
    · by_cases h47 : l[j] = 47
      · by_cases hlt2 : j + 1 < l.length
        · have hlt2i : (j : Int) + 1 < (l.length : Int) := by omega
          obtain ⟨g', o', e', hg', hcell2⟩ := hl.at_ hlt2
          cases e'
          by_cases h472 : l[j + 1] = 47
          · have HS2 := Lib.hid (show sk true (l.drop j) = T by rw [← sk_rem_drop hlt hlt2 h47 h472]; exact HS.out)
            rw [h47] at hcell
            rw [h472] at hcell2
            replace hcell : w.cell? ⟨g, o + j, none⟩ = some (.int .u8 47) := hcell
            replace hcell2 : w.cell? ⟨g, o + (j + 1), none⟩ = some (.int .u8 47) := hcell2
            have hcell3 : w.cell? ⟨g, o + j + 1, none⟩ = some (.int .u8 47) := hcell2
            have HN := Lib.hid (show ¬ l[j] = 10 by rw [h47]; decide)
            clear hb h47 h472 HS
            go_wp2_with fail
            go_loop [1] (fun i => ∃ m : Nat, j ≤ m ∧ m ≤ l.length ∧ i = .int .i64 m ∧ Hid (sk true (l.drop m) = T)) (fun i => l.length - (intOf i).toNat)
            case atStart => exact ⟨j, by omega, by omega, rfl, HS2⟩
            case round =>
             obtain ⟨m, hm1, hm2, rfl, HM⟩ := hrel
             clear HS2
             by_cases hltm : m < l.length
             · obtain ⟨g', o', e', hg', hcm⟩ := hl.at_ hltm
               cases e'
               by_cases h10 : l[m] = 10
               · have HE := Lib.hid (show sk false (l.drop m) = T by rw [← skt_end hltm h10]; exact HM.out)
                 have hne : m ≠ j := by
                  rintro rfl
                  exact HN.out h10
                 rw [h10] at hcm
                 replace hcm : w.cell? ⟨g, o + m, none⟩ = some (.int .u8 10) := hcm
                 clear h10 HM
                 go_wp2_with fail
                 go_round
                 case rel => exact ⟨m, hm2, rfl, HE⟩
                 case measure => simp [intOf]; omega
               · have HE := Lib.hid (show sk true (l.drop (m + 1)) = T by rw [← skt_drop hltm h10]; exact HM.out)
                 have hx2 : ¬ ((l[m]).toNat : Int) = 10 := fun e => h10 (UInt8.toNat_inj.1 (show (l[m]).toNat = 10 by omega))
                 clear h10 HM
                 generalize ((l[m]).toNat : Int) = X at *
                 go_wp2_with fail
                 go_round
                 case rel => exact ⟨m + 1, by omega, by omega, by go_num, HE⟩
                 case measure => simp [intOf]; omega
             · obtain rfl : m = l.length := by omega
               have HE := Lib.hid (show sk false (l.drop l.length) = T by rw [← HM.out, List.drop_length]; rfl)
               clear HM
               go_wp2_with fail
               go_round
               case rel => exact ⟨l.length, by omega, rfl, HE⟩
               case measure => simp [intOf]; omega
          · have HR := Lib.hid (show R = j from HP.out j hj (HS.out.symm.trans (sk_here hlt hb fun q => h472 (by
             have := q.2
             rw [List.getElem?_eq_getElem hlt2] at this
             injection this))))
            have hx2 : ¬ ((l[j + 1]).toNat : Int) = 47 := fun e => h472 (UInt8.toNat_inj.1 (show (l[j + 1]).toNat = 47 by omega))
            rw [h47] at hcell
            replace hcell : w.cell? ⟨g, o + j, none⟩ = some (.int .u8 47) := hcell
            have hcell3 : w.cell? ⟨g, o + j + 1, none⟩ = some (.int .u8 ((l[j + 1]).toNat : Int)) := hcell2
            clear hb h47 h472 HS HP
            generalize ((l[j + 1]).toNat : Int) = X at *
            go_wp2_with fail
            go_ret
            exact ⟨by rw [HR.out]; rfl, rfl⟩
        · have hlt2i : ¬ (j : Int) + 1 < (l.length : Int) := by omega
          have HR := Lib.hid (show R = j from HP.out j hj (HS.out.symm.trans (sk_here hlt hb fun q => by
           have := q.2
           rw [List.getElem?_eq_none (by omega)] at this
           cases this)))
          rw [h47] at hcell
          replace hcell : w.cell? ⟨g, o + j, none⟩ = some (.int .u8 47) := hcell
          clear hb h47 HS HP
          go_wp2_with fail
          go_ret
          exact ⟨by rw [HR.out]; rfl, rfl⟩
      · have HR := Lib.hid (show R = j from HP.out j hj (HS.out.symm.trans (sk_here hlt hb fun q => h47 q.1)))
        have hx2 : ¬ ((l[j]).toNat : Int) = 47 := fun e => h47 (UInt8.toNat_inj.1 (show (l[j]).toNat = 47 by omega))
        have hq : ¬ (((l[j]).toNat : Int) = 32 ∨ ((l[j]).toNat : Int) = 9 ∨ ((l[j]).toNat : Int) = 13 ∨ ((l[j]).toNat : Int) = 10) := of_decide_eq_false hb
        clear hb h47 HS HP
        generalize ((l[j]).toNat : Int) = X at *
        have q1 : ¬ X = 32 := fun e => hq (.inl e)
        have q2 : ¬ X = 9 := fun e => hq (.inr (.inl e))
        have q3 : ¬ X = 13 := fun e => hq (.inr (.inr (.inl e)))
        have q4 : ¬ X = 10 := fun e => hq (.inr (.inr (.inr e)))
        have p1 : (X == 32) = false := beq_eq_false_iff_ne.2 q1
        have p2 : (X == 9) = false := beq_eq_false_iff_ne.2 q2
        have p3 : (X == 13) = false := beq_eq_false_iff_ne.2 q3
        have p4 : (X == 10) = false := beq_eq_false_iff_ne.2 q4
        have p5 : (X == 47) = false := beq_eq_false_iff_ne.2 hx2
        clear hq q1 q2 q3 q4 hx2
        go_wp2_with fail
        go_ret
        exact ⟨by rw [HR.out]; rfl, rfl⟩
    · have HE := Lib.hid (show sk false (l.drop (j + 1)) = T by rw [← sk_drop hlt hb]; exact HS.out)
      have hq : ((l[j]).toNat : Int) = 32 ∨ ((l[j]).toNat : Int) = 9 ∨ ((l[j]).toNat : Int) = 13 ∨ ((l[j]).toNat : Int) = 10 := of_decide_eq_true hb
      clear hb HS
      generalize ((l[j]).toNat : Int) = X at *
      rcases hq with rfl | rfl | rfl | rfl
      all_goals
       go_wp2_with fail
       go_round
       case rel => exact ⟨j + 1, by omega, by go_num, HE⟩
       case measure => simp [intOf]; omega
  · obtain rfl : j = l.length := by omega
    have HR := Lib.hid (show R = l.length from HP.out l.length hj (by rw [← HS.out, List.drop_length]; rfl))
    clear HS HP
    go_wp2_with fail
    go_ret
    exact ⟨by rw [HR.out]; rfl, rfl⟩
end Go.Proofs.Ytjllbacefbjjaaa

namespace Go.Proofs.Ytjllbacefbjjaaa
open Go Go.RowKit

def eS : El (List UInt8) := ⟨9, 1, fun s => [.string (str s)], fun _ => rfl, fun x u hu => by rw [List.mem_singleton] at hu; subst hu; rfl, by omega⟩
theorem strs_lie (w : World) (cs : Array Value) (L : List (List UInt8)) (h : cs.toList = L.map fun s => .string (str s)) : eS.Lies (w.alloc (.cells cs 9)) (w.alloc (.cells cs 9)).heap.size (some ⟨w.heap.size, 0, none⟩) L := by
 intro _
 refine ⟨_, _, rfl, by simp, fun j hj f u hu => ?_⟩
 have hf : f = 0 := by
  have := (List.getElem?_eq_some_iff.1 hu).1
  simp [eS] at this
  omega
 subst hf
 have hh := heap_alloc_new w (.cells cs 9)
 have hu2 : u = .string (str L[j]) := by simpa [eS] using hu.symm
 subst hu2
 show (w.alloc (.cells cs 9)).cell? ⟨w.heap.size, 0 + (j * 1 + 0), none⟩ = _
 simp only [World.cell?, hh, Nat.zero_add, Nat.mul_one, Nat.add_zero]
 rw [← Array.getElem?_toList, h]
 simp [hj]
set_option maxRecDepth 100000 in
set_option maxHeartbeats 2000000 in
theorem in_any (A : Option Addr) (c : Nat) (L : List (List UInt8)) (s : List UInt8) (w : World) (hn : L.length ≤ 1000000) (h : eS.Lies w w.heap.size A L) :
 Calls Try.prog 45 #[.slice A L.length c, .string (str s)] w fun e w' => e = .returned (.bool (decide (s ∈ L))) ∧ w = w' := by
 obtain ⟨b, hb⟩ : ∃ b, decide (s ∈ L) = b := ⟨_, rfl⟩
 have H0 := Lib.hid (show b = decide (s ∈ L.drop 0) by rw [← hb, List.drop_zero])
 rw [hb]
 clear hb
 have hss := str_toList s
 go_enter Try.func45, Try.ntmps45
 go_wp2_with fail
 go_loop [5] (fun i => ∃ k : Nat, k ≤ L.length ∧ i = .int .i64 k ∧ Hid (b = decide (s ∈ L.drop k))) (fun i => L.length - (intOf i).toNat)
 case atStart => exact ⟨0, by omega, rfl, H0⟩
 case round =>
  obtain ⟨k, hk, rfl, hr⟩ := hrel
  clear H0
  by_cases hlt : k < L.length
  · obtain ⟨g, o, rfl, hg, hc⟩ := h.at_ hlt
    have c0 : w.cell? ⟨g, o + k, none⟩ = some (.string (str (L[k]))) := by
     have := hc 0 _ rfl
     rw [show o + k * eS.sz + 0 = o + k by show o + k * 1 + 0 = _; omega] at this
     exact this
    clear hc
    by_cases he : L[k] = s
    · have HR := Lib.hid (show b = true by rw [hr.out]; exact decide_eq_true (by rw [List.drop_eq_getElem_cons hlt, he]; exact List.mem_cons_self))
      rw [he] at c0
      clear he hr
      go_wp2_with fail
      go_ret
      exact ⟨by rw [HR.out]; rfl, rfl⟩
    · have HR := Lib.hid (show b = decide (s ∈ L.drop (k + 1)) by rw [hr.out]; exact decide_eq_decide.2 ⟨fun hm => by rw [List.drop_eq_getElem_cons hlt, List.mem_cons] at hm; exact hm.resolve_left (fun e => he e.symm), fun hm => by rw [List.drop_eq_getElem_cons hlt]; exact List.mem_cons_of_mem _ hm⟩)
      have hxe : ((str L[k]).toList == (str s).toList) = false := by rw [str_toList, str_toList]; exact beq_eq_false_iff_ne.2 he
      have hxe2 : ¬ (str L[k]).toList = (str s).toList := by rw [str_toList, str_toList]; exact he
      clear hss he hr
      generalize L[k] = t at *
      have hxe3 : ¬ str t = str s := fun e => hxe2 (by rw [e])
      go_wp2_with fail
      go_round
      case rel => exact ⟨k + 1, by omega, by go_num, HR⟩
      case measure => simp [intOf]; omega
  · obtain rfl : k = L.length := by omega
    have HR := Lib.hid (show b = false by rw [hr.out, List.drop_length]; simp)
    clear hr
    go_wp2_with fail
    go_ret
    exact ⟨by rw [HR.out]; rfl, rfl⟩
end Go.Proofs.Ytjllbacefbjjaaa

namespace Go.Proofs.Ytjllbacefbjjaaa
open Go Go.RowKit

theorem val_snoc {s : List UInt8} {k : Nat} (h : k < s.length) : val (s.take (k + 1)) = 10 * val (s.take k) + ((s[k]).toNat - 48) := by
 rw [List.take_add_one, List.getElem?_eq_getElem h]
 unfold val
 rw [List.foldl_append]
 rfl
theorem val_le (s : List UInt8) (k : Nat) : val (s.take k) ≤ val s := by
 have h := valF_ge (s.drop k) (val (s.take k))
 have e : val s = (s.drop k).foldl (fun a c => 10 * a + (c.toNat - 48)) (val (s.take k)) := by
  conv => lhs; rw [← List.take_append_drop k s]
  unfold val
  rw [List.foldl_append]
 rw [e]
 exact h
def NumR (V : Nat) (ok : Bool) (w : World) (e : Ending) (w' : World) : Prop := Below w.heap.size w w' ∧ ∃ (x : Int) (b : Bool), e = .returned (.tuple #[.int .i64 x, .bool b]) ∧ ((¬ V < 9223372036854775808 ∧ b = false) ∨ (V < 9223372036854775808 ∧ x = (V : Int) ∧ b = ok))
set_option maxRecDepth 100000 in
set_option maxHeartbeats 4000000 in
theorem refNumber_any (c : UInt8) (r : List UInt8) (w : World) (hn : (c :: r).length ≤ 1099511627776) (hd : ∀ x ∈ c :: r, tDi x = true) :
 Calls Try.prog 47 #[.string (str (c :: r))] w (NumR (val (c :: r)) (decide ((c :: r).length = 1) || !decide (c = 48)) w) := by
 have h0 : (c :: r)[0]? = some c := rfl
 have hsz := str_sz (c :: r)
 have hlt0 : 0 < (c :: r).length := by simp
 generalize c :: r = s at *
 have hni : (s.length : Int) ≤ 1099511627776 := by omega
 have HD := Lib.hid hd
 obtain ⟨V, HV⟩ : ∃ V, Hid (val s = V) := ⟨_, rfl⟩
 rw [HV.out]
 obtain ⟨OK, HOK⟩ : ∃ OK, Hid ((decide (s.length = 1) || !decide (c = 48)) = OK) := ⟨_, rfl⟩
 rw [HOK.out]
 clear hd
 go_enter Try.func47, Try.ntmps47
 go_wp2_with fail
 go_loop [4, 5] (fun x i => ∃ (k : Nat) (X : Int), k ≤ s.length ∧ i = .int .i64 k ∧ x = .int .i64 X ∧ 0 ≤ X ∧ Hid (X = (val (s.take k) : Int) ∧ val (s.take k) < 9223372036854775808)) (fun _ i => s.length - (intOf i).toNat)
 case atStart => exact ⟨0, 0, by omega, rfl, rfl, by omega, ⟨rfl, by rw [List.take_zero]; decide⟩⟩
 case round =>
  obtain ⟨k, X, hk, rfl, rfl, hX0, HX⟩ := hrel
  by_cases hlt : k < s.length
  · have hix := run_idx_str w s k hlt
    have hr := digit_range (HD.out _ (List.getElem_mem hlt))
    have HS := Lib.hid (val_snoc hlt)
    obtain ⟨D, hDe⟩ : ∃ D : Int, ((s[k]).toNat : Int) = D + 48 := ⟨_, (Int.sub_add_cancel _ _).symm⟩
    rw [hDe] at hix
    have hD0 : 0 ≤ D := by omega
    have hD9 : D ≤ 9 := by omega
    obtain ⟨Q, hQ⟩ : ∃ Q, Int.tdiv (9223372036854775807 - D) 10 = Q := ⟨_, rfl⟩
    have hQe : Q = (9223372036854775807 - D) / 10 := by rw [← hQ]; exact Int.tdiv_eq_ediv_of_nonneg (by omega)
    have hQ1 : Q ≤ 922337203685477580 := by omega
    have hQ0 : 0 ≤ Q := by omega
    have HQ := Lib.hid hQe
    clear hQe
    by_cases hbig : Q < X
    · have HR := Lib.hid (show ¬ V < 9223372036854775808 from fun hv => by
       have h1 := val_le s (k + 1)
       have h2 := HS.out
       have h3 := HX.out.1
       have h4 := HV.out
       have h5 := HQ.out
       omega)
      clear HX HS HQ hDe hr
      go_wp2_with fail
      go_ret2
      exact ⟨Below.refl _ _, _, _, rfl, .inl ⟨HR.out, rfl⟩⟩
    · have hXQ : X ≤ Q := by omega
      have HY := Lib.hid (show 10 * X + D = (val (s.take (k + 1)) : Int) ∧ val (s.take (k + 1)) < 9223372036854775808 by
       have h2 := HS.out
       have h3 := HX.out.1
       have h5 := HQ.out
       constructor <;> omega)
      have hb1 : 10 * X ≤ 9223372036854775800 := by omega
      have hb2 : 10 * X + D ≤ 9223372036854775807 := by have := HQ.out; omega
      have hb3 : 0 ≤ 10 * X := by omega
      have hb4 : 0 ≤ 10 * X + D := by omega
      clear HX HS HQ hDe hr
      go_wp2_with fail
      go_round
      case rel => exact ⟨k + 1, 10 * X + D, by omega, by go_num, rfl, hb4, HY⟩
      case measure => simp [intOf]; omega
  · obtain rfl : k = s.length := by omega
    rw [List.take_length] at HX
    have HXV := Lib.hid (show X = (V : Int) ∧ V < 9223372036854775808 by rw [← HV.out]; exact HX.out)
    have hix : ∀ w', (Instr.index 9 (.string (str s)) (.int .i64 0)).run Try.prog w' = .ok (.int .u8 (c.toNat : Int)) w' := by
     intro w'
     have := run_idx_str w' s 0 hlt0
     have e0 : s[0]'hlt0 = c := by rw [List.getElem?_eq_getElem hlt0] at h0; injection h0
     rw [e0] at this
     exact this
    clear HX
    by_cases hone : s.length = 1
    · have ho : (s.length : Int) = 1 := by omega
      go_wp2_with fail
      go_quiet (fail)
      go_wp2_with fail
      go_ret2
      exact ⟨below_draws _, _, _, rfl, .inr ⟨HXV.out.2, HXV.out.1, by rw [← HOK.out]; simp [hone]⟩⟩
    · have ho : ¬ (s.length : Int) = 1 := by omega
      by_cases h48 : c = 48
      · have hcc : (c.toNat : Int) = 48 := by rw [h48]; rfl
        rw [hcc] at hix
        go_wp2_with fail
        go_quiet (fail)
        go_wp2_with fail
        go_ret2
        exact ⟨below_draws _, _, _, rfl, .inr ⟨HXV.out.2, HXV.out.1, by rw [← HOK.out]; simp [hone, ho, h48]⟩⟩
      · have hcc : ¬ (c.toNat : Int) = 48 := fun e => h48 (UInt8.toNat_inj.1 (show c.toNat = 48 by omega))
        generalize (c.toNat : Int) = C at *
        have hcb : (C != 48) = true := bne_iff_ne.2 hcc
        go_wp2_with fail
        go_quiet (fail)
        go_wp2_with fail
        go_ret2
        exact ⟨below_draws _, _, _, rfl, .inr ⟨HXV.out.2, HXV.out.1, by rw [← HOK.out]; simp [hone, h48]⟩⟩
end Go.Proofs.Ytjllbacefbjjaaa
