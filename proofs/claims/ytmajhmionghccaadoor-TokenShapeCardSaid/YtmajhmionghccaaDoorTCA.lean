/-
  Contracts of the document's blank, and of whether a text stands in a list.
-/
import Derived.Test.YtmajhmionghccaaDoorTKS
namespace Go.Proofs.YtmajhmionghccaaDoor
open Go Go.RowKit

theorem sk_drop {l : List UInt8} {j : Nat} (h : j < l.length) (hb : tBl l[j] = true) : sk false (l.drop j) = sk false (l.drop (j + 1)) := by
  rw [List.drop_eq_getElem_cons h]
  simp only [sk, hb, if_true]
theorem sk_rem_drop {l : List UInt8} {j : Nat} (h : j < l.length) (h2 : j + 1 < l.length) (e : l[j] = 47) (e2 : l[j + 1] = 47) : sk false (l.drop j) = sk true (l.drop j) := by
  rw [List.drop_eq_getElem_cons h, List.drop_eq_getElem_cons h2, e, e2]
  rfl
theorem skt_drop {l : List UInt8} {j : Nat} (h : j < l.length) (hb : ¬ l[j] = 10) : sk true (l.drop j) = sk true (l.drop (j + 1)) := by
  rw [List.drop_eq_getElem_cons h]
  simp only [sk, hb, if_false]
theorem skt_end {l : List UInt8} {j : Nat} (h : j < l.length) (hb : l[j] = 10) : sk true (l.drop j) = sk false (l.drop j) := by
  rw [List.drop_eq_getElem_cons h, hb]
  rfl
theorem sk_here {l : List UInt8} {j : Nat} (h : j < l.length) (hb : tBl l[j] = false) (hr : ¬ (l[j] = 47 ∧ l[j + 1]? = some 47)) : sk false (l.drop j) = l.drop j := by
  rw [List.drop_eq_getElem_cons h]
  simp only [sk, hb]
  rw [if_neg (by simp), if_neg]
  rintro ⟨e, e2⟩
  refine hr ⟨e, ?_⟩
  rw [List.head?_drop] at e2
  exact e2
/-- where blanks that begin at a place end -/
def bp (l : List UInt8) (k : Nat) : Nat := l.length - (sk false (l.drop k)).length
theorem bp_of {l : List UInt8} {k j : Nat} (hj : j ≤ l.length) (h : sk false (l.drop k) = l.drop j) : bp l k = j := by
  unfold bp
  rw [h, List.length_drop]
  omega
theorem bp_drop {l : List UInt8} {k : Nat} (_hk : k ≤ l.length) : l.drop (bp l k) = sk false (l.drop k) ∧ bp l k ≤ l.length ∧ k ≤ bp l k := by
  obtain ⟨u, hu⟩ := sk_suffix false (l.drop k)
  have h1 := sk_len false (l.drop k)
  rw [List.length_drop] at h1
  have h2 : l.length - k = u.length + (sk false (l.drop k)).length := by
    have := congrArg List.length hu
    rw [List.length_append, List.length_drop] at this
    exact this
  have e : bp l k = k + u.length := by unfold bp; omega
  refine ⟨?_, by unfold bp; omega, by omega⟩
  rw [e, ← List.drop_drop, hu, List.drop_left]
  rw [← hu]
set_option maxRecDepth 100000 in
set_option maxHeartbeats 8000000 in
theorem refBlank_any (A : Option Addr) (c : Nat) (l : List UInt8) (k : Nat) (w : World) (hl : Lies w w.heap.size A l) (hn : l.length ≤ 1099511627776) (hk : k ≤ l.length) :
    Calls Tryd.prog 20 #[.slice A l.length c, .int .i64 k] w fun e w' => e = .returned (.int .i64 (bp l k : Nat)) ∧ w = w' := by
  obtain ⟨T, hT⟩ : ∃ T, sk false (l.drop k) = T := ⟨_, rfl⟩
  have HP := Lib.hid (fun j (hj : j ≤ l.length) (h : T = l.drop j) => bp_of (k := k) hj (hT.trans h))
  have H0 := Lib.hid (show sk false (l.drop k) = T from hT)
  clear hT
  have hni : (l.length : Int) ≤ 1099511627776 := by omega
  generalize bp l k = R at *
  go_enter Tryd.func20, Tryd.ntmps20
  go_wp2_with fail
  go_loop [1] (fun i => ∃ j : Nat, j ≤ l.length ∧ i = .int .i64 j ∧ Hid (sk false (l.drop j) = T)) (fun i => l.length - (intOf i).toNat)
  case atStart => exact ⟨k, hk, rfl, H0⟩
  case round =>
    obtain ⟨j, hj, rfl, HS⟩ := hrel
    clear H0
    by_cases hlt : j < l.length
    · obtain ⟨g, o, rfl, hg, hcell⟩ := hl.at_ hlt
      have hlti : (j : Int) < (l.length : Int) := by omega
      cases hb : tBl l[j]
      · by_cases h47 : l[j] = 47
        · by_cases hlt2 : j + 1 < l.length
          · have hlt2i : (j : Int) + 1 < (l.length : Int) := by omega
            obtain ⟨g', o', e', hg', hcell2⟩ := hl.at_ hlt2
            cases e'
            by_cases h472 : l[j + 1] = 47
            · have HS2 := Lib.hid (show sk true (l.drop j) = T by rw [← sk_rem_drop hlt hlt2 h47 h472]; exact HS.out)
              rw [h47] at hcell
              rw [h472] at hcell2
              replace hcell : w.cell? ⟨g, o + j, none⟩ = some (.int .u8 47) := hcell
              replace hcell2 : w.cell? ⟨g, o + (j + 1), none⟩ = some (.int .u8 47) := hcell2
              have hcell3 : w.cell? ⟨g, o + j + 1, none⟩ = some (.int .u8 47) := hcell2
              have HN := Lib.hid (show ¬ l[j] = 10 by rw [h47]; decide)
              clear hb h47 h472 HS
              go_wp2_with fail
              go_loop [1] (fun i => ∃ m : Nat, j ≤ m ∧ m ≤ l.length ∧ i = .int .i64 m ∧ Hid (sk true (l.drop m) = T)) (fun i => l.length - (intOf i).toNat)
              case atStart => exact ⟨j, by omega, by omega, rfl, HS2⟩
              case round =>
                obtain ⟨m, hm1, hm2, rfl, HM⟩ := hrel
                clear HS2
                by_cases hltm : m < l.length
                · obtain ⟨g', o', e', hg', hcm⟩ := hl.at_ hltm
                  cases e'
                  by_cases h10 : l[m] = 10
                  · have HE := Lib.hid (show sk false (l.drop m) = T by rw [← skt_end hltm h10]; exact HM.out)
                    have hne : m ≠ j := by
                      rintro rfl
                      exact HN.out h10
                    rw [h10] at hcm
                    replace hcm : w.cell? ⟨g, o + m, none⟩ = some (.int .u8 10) := hcm
                    clear h10 HM
                    go_wp2_with fail
                    go_round
                    case rel => exact ⟨m, hm2, rfl, HE⟩
                    case measure => simp [intOf]; omega
                  · have HE := Lib.hid (show sk true (l.drop (m + 1)) = T by rw [← skt_drop hltm h10]; exact HM.out)
                    have hx2 : ¬ ((l[m]).toNat : Int) = 10 := fun e => h10 (UInt8.toNat_inj.1 (show (l[m]).toNat = 10 by omega))
                    clear h10 HM
                    generalize ((l[m]).toNat : Int) = X at *
                    go_wp2_with fail
                    go_round
                    case rel => exact ⟨m + 1, by omega, by omega, by go_num, HE⟩
                    case measure => simp [intOf]; omega
                · obtain rfl : m = l.length := by omega
                  have HE := Lib.hid (show sk false (l.drop l.length) = T by rw [← HM.out, List.drop_length]; rfl)
                  clear HM
                  go_wp2_with fail
                  go_round
                  case rel => exact ⟨l.length, by omega, rfl, HE⟩
                  case measure => simp [intOf]; omega
            · have HR := Lib.hid (show R = j from HP.out j hj (HS.out.symm.trans (sk_here hlt hb fun q => h472 (by
                have := q.2
                rw [List.getElem?_eq_getElem hlt2] at this
                injection this))))
              have hx2 : ¬ ((l[j + 1]).toNat : Int) = 47 := fun e => h472 (UInt8.toNat_inj.1 (show (l[j + 1]).toNat = 47 by omega))
              rw [h47] at hcell
              replace hcell : w.cell? ⟨g, o + j, none⟩ = some (.int .u8 47) := hcell
              have hcell3 : w.cell? ⟨g, o + j + 1, none⟩ = some (.int .u8 ((l[j + 1]).toNat : Int)) := hcell2
              clear hb h47 h472 HS HP
              generalize ((l[j + 1]).toNat : Int) = X at *
              go_wp2_with fail
              go_ret
              exact ⟨by rw [HR.out]; rfl, rfl⟩
          · have hlt2i : ¬ (j : Int) + 1 < (l.length : Int) := by omega
            have HR := Lib.hid (show R = j from HP.out j hj (HS.out.symm.trans (sk_here hlt hb fun q => by
                have := q.2
                rw [List.getElem?_eq_none (by omega)] at this
                cases this)))
            rw [h47] at hcell
            replace hcell : w.cell? ⟨g, o + j, none⟩ = some (.int .u8 47) := hcell
            clear hb h47 HS HP
            go_wp2_with fail
            go_ret
            exact ⟨by rw [HR.out]; rfl, rfl⟩
        · have HR := Lib.hid (show R = j from HP.out j hj (HS.out.symm.trans (sk_here hlt hb fun q => h47 q.1)))
          have hx2 : ¬ ((l[j]).toNat : Int) = 47 := fun e => h47 (UInt8.toNat_inj.1 (show (l[j]).toNat = 47 by omega))
          have hq : ¬ (((l[j]).toNat : Int) = 32 ∨ ((l[j]).toNat : Int) = 9 ∨ ((l[j]).toNat : Int) = 13 ∨ ((l[j]).toNat : Int) = 10) := of_decide_eq_false hb
          clear hb h47 HS HP
          generalize ((l[j]).toNat : Int) = X at *
          have q1 : ¬ X = 32 := fun e => hq (.inl e)
          have q2 : ¬ X = 9 := fun e => hq (.inr (.inl e))
          have q3 : ¬ X = 13 := fun e => hq (.inr (.inr (.inl e)))
          have q4 : ¬ X = 10 := fun e => hq (.inr (.inr (.inr e)))
          have p1 : (X == 32) = false := beq_eq_false_iff_ne.2 q1
          have p2 : (X == 9) = false := beq_eq_false_iff_ne.2 q2
          have p3 : (X == 13) = false := beq_eq_false_iff_ne.2 q3
          have p4 : (X == 10) = false := beq_eq_false_iff_ne.2 q4
          have p5 : (X == 47) = false := beq_eq_false_iff_ne.2 hx2
          clear hq q1 q2 q3 q4 hx2
          go_wp2_with fail
          go_ret
          exact ⟨by rw [HR.out]; rfl, rfl⟩
      · have HE := Lib.hid (show sk false (l.drop (j + 1)) = T by rw [← sk_drop hlt hb]; exact HS.out)
        have hq : ((l[j]).toNat : Int) = 32 ∨ ((l[j]).toNat : Int) = 9 ∨ ((l[j]).toNat : Int) = 13 ∨ ((l[j]).toNat : Int) = 10 := of_decide_eq_true hb
        clear hb HS
        generalize ((l[j]).toNat : Int) = X at *
        rcases hq with rfl | rfl | rfl | rfl
        all_goals
          go_wp2_with fail
          go_round
          case rel => exact ⟨j + 1, by omega, by go_num, HE⟩
          case measure => simp [intOf]; omega
    · obtain rfl : j = l.length := by omega
      have HR := Lib.hid (show R = l.length from HP.out l.length hj (by rw [← HS.out, List.drop_length]; rfl))
      clear HS HP
      go_wp2_with fail
      go_ret
      exact ⟨by rw [HR.out]; rfl, rfl⟩
end Go.Proofs.YtmajhmionghccaaDoor
