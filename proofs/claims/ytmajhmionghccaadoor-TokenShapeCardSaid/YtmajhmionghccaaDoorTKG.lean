/-
  Contract of token.number.
-/
import Derived.Test.YtmajhmionghccaaDoorTKF
namespace Go.Proofs.YtmajhmionghccaaDoor
open Go Go.RowKit

theorem not_or3 {a b c : Prop} (ha : ¬ a) (hb : ¬ b) (hc : ¬ c) : ¬ (a ∨ b ∨ c) := fun h => h.elim ha fun h => h.elim hb hc
set_option maxRecDepth 100000 in
set_option maxHeartbeats 4000000 in
theorem number_any (c : UInt8) (r : List UInt8) (w : World) (hn : (c :: r).length ≤ 1099511627776) (h1 : tLe c = false) (h2 : tDi c = true) (tp : TypeId) (p : Value) (hv : w.cell? ⟨3, 0, none⟩ = some (.iface tp p)) :
    Calls Tryd.prog 30 #[.string (str (c :: r))] w (OneR (c :: r) w) := by
  have HT := Lib.hid (show tok1 (c :: r) = if ((c :: r).dropWhile tDi).head?.any tLe = true ∨ (c = 48 ∧ ((c :: r).takeWhile tDi).length ≠ 1) ∨ 9223372036854775808 ≤ val ((c :: r).takeWhile tDi) then none else some (2, (c :: r).takeWhile tDi, (val ((c :: r).takeWhile tDi) : Int)) by simp only [tok1, h1, h2, if_true]; rfl)
  have HA := Lib.hid (fun w' => ahead_any 29 tDi tells_digit (c :: r) w' hn)
  have hts := fun w' => run_take_str w' (c :: r) _ (take_le tDi (c :: r))
  have hds := fun w' => run_drop_str w' (c :: r) _ (take_le tDi (c :: r))
  rw [take_len] at hts
  rw [drop_len] at hds
  have hle := take_le tDi (c :: r)
  have hc0 : ∃ t, (c :: r).takeWhile tDi = c :: t := ⟨_, by rw [List.takeWhile_cons, if_pos h2]⟩
  have HD := Lib.hid (take_all tDi (c :: r))
  unfold OneR
  generalize hl : c :: r = l at *
  generalize tok1 l = res at *
  generalize l.takeWhile tDi = s at *
  generalize l.dropWhile tDi = b at *
  have hb0 : ∀ o, Below w.heap.size w (w.alloc o) := fun o => (Below.refl _ _).alloc (Nat.le_refl _) _
  have hsz := str_sz s
  have hse := str_toList s
  have hbe := str_toList b
  have hix : ∀ w', (Instr.index 9 (.string (str s)) (.int .i64 0)).run Tryd.prog w' = .ok (.int .u8 (c.toNat : Int)) w' := by
    obtain ⟨t, rfl⟩ := hc0
    exact fun w' => run_idx_str w' (c :: t) 0 (by simp)
  have hne : s ≠ [] := by
    obtain ⟨t, rfl⟩ := hc0
    simp
  have HS1 := Lib.hid (show c = 48 → (s.length ≠ 1 ↔ s ≠ [48]) by
    obtain ⟨t, rfl⟩ := hc0
    rintro rfl
    rcases t with _ | ⟨d, t⟩ <;> simp)
  have hcq : c = 48 ↔ (c.toNat : Int) = 48 := by
    constructor
    · rintro rfl
      rfl
    · intro e
      have e2 : c.toNat = 48 := by omega
      exact UInt8.toNat_inj.1 e2
  have HCQ := Lib.hid hcq
  clear hc0 hl hcq
  generalize hC : (c.toNat : Int) = C at *
  have hv1 : ∀ o, (w.alloc o).cell? ⟨3, 0, none⟩ = some (.iface tp p) := fun o => ((hb0 o).cell (World.block_lt_of_cell? w _ hv)).trans hv
  have HPO := Lib.hid (fun hv' w1 => parse_ok s hne HD.out (by omega) hv' w1)
  have HPB := Lib.hid (fun hv' o => parse_big s hne HD.out (by omega) hv' (w.alloc o) tp p (hv1 o))
  clear hv1 hv
  have HNE := Lib.hid hne
  clear hne hC
  go_enter Tryd.func30, Tryd.ntmps30
  go_wp2_with fail
  refine (HA.out _).mono ?_
  rintro e w' ⟨rfl, rfl⟩
  clear HA
  rcases b with _ | ⟨d, b⟩
  · have hbi : (str ([] : List UInt8)).toList = [] := by rw [str_toList]
    clear hbe
    by_cases h48 : C = 48
    · have hcc := HCQ.out.2 h48
      subst h48
      by_cases hs : s = [48]
      · have hs2 : (!s == [48]) = false := by simp [hs]
        have hz := Lib.hid (HS1.out hcc)
        have HSH := Lib.hid hs
        clear hs
        by_cases hv : val s < 9223372036854775808
        · have HR := Lib.hid (show res = some (2, s, (val s : Int)) by rw [HT.out, if_neg (not_or3 (by simp) (fun q => (hz.out.1 q.2) HSH.out) (by omega))])
          have HP := Lib.hid (HPO.out hv)
          clear HPO HPB HT hv
          generalize (val s : Int) = V at *
          go_wp2_with fail
          refine (HP.out _).mono ?_
          rintro e w1 ⟨rfl, hb1⟩
          have hA : CAt w1 w.heap.size 35 [.int .u8 0, .string (str []), .int .i64 0, .int .i64 0] := CAt.below (heap_alloc_new w _) hb1 (by simp)
          have HB1 := Lib.hid ((hb0 _).trans (hb1.mono (hb0 _).size))
          have f0 := hA.frozen 0
          have f1 := hA.frozen 1
          have f2 := hA.frozen 2
          have f3 := hA.frozen 3
          have s0 := hA.cell (j := 0) (by simp)
          have s1 := hA.cell (j := 1) (by simp)
          have s2 := hA.cell (j := 2) (by simp)
          have s3 := hA.cell (j := 3) (by simp)
          have HQ := Lib.hid ((((hA.set 0 (.int .u8 2)).set 1 (.string (str s))).set 2 (.int .i64 V)).set 3 (.int .i64 0))
          clear hA hb1 HP
          go_wp2_with fail
          refine bodyPost_ret (tok_back rfl rfl HQ.out) rfl ?_
          exact ⟨HB1.out.grown (grown4 _ _ _ _ _ _) HB1.out.size (fun j e => by cases e; exact Nat.le_refl _), _, _, _, _, rfl, .inr ⟨HR.out, rfl⟩⟩
        · have HR := Lib.hid (show res = none by rw [HT.out, if_pos (.inr (.inr (by omega)))])
          have HP := Lib.hid (HPB.out hv)
          clear HPO HPB HT hv
          go_wp2_with fail
          refine (HP.out _).mono ?_
          rintro e w1 ⟨x, N, t, rfl, hb1⟩
          have hA : CAt w1 w.heap.size 35 [.int .u8 0, .string (str []), .int .i64 0, .int .i64 0] := CAt.below (heap_alloc_new w _) hb1 (by simp)
          have HB1 := Lib.hid ((hb0 _).trans (hb1.mono (hb0 _).size))
          have f0 := hA.frozen 0
          have f1 := hA.frozen 1
          have f2 := hA.frozen 2
          have f3 := hA.frozen 3
          have s0 := hA.cell (j := 0) (by simp)
          have s1 := hA.cell (j := 1) (by simp)
          have s2 := hA.cell (j := 2) (by simp)
          have s3 := hA.cell (j := 3) (by simp)
          have HQ := Lib.hid ((((hA.set 0 (.int .u8 0)).set 1 (.string (str []))).set 2 (.int .i64 0)).set 3 (.int .i64 0))
          clear hA hb1 HP
          go_wp2_with fail
          refine bodyPost_ret (tok_back rfl rfl HQ.out) rfl ?_
          exact ⟨HB1.out.grown (grown4 _ _ _ _ _ _) HB1.out.size (fun j e => by cases e; exact Nat.le_refl _), _, _, _, _, rfl, .inl ⟨HR.out, rfl⟩⟩
      · have hs2 : (!s == [48]) = true := by simp [hs]
        have HR := Lib.hid (show res = none by rw [HT.out, if_pos (.inr (.inl ⟨hcc, (HS1.out hcc).2 hs⟩))])
        clear hs HPO HPB HT
        go_wp2_with fail
        refine bodyPost_ret (tok_back (s := []) rfl rfl (heap_alloc_new w _)) rfl ?_
        exact ⟨hb0 _, _, _, _, _, rfl, .inl ⟨HR.out, rfl⟩⟩
    · have h48q : ¬ C = 48 := h48
      have hcc : ¬ c = 48 := fun e => h48 (HCQ.out.1 e)
      by_cases hv : val s < 9223372036854775808
      · have HR := Lib.hid (show res = some (2, s, (val s : Int)) by rw [HT.out, if_neg (not_or3 (by simp) (fun q => hcc q.1) (by omega))])
        have HP := Lib.hid (HPO.out hv)
        clear HPO HPB HT hv
        generalize (val s : Int) = V at *
        go_wp2_with fail
        refine (HP.out _).mono ?_
        rintro e w1 ⟨rfl, hb1⟩
        have hA : CAt w1 w.heap.size 35 [.int .u8 0, .string (str []), .int .i64 0, .int .i64 0] := CAt.below (heap_alloc_new w _) hb1 (by simp)
        have HB1 := Lib.hid ((hb0 _).trans (hb1.mono (hb0 _).size))
        have f0 := hA.frozen 0
        have f1 := hA.frozen 1
        have f2 := hA.frozen 2
        have f3 := hA.frozen 3
        have s0 := hA.cell (j := 0) (by simp)
        have s1 := hA.cell (j := 1) (by simp)
        have s2 := hA.cell (j := 2) (by simp)
        have s3 := hA.cell (j := 3) (by simp)
        have HQ := Lib.hid ((((hA.set 0 (.int .u8 2)).set 1 (.string (str s))).set 2 (.int .i64 V)).set 3 (.int .i64 0))
        clear hA hb1 HP
        go_wp2_with fail
        refine bodyPost_ret (tok_back rfl rfl HQ.out) rfl ?_
        exact ⟨HB1.out.grown (grown4 _ _ _ _ _ _) HB1.out.size (fun j e => by cases e; exact Nat.le_refl _), _, _, _, _, rfl, .inr ⟨HR.out, rfl⟩⟩
      · have HR := Lib.hid (show res = none by rw [HT.out, if_pos (.inr (.inr (by omega)))])
        have HP := Lib.hid (HPB.out hv)
        clear HPO HPB HT hv
        go_wp2_with fail
        refine (HP.out _).mono ?_
        rintro e w1 ⟨x, N, t, rfl, hb1⟩
        have hA : CAt w1 w.heap.size 35 [.int .u8 0, .string (str []), .int .i64 0, .int .i64 0] := CAt.below (heap_alloc_new w _) hb1 (by simp)
        have HB1 := Lib.hid ((hb0 _).trans (hb1.mono (hb0 _).size))
        have f0 := hA.frozen 0
        have f1 := hA.frozen 1
        have f2 := hA.frozen 2
        have f3 := hA.frozen 3
        have s0 := hA.cell (j := 0) (by simp)
        have s1 := hA.cell (j := 1) (by simp)
        have s2 := hA.cell (j := 2) (by simp)
        have s3 := hA.cell (j := 3) (by simp)
        have HQ := Lib.hid ((((hA.set 0 (.int .u8 0)).set 1 (.string (str []))).set 2 (.int .i64 0)).set 3 (.int .i64 0))
        clear hA hb1 HP
        go_wp2_with fail
        refine bodyPost_ret (tok_back rfl rfl HQ.out) rfl ?_
        exact ⟨HB1.out.grown (grown4 _ _ _ _ _ _) HB1.out.size (fun j e => by cases e; exact Nat.le_refl _), _, _, _, _, rfl, .inl ⟨HR.out, rfl⟩⟩
  · have hbi : ¬ (str (d :: b)).toList = [] := by rw [str_toList]; simp
    have hlt : 0 < (str (d :: b)).size := by rw [str_sz]; simp
    clear hbe
    have hd0 : (str (d :: b))[0]'hlt = d := str_getI (d :: b) 0 (by simp) hlt
    have HL : Hid (∀ w', Calls Tryd.prog 27 #[.int .u8 (((str (d :: b))[0]'hlt).toNat : Int)] w' fun e w2 => e = .returned (.bool (tLe d)) ∧ w' = w2) := fun w' => by
      rw [hd0]
      exact tells_letter.2 d w'
    clear hd0
    cases hld : tLe d
    · have HNB := Lib.hid (show ¬ ((d :: b).head?.any tLe = true) by simp [hld])
      rw [hld] at HL
      clear hld
      generalize d :: b = b2 at *
      go_wp2_with fail
      refine (HL.out _).mono ?_
      rintro e w' ⟨rfl, rfl⟩
      clear HL
      by_cases h48 : C = 48
      · have hcc := HCQ.out.2 h48
        subst h48
        by_cases hs : s = [48]
        · have hs2 : (!s == [48]) = false := by simp [hs]
          have hz := Lib.hid (HS1.out hcc)
          have HSH := Lib.hid hs
          clear hs
          by_cases hv : val s < 9223372036854775808
          · have HR := Lib.hid (show res = some (2, s, (val s : Int)) by rw [HT.out, if_neg (not_or3 HNB.out (fun q => (hz.out.1 q.2) HSH.out) (by omega))])
            have HP := Lib.hid (HPO.out hv)
            clear HPO HPB HT hv
            generalize (val s : Int) = V at *
            go_wp2_with fail
            refine (HP.out _).mono ?_
            rintro e w1 ⟨rfl, hb1⟩
            have hA : CAt w1 w.heap.size 35 [.int .u8 0, .string (str []), .int .i64 0, .int .i64 0] := CAt.below (heap_alloc_new w _) hb1 (by simp)
            have HB1 := Lib.hid ((hb0 _).trans (hb1.mono (hb0 _).size))
            have f0 := hA.frozen 0
            have f1 := hA.frozen 1
            have f2 := hA.frozen 2
            have f3 := hA.frozen 3
            have s0 := hA.cell (j := 0) (by simp)
            have s1 := hA.cell (j := 1) (by simp)
            have s2 := hA.cell (j := 2) (by simp)
            have s3 := hA.cell (j := 3) (by simp)
            have HQ := Lib.hid ((((hA.set 0 (.int .u8 2)).set 1 (.string (str s))).set 2 (.int .i64 V)).set 3 (.int .i64 0))
            clear hA hb1 HP
            go_wp2_with fail
            refine bodyPost_ret (tok_back rfl rfl HQ.out) rfl ?_
            exact ⟨HB1.out.grown (grown4 _ _ _ _ _ _) HB1.out.size (fun j e => by cases e; exact Nat.le_refl _), _, _, _, _, rfl, .inr ⟨HR.out, rfl⟩⟩
          · have HR := Lib.hid (show res = none by rw [HT.out, if_pos (.inr (.inr (by omega)))])
            have HP := Lib.hid (HPB.out hv)
            clear HPO HPB HT hv
            go_wp2_with fail
            refine (HP.out _).mono ?_
            rintro e w1 ⟨x, N, t, rfl, hb1⟩
            have hA : CAt w1 w.heap.size 35 [.int .u8 0, .string (str []), .int .i64 0, .int .i64 0] := CAt.below (heap_alloc_new w _) hb1 (by simp)
            have HB1 := Lib.hid ((hb0 _).trans (hb1.mono (hb0 _).size))
            have f0 := hA.frozen 0
            have f1 := hA.frozen 1
            have f2 := hA.frozen 2
            have f3 := hA.frozen 3
            have s0 := hA.cell (j := 0) (by simp)
            have s1 := hA.cell (j := 1) (by simp)
            have s2 := hA.cell (j := 2) (by simp)
            have s3 := hA.cell (j := 3) (by simp)
            have HQ := Lib.hid ((((hA.set 0 (.int .u8 0)).set 1 (.string (str []))).set 2 (.int .i64 0)).set 3 (.int .i64 0))
            clear hA hb1 HP
            go_wp2_with fail
            refine bodyPost_ret (tok_back rfl rfl HQ.out) rfl ?_
            exact ⟨HB1.out.grown (grown4 _ _ _ _ _ _) HB1.out.size (fun j e => by cases e; exact Nat.le_refl _), _, _, _, _, rfl, .inl ⟨HR.out, rfl⟩⟩
        · have hs2 : (!s == [48]) = true := by simp [hs]
          have HR := Lib.hid (show res = none by rw [HT.out, if_pos (.inr (.inl ⟨hcc, (HS1.out hcc).2 hs⟩))])
          clear hs HPO HPB HT
          go_wp2_with fail
          refine bodyPost_ret (tok_back (s := []) rfl rfl (heap_alloc_new w _)) rfl ?_
          exact ⟨hb0 _, _, _, _, _, rfl, .inl ⟨HR.out, rfl⟩⟩
      · have h48q : ¬ C = 48 := h48
        have hcc : ¬ c = 48 := fun e => h48 (HCQ.out.1 e)
        by_cases hv : val s < 9223372036854775808
        · have HR := Lib.hid (show res = some (2, s, (val s : Int)) by rw [HT.out, if_neg (not_or3 HNB.out (fun q => hcc q.1) (by omega))])
          have HP := Lib.hid (HPO.out hv)
          clear HPO HPB HT hv
          generalize (val s : Int) = V at *
          go_wp2_with fail
          refine (HP.out _).mono ?_
          rintro e w1 ⟨rfl, hb1⟩
          have hA : CAt w1 w.heap.size 35 [.int .u8 0, .string (str []), .int .i64 0, .int .i64 0] := CAt.below (heap_alloc_new w _) hb1 (by simp)
          have HB1 := Lib.hid ((hb0 _).trans (hb1.mono (hb0 _).size))
          have f0 := hA.frozen 0
          have f1 := hA.frozen 1
          have f2 := hA.frozen 2
          have f3 := hA.frozen 3
          have s0 := hA.cell (j := 0) (by simp)
          have s1 := hA.cell (j := 1) (by simp)
          have s2 := hA.cell (j := 2) (by simp)
          have s3 := hA.cell (j := 3) (by simp)
          have HQ := Lib.hid ((((hA.set 0 (.int .u8 2)).set 1 (.string (str s))).set 2 (.int .i64 V)).set 3 (.int .i64 0))
          clear hA hb1 HP
          go_wp2_with fail
          refine bodyPost_ret (tok_back rfl rfl HQ.out) rfl ?_
          exact ⟨HB1.out.grown (grown4 _ _ _ _ _ _) HB1.out.size (fun j e => by cases e; exact Nat.le_refl _), _, _, _, _, rfl, .inr ⟨HR.out, rfl⟩⟩
        · have HR := Lib.hid (show res = none by rw [HT.out, if_pos (.inr (.inr (by omega)))])
          have HP := Lib.hid (HPB.out hv)
          clear HPO HPB HT hv
          go_wp2_with fail
          refine (HP.out _).mono ?_
          rintro e w1 ⟨x, N, t, rfl, hb1⟩
          have hA : CAt w1 w.heap.size 35 [.int .u8 0, .string (str []), .int .i64 0, .int .i64 0] := CAt.below (heap_alloc_new w _) hb1 (by simp)
          have HB1 := Lib.hid ((hb0 _).trans (hb1.mono (hb0 _).size))
          have f0 := hA.frozen 0
          have f1 := hA.frozen 1
          have f2 := hA.frozen 2
          have f3 := hA.frozen 3
          have s0 := hA.cell (j := 0) (by simp)
          have s1 := hA.cell (j := 1) (by simp)
          have s2 := hA.cell (j := 2) (by simp)
          have s3 := hA.cell (j := 3) (by simp)
          have HQ := Lib.hid ((((hA.set 0 (.int .u8 0)).set 1 (.string (str []))).set 2 (.int .i64 0)).set 3 (.int .i64 0))
          clear hA hb1 HP
          go_wp2_with fail
          refine bodyPost_ret (tok_back rfl rfl HQ.out) rfl ?_
          exact ⟨HB1.out.grown (grown4 _ _ _ _ _ _) HB1.out.size (fun j e => by cases e; exact Nat.le_refl _), _, _, _, _, rfl, .inl ⟨HR.out, rfl⟩⟩
    · have HR := Lib.hid (show res = none by rw [HT.out, if_pos (.inl (by simp [hld]))])
      rw [hld] at HL
      clear hld HPO HPB HT
      generalize d :: b = b2 at *
      go_wp2_with fail
      refine (HL.out _).mono ?_
      rintro e w' ⟨rfl, rfl⟩
      clear HL
      go_wp2_with fail
      refine bodyPost_ret (tok_back (s := []) rfl rfl (heap_alloc_new w _)) rfl ?_
      exact ⟨hb0 _, _, _, _, _, rfl, .inl ⟨HR.out, rfl⟩⟩
end Go.Proofs.YtmajhmionghccaaDoor
