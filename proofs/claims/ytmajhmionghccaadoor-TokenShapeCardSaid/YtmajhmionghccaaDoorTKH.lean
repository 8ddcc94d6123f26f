/-
  Contracts of token.sign and token.first.
-/
import Derived.Test.YtmajhmionghccaaDoorTKG
import Derived.WalkMore
namespace Go.Proofs.YtmajhmionghccaaDoor
open Go Go.RowKit

/-- the signs in the order in which the program has them -/
def signsL : List (List UInt8) := [[40], [41], [123], [125], [91], [93], [44], [59], [46], [61], [43], [45], [42], [47], [37], [33], [38, 38], [124, 124], [60], [60, 61], [62], [62, 61], [61, 61], [33, 61]]
/-- the variables that are read are as they were laid -/
structure Laid (w : World) : Prop where
  sg : ∀ i (h : i < 24), w.cell? ⟨0, i, none⟩ = some (.string (str (signsL[i]'h)))
  er : ∃ tp p, w.cell? ⟨3, 0, none⟩ = some (.iface tp p)
theorem Laid.below {w w' : World} (h : Laid w) (hb : Below w.heap.size w w') : Laid w' := by
  obtain ⟨tp, p, he⟩ := h.er
  exact ⟨fun i hi => (hb.cell (World.block_lt_of_cell? w _ (h.sg i hi))).trans (h.sg i hi), tp, p, (hb.cell (World.block_lt_of_cell? w _ he)).trans he⟩
/-- the signs as an array's value -/
def sgArr : Array Value := #[.string ⟨#[40]⟩, .string ⟨#[41]⟩, .string ⟨#[123]⟩, .string ⟨#[125]⟩, .string ⟨#[91]⟩, .string ⟨#[93]⟩, .string ⟨#[44]⟩, .string ⟨#[59]⟩, .string ⟨#[46]⟩, .string ⟨#[61]⟩, .string ⟨#[43]⟩, .string ⟨#[45]⟩, .string ⟨#[42]⟩, .string ⟨#[47]⟩, .string ⟨#[37]⟩, .string ⟨#[33]⟩, .string ⟨#[38, 38]⟩, .string ⟨#[124, 124]⟩, .string ⟨#[60]⟩, .string ⟨#[60, 61]⟩, .string ⟨#[62]⟩, .string ⟨#[62, 61]⟩, .string ⟨#[61, 61]⟩, .string ⟨#[33, 61]⟩]
theorem index_gen (w : World) (cs : Array Value) (j : Nat) (hj : j < 24) (s : ByteArray) (h : cs[j]? = some (.string s)) : (Instr.index 62 (.agg cs) (.int .i64 j)).run Tryd.prog w = .ok (.string s) w := by
  have hs : (Tryd.prog.info? 9).map (·.size) = some 1 := by kernel_rfl
  cases hq : Tryd.prog.info? 9 with
  | none => simp [hq] at hs
  | some i0 =>
    have hi : i0.size = 1 := by simpa [hq] using hs
    have h1 : ((j : Int)).toNat = j := by omega
    simp [Instr.index, run_underlying Tryd.underlying62, sizeOf, typeInfo, hq, hi, asIntOf, part, go_sem, hj, h1, h]
theorem sg_get : ∀ j (h : j < 24), sgArr[j]? = some (.string (str (signsL[j]'h))) := by
  intro j h
  have hj' : j = 0 ∨ j = 1 ∨ j = 2 ∨ j = 3 ∨ j = 4 ∨ j = 5 ∨ j = 6 ∨ j = 7 ∨ j = 8 ∨ j = 9 ∨ j = 10 ∨ j = 11 ∨ j = 12 ∨ j = 13 ∨ j = 14 ∨ j = 15 ∨ j = 16 ∨ j = 17 ∨ j = 18 ∨ j = 19 ∨ j = 20 ∨ j = 21 ∨ j = 22 ∨ j = 23 := by omega
  rcases hj' with rfl | rfl | rfl | rfl | rfl | rfl | rfl | rfl | rfl | rfl | rfl | rfl | rfl | rfl | rfl | rfl | rfl | rfl | rfl | rfl | rfl | rfl | rfl | rfl <;> rfl
theorem index_sg (w : World) (j : Nat) (hj : j < 24) : (Instr.index 62 (.agg sgArr) (.int .i64 j)).run Tryd.prog w = .ok (.string (str (signsL[j]'hj))) w := index_gen w sgArr j hj _ (sg_get j hj)
theorem run_sg {w : World} (h : Laid w) : (loadVar 62 ⟨0, 0, none⟩).run Tryd.prog w = .ok (.agg sgArr) w := by
  have hl : (loadCells ⟨0, 0, none⟩ sgArr.toList.length).run Tryd.prog w = .ok sgArr.toList.toArray w :=
    run_loadCells_list (P := Tryd.prog) w ⟨0, 0, none⟩ sgArr.toList (fun j v hv => by
      have hadd : (⟨0, 0, none⟩ : Addr).add j = ⟨0, j, none⟩ := by unfold Addr.add; split <;> simp_all
      have hj : j < 24 := (List.getElem?_eq_some_iff.1 hv).1
      rw [hadd, h.sg j hj]
      have e := sg_get j hj
      have e2 : sgArr[j]? = some v := by simpa using hv
      rw [e2] at e
      exact e.symm)
  have hs : (Tryd.prog.info? 62).map (·.size) = some 24 := by kernel_rfl
  cases hq : Tryd.prog.info? 62 with
  | none => simp [hq] at hs
  | some i =>
    have hs : i.size = 24 := by simpa [hq] using hs
    have hagg : (isAgg 62).run Tryd.prog w = .ok true w := by
      unfold isAgg
      rw [Sem.run_bind, run_underlying Tryd.underlying62 w]
      rfl
    have hz : sgArr.size = 24 := rfl
    simp only [Array.length_toList, Array.toArray_toList, hz] at hl
    simp [loadVar, Sem.run_bind, hagg, sizeOf, typeInfo, hq, hs, hl]
theorem wp_load_sg {ops : Array Oper} {rest : List Oper} {o : Oper} {a : Act} {Q : Exit → Act → World → Prop} (w : World) (hgd : o.guard = none) (ho : o.op = .load 62 (.global 0)) (h : Laid w)
    (hk : wpList Tryd.prog ops Q rest (a.put o.dst (.agg sgArr)) w) : wpList Tryd.prog ops Q (o :: rest) a w := by
  refine wpList_plain hgd fun K' hK' => ?_
  have hx : a.eval (.global 0) = .pointer (some ⟨0, 0, none⟩) := rfl
  unfold Oper.wp execOp
  simp only [ho, hx, Instr.loadAt, Instr.sureAddr, Sem.run_bind, Sem.run_pure, Result.andThen_ok, run_sg h]
  exact hK' _ _ hk
theorem sig_in2 : ∀ s ∈ signsL, s.length = 2 → s ∈ sigs2 := by decide
theorem sig_in1 : ∀ s ∈ signsL, s.length = 1 → s ∈ sigs1 := by decide
theorem sig_of2 : ∀ s ∈ sigs2, s ∈ signsL := by decide
theorem sig_of1 : ∀ s ∈ sigs1, s ∈ signsL := by decide
theorem pre_take {s l : List UInt8} (h : s.isPrefixOf l = true) : l.take s.length = s := by
  obtain ⟨t, rfl⟩ := List.isPrefixOf_iff_prefix.1 h
  rw [List.take_left]
theorem take_pre (l : List UInt8) (n : Nat) : (l.take n).isPrefixOf l = true := List.isPrefixOf_iff_prefix.2 (List.take_prefix n l)
/-- no sign of so many bytes, among the first ones, stands ahead -/
def NoSg (l : List UInt8) (z j : Nat) : Prop := ∀ i (h : i < 24), i < j → (signsL[i]'h).length = z → (signsL[i]'h).isPrefixOf l = false
theorem NoSg.zero (l : List UInt8) (z : Nat) : NoSg l z 0 := fun _ _ h => absurd h (by omega)
theorem NoSg.next {l : List UInt8} {z j : Nat} (h : NoSg l z j) (hj : j < 24) (hn : (signsL[j]'hj).length = z → (signsL[j]'hj).isPrefixOf l = false) : NoSg l z (j + 1) := fun i hi hlt hl => by
  by_cases e : i = j
  · subst e
    exact hn hl
  · exact h i hi (by omega) hl
theorem no2 {l : List UInt8} (h : NoSg l 2 24) : l.take 2 ∉ sigs2 := fun hm => by
  obtain ⟨i, hi, e⟩ := List.mem_iff_getElem.1 (sig_of2 _ hm)
  have := h i hi hi (by rw [e]; exact sigs2_len _ hm)
  rw [e, take_pre] at this
  cases this
theorem no1 {l : List UInt8} (h : NoSg l 1 24) : l.take 1 ∉ sigs1 := fun hm => by
  obtain ⟨i, hi, e⟩ := List.mem_iff_getElem.1 (sig_of1 _ hm)
  have := h i hi hi (by rw [e]; exact sigs1_len _ hm)
  rw [e, take_pre] at this
  cases this
theorem hit2 {l s : List UInt8} (hs : s ∈ signsL) (hl : s.length = 2) (hp : s.isPrefixOf l = true) : sign l = s := by
  have := pre_take hp
  rw [hl] at this
  unfold sign
  rw [this, if_pos (sig_in2 s hs hl)]
theorem hit1 {l s : List UInt8} (hs : s ∈ signsL) (hl : s.length = 1) (hp : s.isPrefixOf l = true) (h2 : l.take 2 ∉ sigs2) : sign l = s := by
  have := pre_take hp
  rw [hl] at this
  unfold sign
  rw [if_neg h2, this, if_pos (sig_in1 s hs hl)]
set_option maxRecDepth 100000 in
set_option maxHeartbeats 4000000 in
theorem sign_any (c : UInt8) (r : List UInt8) (w : World) (hn : (c :: r).length ≤ 1099511627776) (h1 : tLe c = false) (h2 : tDi c = false) (hl : Laid w) :
    Calls Tryd.prog 31 #[.string (str (c :: r))] w (OneR (c :: r) w) := by
  have HT := Lib.hid (show tok1 (c :: r) = if sign (c :: r) = [] then none else some (4, sign (c :: r), 0) by simp only [tok1, h1, h2]; rfl)
  unfold OneR
  generalize c :: r = l at *
  generalize tok1 l = res at *
  have hb0 : ∀ o, Below w.heap.size w (w.alloc o) := fun o => (Below.refl _ _).alloc (Nat.le_refl _) _
  replace hl := hl.below (hb0 (.cells #[.int .u8 0, .string ⟨#[]⟩, .int .i64 0, .int .i64 0] 35))
  have HL := Lib.hid hl
  have hsz := str_sz l
  have hnil : (str ([] : List UInt8)).toList = [] := str_toList []
  clear hl
  go_enter Tryd.func31, Tryd.ntmps31
  go_wp2_with fail
  go_step3
  go_wp2_with fail
  go_step3
  go_wp2_with fail
  go_loop [4, 5] (fun f i => f = .string (str []) ∧ (i = .int .i64 2 ∨ (i = .int .i64 1 ∧ Hid (l.take 2 ∉ sigs2)) ∨ (i = .int .i64 0 ∧ Hid (sign l = [])))) (fun _ i => (intOf i).toNat)
  case atStart => exact ⟨rfl, .inl rfl⟩
  case round =>
    obtain ⟨rfl, hz | ⟨hz, H2⟩ | ⟨hz, HZ⟩⟩ := hrel
    · rw [hz]
      clear hz
      go_wp2_with (refine wp_load_sg _ rfl rfl HL.out ?_)
      go_loop [4, 13] (fun f k => ∃ j : Nat, f = .string (str []) ∧ j ≤ 24 ∧ k = .int .i64 j ∧ Hid (NoSg l 2 j)) (fun _ k => 24 - (intOf k).toNat)
      case atStart => exact ⟨0, rfl, by omega, rfl, NoSg.zero l 2⟩
      case round =>
        obtain ⟨j, rfl, hj, rfl, HN⟩ := hrel
        by_cases hlt : j < 24
        · have hlti : (j : Int) < 24 := by omega
          have hix := fun w' => index_sg w' j hlt
          have HX := Lib.hid (fun h => HN.out.next hlt h)
          have HM := Lib.hid (List.getElem_mem (l := signsL) hlt)
          clear HN
          have HP := Lib.hid (fun s w' => prefix_any l s w')
          generalize signsL[j] = s at *
          have hss := str_sz s
          by_cases hlen : s.length = 2
          · have hli : (s.length : Int) = 2 := by omega
            have HP1 := Lib.hid (HP.out s)
            cases hp : s.isPrefixOf l
            · have HY := Lib.hid (HX.out fun _ => hp)
              rw [hp] at HP1
              clear HX HM HP hp
              go_wp2_with fail
              refine (HP1.out _).mono ?_
              rintro e w' ⟨rfl, rfl⟩
              go_wp2_with fail
              go_round
              case rel => exact ⟨j + 1, rfl, by omega, by go_num, HY⟩
              case measure => simp [intOf]; omega
            · have HY := Lib.hid (hit2 HM.out hlen hp)
              rw [hp] at HP1
              clear HX HM HP hp
              go_wp2_with fail
              refine (HP1.out _).mono ?_
              rintro e w' ⟨rfl, rfl⟩
              have hne : ¬ (str s).toList = [] := by
                rw [str_toList]
                rintro rfl
                simp at hlen
              go_wp2_with fail
              rw [Exit.noGoto_ret]
              refine bodyPost_ret (tok_back rfl rfl (heap_alloc_new w _)) rfl ?_
              refine ⟨hb0 _, _, _, _, _, rfl, .inr ⟨?_, by simp [hne]⟩⟩
              rw [HT.out, HY.out, if_neg]
              rintro rfl
              simp at hlen
          · have hli : ¬ (s.length : Int) = 2 := by omega
            have HY := Lib.hid (HX.out fun h => absurd h hlen)
            clear HX HM HP hlen
            go_wp2_with fail
            go_round
            case rel => exact ⟨j + 1, rfl, by omega, by go_num, HY⟩
            case measure => simp [intOf]; omega
        · obtain rfl : j = 24 := by omega
          have HY := Lib.hid (no2 HN.out)
          clear HN
          go_wp2_with fail
          go_round
          case rel => exact ⟨rfl, .inr (.inl ⟨by go_num, HY⟩)⟩
          case measure => simp [intOf]
    · rw [hz]
      clear hz
      go_wp2_with (refine wp_load_sg _ rfl rfl HL.out ?_)
      go_loop [4, 13] (fun f k => ∃ j : Nat, f = .string (str []) ∧ j ≤ 24 ∧ k = .int .i64 j ∧ Hid (NoSg l 1 j)) (fun _ k => 24 - (intOf k).toNat)
      case atStart => exact ⟨0, rfl, by omega, rfl, NoSg.zero l 1⟩
      case round =>
        obtain ⟨j, rfl, hj, rfl, HN⟩ := hrel
        by_cases hlt : j < 24
        · have hlti : (j : Int) < 24 := by omega
          have hix := fun w' => index_sg w' j hlt
          have HX := Lib.hid (fun h => HN.out.next hlt h)
          have HM := Lib.hid (List.getElem_mem (l := signsL) hlt)
          clear HN
          have HP := Lib.hid (fun s w' => prefix_any l s w')
          generalize signsL[j] = s at *
          have hss := str_sz s
          by_cases hlen : s.length = 1
          · have hli : (s.length : Int) = 1 := by omega
            have HP1 := Lib.hid (HP.out s)
            cases hp : s.isPrefixOf l
            · have HY := Lib.hid (HX.out fun _ => hp)
              rw [hp] at HP1
              clear HX HM HP hp
              go_wp2_with fail
              refine (HP1.out _).mono ?_
              rintro e w' ⟨rfl, rfl⟩
              go_wp2_with fail
              go_round
              case rel => exact ⟨j + 1, rfl, by omega, by go_num, HY⟩
              case measure => simp [intOf]; omega
            · have HY := Lib.hid (hit1 HM.out hlen hp H2.out)
              rw [hp] at HP1
              clear HX HM HP hp
              go_wp2_with fail
              refine (HP1.out _).mono ?_
              rintro e w' ⟨rfl, rfl⟩
              have hne : ¬ (str s).toList = [] := by
                rw [str_toList]
                rintro rfl
                simp at hlen
              go_wp2_with fail
              rw [Exit.noGoto_ret]
              refine bodyPost_ret (tok_back rfl rfl (heap_alloc_new w _)) rfl ?_
              refine ⟨hb0 _, _, _, _, _, rfl, .inr ⟨?_, by simp [hne]⟩⟩
              rw [HT.out, HY.out, if_neg]
              rintro rfl
              simp at hlen
          · have hli : ¬ (s.length : Int) = 1 := by omega
            have HY := Lib.hid (HX.out fun h => absurd h hlen)
            clear HX HM HP hlen
            go_wp2_with fail
            go_round
            case rel => exact ⟨j + 1, rfl, by omega, by go_num, HY⟩
            case measure => simp [intOf]; omega
        · obtain rfl : j = 24 := by omega
          have HY := Lib.hid ((show sign l = [] by unfold sign; rw [if_neg H2.out, if_neg (no1 HN.out)]))
          clear HN
          go_wp2_with fail
          go_round
          case rel => exact ⟨rfl, .inr (.inr ⟨by go_num, HY⟩)⟩
          case measure => simp [intOf]
    · rw [hz]
      clear hz
      go_wp2_with fail
      refine bodyPost_ret (tok_back (s := []) rfl rfl (heap_alloc_new w _)) rfl ?_
      exact ⟨hb0 _, _, _, _, _, rfl, .inl ⟨by rw [HT.out, if_pos HZ.out], rfl⟩⟩
set_option maxRecDepth 100000 in
set_option maxHeartbeats 4000000 in
theorem first_any (c : UInt8) (r : List UInt8) (b : Nat) (w : World) (hn : (c :: r).length ≤ 1099511627776) (hk : Kw w b) (hl : Laid w) :
    Calls Tryd.prog 19 #[.string (str (c :: r)), .map (some b)] w (OneR (c :: r) w) := by
  have hb0 : ∀ o, Below w.heap.size w (w.alloc o) := fun o => (Below.refl _ _).alloc (Nat.le_refl _) _
  have HK := Lib.hid (fun o => hk.below (hb0 o))
  have HL := Lib.hid (fun o => hl.below (hb0 o))
  have hsz := str_sz (c :: r)
  have hlt : 0 < (str (c :: r)).size := by rw [hsz]; simp
  have hd0 : (str (c :: r))[0]'hlt = c := str_getI (c :: r) 0 (by simp) hlt
  have HLE : Hid (∀ w', Calls Tryd.prog 27 #[.int .u8 (((str (c :: r))[0]'hlt).toNat : Int)] w' fun e w2 => e = .returned (.bool (tLe c)) ∧ w' = w2) := fun w' => by
    rw [hd0]
    exact tells_letter.2 c w'
  have HDI : Hid (∀ w', Calls Tryd.prog 29 #[.int .u8 (((str (c :: r))[0]'hlt).toNat : Int)] w' fun e w2 => e = .returned (.bool (tDi c)) ∧ w' = w2) := fun w' => by
    rw [hd0]
    exact tells_digit.2 c w'
  have HNA := Lib.hid (fun h o => name_any c r b (w.alloc o) hn h (HK.out o))
  have HNU := Lib.hid (fun h1 h2 o => (HL.out o).er.elim fun tp h => h.elim fun p h => number_any c r (w.alloc o) hn h1 h2 tp p h)
  have HSI := Lib.hid (fun h1 h2 o => sign_any c r (w.alloc o) hn h1 h2 (HL.out o))
  clear hd0 hk hl HK HL
  unfold OneR at HNA HNU HSI ⊢
  generalize c :: r = l at *
  generalize tok1 l = res at *
  cases h1 : tLe c
  · rw [h1] at HLE
    cases h2 : tDi c
    · rw [h2] at HDI
      have HQ := Lib.hid (HSI.out h1 h2)
      clear HNA HNU HSI h1 h2
      go_enter Tryd.func19, Tryd.ntmps19
      go_wp2_with fail
      refine (HLE.out _).mono ?_
      rintro e w' ⟨rfl, rfl⟩
      go_wp2_with fail
      refine (HDI.out _).mono ?_
      rintro e w' ⟨rfl, rfl⟩
      go_wp2_with fail
      refine (HQ.out _).mono ?_
      rintro e w1 ⟨hb1, kd, s, nu, bb, rfl, hres⟩
      have hA : CAt w1 w.heap.size 35 [.int .u8 0, .string (str []), .int .i64 0, .int .i64 0] := CAt.below (heap_alloc_new w _) hb1 (by simp)
      have HB1 := Lib.hid ((hb0 _).trans (hb1.mono (hb0 _).size))
      have HRES := Lib.hid hres
      have f0 := hA.frozen 0
      have f1 := hA.frozen 1
      have f2 := hA.frozen 2
      have f3 := hA.frozen 3
      have s0 := hA.cell (j := 0) (by simp)
      have s1 := hA.cell (j := 1) (by simp)
      have s2 := hA.cell (j := 2) (by simp)
      have s3 := hA.cell (j := 3) (by simp)
      have HW := Lib.hid ((((hA.set 0 (.int .u8 kd)).set 1 (.string (str s))).set 2 (.int .i64 nu)).set 3 (.int .i64 0))
      clear hA hb1 HQ hres
      unfold tokV
      go_wp2_with fail
      refine bodyPost_ret (tok_back rfl rfl HW.out) rfl ?_
      exact ⟨HB1.out.grown (grown4 _ _ _ _ _ _) HB1.out.size (fun j e => by cases e; exact Nat.le_refl _), _, _, _, _, rfl, HRES.out⟩
    · rw [h2] at HDI
      have HQ := Lib.hid (HNU.out h1 h2)
      clear HNA HNU HSI h1 h2
      go_enter Tryd.func19, Tryd.ntmps19
      go_wp2_with fail
      refine (HLE.out _).mono ?_
      rintro e w' ⟨rfl, rfl⟩
      go_wp2_with fail
      refine (HDI.out _).mono ?_
      rintro e w' ⟨rfl, rfl⟩
      go_wp2_with fail
      refine (HQ.out _).mono ?_
      rintro e w1 ⟨hb1, kd, s, nu, bb, rfl, hres⟩
      have hA : CAt w1 w.heap.size 35 [.int .u8 0, .string (str []), .int .i64 0, .int .i64 0] := CAt.below (heap_alloc_new w _) hb1 (by simp)
      have HB1 := Lib.hid ((hb0 _).trans (hb1.mono (hb0 _).size))
      have HRES := Lib.hid hres
      have f0 := hA.frozen 0
      have f1 := hA.frozen 1
      have f2 := hA.frozen 2
      have f3 := hA.frozen 3
      have s0 := hA.cell (j := 0) (by simp)
      have s1 := hA.cell (j := 1) (by simp)
      have s2 := hA.cell (j := 2) (by simp)
      have s3 := hA.cell (j := 3) (by simp)
      have HW := Lib.hid ((((hA.set 0 (.int .u8 kd)).set 1 (.string (str s))).set 2 (.int .i64 nu)).set 3 (.int .i64 0))
      clear hA hb1 HQ hres
      unfold tokV
      go_wp2_with fail
      refine bodyPost_ret (tok_back rfl rfl HW.out) rfl ?_
      exact ⟨HB1.out.grown (grown4 _ _ _ _ _ _) HB1.out.size (fun j e => by cases e; exact Nat.le_refl _), _, _, _, _, rfl, HRES.out⟩
  · rw [h1] at HLE
    have HQ := Lib.hid (HNA.out h1)
    clear HNA HNU HSI h1
    go_enter Tryd.func19, Tryd.ntmps19
    go_wp2_with fail
    refine (HLE.out _).mono ?_
    rintro e w' ⟨rfl, rfl⟩
    go_wp2_with fail
    refine (HQ.out _).mono ?_
    rintro e w1 ⟨hb1, kd, s, nu, bb, rfl, hres⟩
    have hA : CAt w1 w.heap.size 35 [.int .u8 0, .string (str []), .int .i64 0, .int .i64 0] := CAt.below (heap_alloc_new w _) hb1 (by simp)
    have HB1 := Lib.hid ((hb0 _).trans (hb1.mono (hb0 _).size))
    have HRES := Lib.hid hres
    have f0 := hA.frozen 0
    have f1 := hA.frozen 1
    have f2 := hA.frozen 2
    have f3 := hA.frozen 3
    have s0 := hA.cell (j := 0) (by simp)
    have s1 := hA.cell (j := 1) (by simp)
    have s2 := hA.cell (j := 2) (by simp)
    have s3 := hA.cell (j := 3) (by simp)
    have HW := Lib.hid ((((hA.set 0 (.int .u8 kd)).set 1 (.string (str s))).set 2 (.int .i64 nu)).set 3 (.int .i64 0))
    clear hA hb1 HQ hres
    unfold tokV
    go_wp2_with fail
    refine bodyPost_ret (tok_back rfl rfl HW.out) rfl ?_
    exact ⟨HB1.out.grown (grown4 _ _ _ _ _ _) HB1.out.size (fun j e => by cases e; exact Nat.le_refl _), _, _, _, _, rfl, HRES.out⟩
end Go.Proofs.YtmajhmionghccaaDoor
