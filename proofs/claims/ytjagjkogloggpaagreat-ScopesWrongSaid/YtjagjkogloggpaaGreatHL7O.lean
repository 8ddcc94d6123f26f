/-
  Merged for a claim: L7O.
-/
import Derived.Test.YtjagjkogloggpaaGreatHL7N
namespace Go.Proofs.YtjagjkogloggpaaGreat
open Go Go.RowKit

theorem heldSkip {P : Program} {ops : Array Oper} {Q : Exit → Act → World → Prop} {md : Region.Mode} {S : World → Prop} {i : Nat} {oi : Oper} {d : Option Tmp} {fuel : Nat} {listed : Array Bool} {a : Act} {w : World} (hi : ops[i]? = some oi) (hd : oi.dst = d)
    (hs : Region.noSelect ops = true) (hf : Region.free md ops listed i = true) (hr : (Region.ready md ops listed).contains i = true)
    (hQ : ∀ c a w, Q (.panic c) (a.put d undef) w → Q (.panic c) a w) (hw : Region.wanted oi (yielded ops a.tmps) = false) (hS : S w)
    (h : wpAnyH P md ops Q S fuel (listed.setIfInBounds i true) (a.put d undef) w) : wpAnyH P md ops Q S (fuel + 1) listed a w := by
  subst hd
  exact wpAnyH_take hi hs hf hr hQ (.inr ⟨hw, rfl⟩) hS h
theorem below_of_drew {w w2 : World} (h : Below w.drew.heap.size w.drew w2) : Below w.heap.size w w2 := ⟨h.os, h.tape, h.output, h.size, h.block⟩
section
variable {o : Oper} {a : Act}
/-- append of one span onto a row, as one operation -/
theorem op_app_ps {K : Act → World → Prop} {Q : Exit → Act → World → Prop} (w : World) (s x : Operand) (ho : o.op = .call { callee := .builtin .append, args := #[s, x], argTypes := #[57, 57] })
    (B : Nat) (v : Value) (xs : List Ps) (hs : a.eval s = v) (hown : POwn w B v xs) (g c : Nat) (y : Ps) (hx : a.eval x = .slice (some ⟨g, 0, none⟩) 1 c) (hy : SpAt w g y)
    (hn : xs.length ≤ 1000000) (hB : B ≤ w.heap.size) (h : ∀ v' w', POwn w' B v' (xs ++ [y]) → w.grownBy w' v.ownBlock → K (a.put o.dst v') w') : Oper.wp Tryz.prog o a w K Q := by
  obtain ⟨i0, hi0, hz0, hz1, hz2⟩ := info_parts span_info
  obtain ⟨v', w', hrun, r1, r2, _⟩ := run_append_own (P := Tryz.prog) w B 57 o.type 56 i0 _ 3 40 Tryz.underlying57 hi0 hz0 hz1 hz2 rfl (by omega) v xs.length (xs.flatMap pC) hown ⟨g, 0, none⟩ 1 c (pC y) rfl (by
      intro j u hu
      unfold SpAt at hy
      rw [add_zero_off]
      simp only [World.cell?, hy, Nat.zero_add]
      simpa [pC] using hu) (pC_one y) (by simp only [maxLen]; omega) (by omega) hB
  unfold Oper.wp execOp
  simp only [ho, resolve, invoke, builtin, Sem.run_bind, Sem.run_pure, Result.andThen_ok, List.map_toArray, List.map_cons, List.map_nil, hs, hx, hrun]
  refine h v' w' ?_ r2
  show w'.ownsRow B _ 3 v' (xs ++ [y]).length ((xs ++ [y]).flatMap pC)
  rw [List.flatMap_append, List.length_append]
  simpa using r1
/-- of one whose steps are its own -/
theorem op_app_sp {K : Act → World → Prop} {Q : Exit → Act → World → Prop} (w : World) (s x : Operand) (ho : o.op = .call { callee := .builtin .append, args := #[s, x], argTypes := #[57, 57] })
    (B : Nat) (v : Value) (xs : List Sp) (hs : a.eval s = v) (hown : SpOwn w B v xs) (g c : Nat) (y : Ps) (hx : a.eval x = .slice (some ⟨g, 0, none⟩) 1 c) (hy : SpAt w g y) (hly : LOwn w B (.slice y.A y.a.length y.c) y.a)
    (hn : xs.length ≤ 1000000) (hB : B ≤ w.heap.size) (h : ∀ v' w', SpOwn w' B v' (xs ++ [y.sp]) → w.grownBy w' v.ownBlock → (∀ k, v.ownBlock = some k → B ≤ k) → K (a.put o.dst v') w') : Oper.wp Tryz.prog o a w K Q := by
  obtain ⟨ps, e, hpo, hpm⟩ := hown
  refine op_app_ps w s x ho B v ps hs hpo g c y hx hy (by rw [← List.length_map (f := Ps.sp), e]; exact hn) hB fun v' w' h1 h2 => h v' w' ⟨ps ++ [y], by rw [List.map_append, e]; rfl, h1, fun p hp => ?_⟩ h2 (fun k e => (hpo.lt k e).1)
  rcases List.mem_append.1 hp with hp | hp
  · exact (hpm p hp).grown hpo h2
  · rw [List.mem_singleton] at hp
    subst hp
    exact hly.grown hpo h2
end
theorem same6_b (A A2 : Option Addr) (c c2 : Nat) (l : List Lc) (n : Nat) (w : World) (hl : l.length = n) (hn : l.length ≤ 1099511627776) (h : LLies w w.heap.size A l) (h2 : LLies w w.heap.size A2 l) :
    Calls Tryz.prog 107 #[.slice A n c, .slice A2 n c2] w (TrueR6 w) := by subst hl; exact same6_any A A2 c c2 l w hn h h2

set_option maxRecDepth 100000 in
set_option maxHeartbeats 4000000 in
theorem same7_any (A A2 : Option Addr) (c c2 : Nat) (ps qs : List Ps) (w : World) (he : ps.map Ps.sp = qs.map Ps.sp) (hs : Sm ps) (h : SLies w w.heap.size A ps) (h2 : SLies w w.heap.size A2 qs) :
    Calls Tryz.prog 56 #[.slice A ps.length c, .slice A2 qs.length c2] w (BoolR true w) := by
  have hlen : ps.length = qs.length := by have := congrArg List.length he; simpa using this
  rw [← hlen]
  have HE := Lib.hid he
  have HLN := Lib.hid hlen
  have HSM := Lib.hid hs
  have hls := hs.1
  clear he hlen hs
  go_enter Tryz.func56, Tryz.ntmps56
  go_wp2
  go_loopw [5] (fun i wr => ∃ k : Nat, k ≤ ps.length ∧ i = .int .i64 k ∧ Hid (Below w.heap.size w wr)) (fun i _ => ps.length - (intOf i).toNat)
  case atStart => exact ⟨0, by omega, rfl, Below.refl _ _⟩
  case round =>
    obtain ⟨k, hk, rfl, hB⟩ := hrel
    by_cases hlt : k < ps.length
    · have hlt2 : k < qs.length := by have := HLN.out; omega
      obtain ⟨g, o, rfl, hg, c1, c2', c3⟩ := (h.1.below hB.out).at_ hlt
      obtain ⟨g', o', rfl, hg', d1, d2, d3⟩ := (h2.1.below hB.out).at_ hlt2
      have hsp : (ps[k]).sp = (qs[k]).sp := by
        have h1 : (ps.map Ps.sp)[k]? = (qs.map Ps.sp)[k]? := by rw [HE.out]
        rw [List.getElem?_map, List.getElem?_map, List.getElem?_eq_getElem hlt, List.getElem?_eq_getElem hlt2] at h1
        simpa using h1
      have hm1 := (h.2 _ (List.getElem_mem hlt)).below hB.out
      have hm2 := (h2.2 _ (List.getElem_mem hlt2)).below hB.out
      have hal := HSM.out.2 _ (List.getElem_mem hlt)
      have hwr := hB.out.size
      generalize ps[k] = p at *
      generalize qs[k] = q at *
      obtain ⟨pf, pt, pa, pA, pc⟩ := p
      obtain ⟨qf, qt, qa, qA, qc⟩ := q
      simp only [Ps.sp, Sp.mk.injEq] at hsp
      obtain ⟨rfl, rfl, rfl⟩ := hsp
      have HSA := Lib.hid (same6_any pA qA pc qc pa wr.drew hal ((hm1.2.2.more hwr).below (Below.refl _ _).drew) ((hm2.2.2.more hwr).below (Below.refl _ _).drew))
      clear hm1 hm2 hal
      dsimp only at c1 c2' c3 d1 d2 d3
      go_wp2
      refine wp_region_held_drew (S := fun W9 => (W9.cell? ⟨g, o + k * 3, none⟩ = some (.int .i64 pf) ∧ W9.cell? ⟨g, o + k * 3 + 1, none⟩ = some (.int .i64 pt) ∧ W9.cell? ⟨g, o + k * 3 + 2, none⟩ = some (.slice pA pa.length pc)) ∧ (W9.cell? ⟨g', o' + k * 3, none⟩ = some (.int .i64 pf) ∧ W9.cell? ⟨g', o' + k * 3 + 1, none⟩ = some (.int .i64 pt) ∧ W9.cell? ⟨g', o' + k * 3 + 2, none⟩ = some (.slice qA pa.length qc))) (by kernel_rfl) (⟨⟨c1, c2', c3⟩, d1, d2, d3⟩) (fun hHeld => ?_)
      refine heldTake (i := 0) (d := some 17) (v := ?_) rfl rfl (by kernel_rfl) (by kernel_rfl) (by kernel_rfl) (fun _ _ _ h => h) (by kernel_rfl) ?hyq_1 (by assumption) ?restq_1
      case hyq_1 => (intro W9 hSw; (try dsimp only at hSw); go_simp; try (with_reducible rfl))
      (try simp only [Act.put, List.setIfInBounds_toArray, List.set_cons_zero, List.set_cons_succ])
      refine heldTake (i := 1) (d := some 18) (v := ?_) rfl rfl (by kernel_rfl) (by kernel_rfl) (by kernel_rfl) (fun _ _ _ h => h) (by kernel_rfl) ?hyq_2 (by assumption) ?restq_2
      case hyq_2 => (intro W9 hSw; (try dsimp only at hSw); go_simp; try (with_reducible rfl))
      (try simp only [Act.put, List.setIfInBounds_toArray, List.set_cons_zero, List.set_cons_succ])
      refine heldTake (i := 2) (d := some 19) (v := ?_) rfl rfl (by kernel_rfl) (by kernel_rfl) (by kernel_rfl) (fun _ _ _ h => h) (by kernel_rfl) ?hyq_3 (by assumption) ?restq_3
      case hyq_3 => (intro W9 hSw; (try dsimp only at hSw); go_simp; try (with_reducible rfl))
      (try simp only [Act.put, List.setIfInBounds_toArray, List.set_cons_zero, List.set_cons_succ])
      refine heldTake (i := 3) (d := some 20) (v := ?_) rfl rfl (by kernel_rfl) (by kernel_rfl) (by kernel_rfl) (fun _ _ _ h => h) (by kernel_rfl) ?hyq_4 (by assumption) ?restq_4
      case hyq_4 => (intro W9 hSw; (try dsimp only at hSw); go_simp; try (with_reducible rfl))
      (try simp only [Act.put, List.setIfInBounds_toArray, List.set_cons_zero, List.set_cons_succ])
      refine heldTake (i := 4) (d := some 21) (v := ?_) rfl rfl (by kernel_rfl) (by kernel_rfl) (by kernel_rfl) (fun _ _ _ h => h) (by kernel_rfl) ?hyq_5 (by assumption) ?restq_5
      case hyq_5 => (intro W9 hSw; (try dsimp only at hSw); go_simp; try (with_reducible rfl))
      (try simp only [Act.put, List.setIfInBounds_toArray, List.set_cons_zero, List.set_cons_succ])
      refine heldTake (i := 5) (d := some 22) (v := ?_) rfl rfl (by kernel_rfl) (by kernel_rfl) (by kernel_rfl) (fun _ _ _ h => h) (by kernel_rfl) ?hyq_6 (by assumption) ?restq_6
      case hyq_6 => (intro W9 hSw; (try dsimp only at hSw); go_simp; try (with_reducible rfl))
      (try simp only [Act.put, List.setIfInBounds_toArray, List.set_cons_zero, List.set_cons_succ])
      refine heldTake (i := 6) (d := some 23) (v := ?_) rfl rfl (by kernel_rfl) (by kernel_rfl) (by kernel_rfl) (fun _ _ _ h => h) (by kernel_rfl) ?hyq_7 (by assumption) ?restq_7
      case hyq_7 => (intro W9 hSw; (try dsimp only at hSw); go_simp; try (with_reducible rfl))
      (try simp only [Act.put, List.setIfInBounds_toArray, List.set_cons_zero, List.set_cons_succ])
      refine heldTake (i := 7) (d := some 24) (v := ?_) rfl rfl (by kernel_rfl) (by kernel_rfl) (by kernel_rfl) (fun _ _ _ h => h) (by kernel_rfl) ?hyq_8 (by assumption) ?restq_8
      case hyq_8 => (intro W9 hSw; (try dsimp only at hSw); go_simp; try (with_reducible rfl))
      (try simp only [Act.put, List.setIfInBounds_toArray, List.set_cons_zero, List.set_cons_succ])
      refine heldTake (i := 8) (d := some 25) (v := ?_) rfl rfl (by kernel_rfl) (by kernel_rfl) (by kernel_rfl) (fun _ _ _ h => h) (by kernel_rfl) ?hyq_9 (by assumption) ?restq_9
      case hyq_9 => (intro W9 hSw; (try dsimp only at hSw); go_simp; try (with_reducible rfl))
      (try simp only [Act.put, List.setIfInBounds_toArray, List.set_cons_zero, List.set_cons_succ])
      refine heldTake (i := 9) (d := some 26) (v := ?_) rfl rfl (by kernel_rfl) (by kernel_rfl) (by kernel_rfl) (fun _ _ _ h => h) (by kernel_rfl) ?hyq_10 (by assumption) ?restq_10
      case hyq_10 => (intro W9 hSw; (try dsimp only at hSw); go_simp; try (with_reducible rfl))
      (try simp only [Act.put, List.setIfInBounds_toArray, List.set_cons_zero, List.set_cons_succ])
      refine heldTake (i := 10) (d := some 27) (v := ?_) rfl rfl (by kernel_rfl) (by kernel_rfl) (by kernel_rfl) (fun _ _ _ h => h) (by kernel_rfl) ?hyq_11 (by assumption) ?restq_11
      case hyq_11 => (intro W9 hSw; (try dsimp only at hSw); go_simp; try (with_reducible rfl))
      (try simp only [Act.put, List.setIfInBounds_toArray, List.set_cons_zero, List.set_cons_succ])
      refine heldTake (i := 11) (d := some 28) (v := ?_) rfl rfl (by kernel_rfl) (by kernel_rfl) (by kernel_rfl) (fun _ _ _ h => h) (by kernel_rfl) ?hyq_12 (by assumption) ?restq_12
      case hyq_12 => (intro W9 hSw; (try dsimp only at hSw); go_simp; try (with_reducible rfl))
      (try simp only [Act.put, List.setIfInBounds_toArray, List.set_cons_zero, List.set_cons_succ])
      refine heldTake (i := 12) (d := some 29) (v := ?_) rfl rfl (by kernel_rfl) (by kernel_rfl) (by kernel_rfl) (fun _ _ _ h => h) (by kernel_rfl) ?hyq_13 (by assumption) ?restq_13
      case hyq_13 => (intro W9 hSw; (try dsimp only at hSw); go_simp; try (with_reducible rfl))
      (try simp only [Act.put, List.setIfInBounds_toArray, List.set_cons_zero, List.set_cons_succ])
      refine heldTake (i := 13) (d := some 30) (v := ?_) rfl rfl (by kernel_rfl) (by kernel_rfl) (by kernel_rfl) (fun _ _ _ h => h) (by kernel_rfl) ?hyq_14 (by assumption) ?restq_14
      case hyq_14 => (intro W9 hSw; (try dsimp only at hSw); go_simp; try (with_reducible rfl))
      (try simp only [Act.put, List.setIfInBounds_toArray, List.set_cons_zero, List.set_cons_succ])
      refine heldTake (i := 14) (d := some 31) (v := ?_) rfl rfl (by kernel_rfl) (by kernel_rfl) (by kernel_rfl) (fun _ _ _ h => h) (by kernel_rfl) ?hyq_15 (by assumption) ?restq_15
      case hyq_15 => (intro W9 hSw; (try dsimp only at hSw); go_simp; try (with_reducible rfl))
      (try simp only [Act.put, List.setIfInBounds_toArray, List.set_cons_zero, List.set_cons_succ])
      refine heldTake (i := 15) (d := some 32) (v := ?_) rfl rfl (by kernel_rfl) (by kernel_rfl) (by kernel_rfl) (fun _ _ _ h => h) (by kernel_rfl) ?hyq_16 (by assumption) ?restq_16
      case hyq_16 => (intro W9 hSw; (try dsimp only at hSw); go_simp; try (with_reducible rfl))
      (try simp only [Act.put, List.setIfInBounds_toArray, List.set_cons_zero, List.set_cons_succ])
      refine heldTake (i := 16) (d := some 33) (v := ?_) rfl rfl (by kernel_rfl) (by kernel_rfl) (by kernel_rfl) (fun _ _ _ h => h) (by kernel_rfl) ?hyq_17 (by assumption) ?restq_17
      case hyq_17 => (intro W9 hSw; (try dsimp only at hSw); go_simp; try (with_reducible rfl))
      (try simp only [Act.put, List.setIfInBounds_toArray, List.set_cons_zero, List.set_cons_succ])
      refine heldTake (i := 17) (d := some 34) (v := ?_) rfl rfl (by kernel_rfl) (by kernel_rfl) (by kernel_rfl) (fun _ _ _ h => h) (by kernel_rfl) ?hyq_18 (by assumption) ?restq_18
      case hyq_18 => (intro W9 hSw; (try dsimp only at hSw); go_simp; try (with_reducible rfl))
      (try simp only [Act.put, List.setIfInBounds_toArray, List.set_cons_zero, List.set_cons_succ])
      refine heldTake (i := 18) (d := some 35) (v := ?_) rfl rfl (by kernel_rfl) (by kernel_rfl) (by kernel_rfl) (fun _ _ _ h => h) (by kernel_rfl) ?hyq_19 (by assumption) ?restq_19
      case hyq_19 => (intro W9 hSw; (try dsimp only at hSw); go_simp; try (with_reducible rfl))
      (try simp only [Act.put, List.setIfInBounds_toArray, List.set_cons_zero, List.set_cons_succ])
      refine heldTake (i := 19) (d := some 36) (v := ?_) rfl rfl (by kernel_rfl) (by kernel_rfl) (by kernel_rfl) (fun _ _ _ h => h) (by kernel_rfl) ?hyq_20 (by assumption) ?restq_20
      case hyq_20 => (intro W9 hSw; (try dsimp only at hSw); go_simp; try (with_reducible rfl))
      (try simp only [Act.put, List.setIfInBounds_toArray, List.set_cons_zero, List.set_cons_succ])
      refine heldTake (i := 20) (d := some 37) (v := ?_) rfl rfl (by kernel_rfl) (by kernel_rfl) (by kernel_rfl) (fun _ _ _ h => h) (by kernel_rfl) ?hyq_21 (by assumption) ?restq_21
      case hyq_21 => (intro W9 hSw; (try dsimp only at hSw); go_simp; try (with_reducible rfl))
      (try simp only [Act.put, List.setIfInBounds_toArray, List.set_cons_zero, List.set_cons_succ])
      refine heldTake (i := 21) (d := some 38) (v := ?_) rfl rfl (by kernel_rfl) (by kernel_rfl) (by kernel_rfl) (fun _ _ _ h => h) (by kernel_rfl) ?hyq_22 (by assumption) ?restq_22
      case hyq_22 => (intro W9 hSw; (try dsimp only at hSw); go_simp; try (with_reducible rfl))
      (try simp only [Act.put, List.setIfInBounds_toArray, List.set_cons_zero, List.set_cons_succ])
      refine heldTake (i := 22) (d := some 39) (v := ?_) rfl rfl (by kernel_rfl) (by kernel_rfl) (by kernel_rfl) (fun _ _ _ h => h) (by kernel_rfl) ?hyq_23 (by assumption) ?restq_23
      case hyq_23 => (intro W9 hSw; (try dsimp only at hSw); go_simp; try (with_reducible rfl))
      (try simp only [Act.put, List.setIfInBounds_toArray, List.set_cons_zero, List.set_cons_succ])
      refine heldTake (i := 23) (d := some 40) (v := ?_) rfl rfl (by kernel_rfl) (by kernel_rfl) (by kernel_rfl) (fun _ _ _ h => h) (by kernel_rfl) ?hyq_24 (by assumption) ?restq_24
      case hyq_24 => (intro W9 hSw; (try dsimp only at hSw); go_simp; try (with_reducible rfl))
      (try simp only [Act.put, List.setIfInBounds_toArray, List.set_cons_zero, List.set_cons_succ])
      refine heldTake (i := 24) (d := some 41) (v := ?_) rfl rfl (by kernel_rfl) (by kernel_rfl) (by kernel_rfl) (fun _ _ _ h => h) (by kernel_rfl) ?hyq_25 (by assumption) ?restq_25
      case hyq_25 => (intro W9 hSw; (try dsimp only at hSw); go_simp; try (with_reducible rfl))
      (try simp only [Act.put, List.setIfInBounds_toArray, List.set_cons_zero, List.set_cons_succ])
      refine heldTake (i := 25) (d := some 42) (v := ?_) rfl rfl (by kernel_rfl) (by kernel_rfl) (by kernel_rfl) (fun _ _ _ h => h) (by kernel_rfl) ?hyq_26 (by assumption) ?restq_26
      case hyq_26 => (intro W9 hSw; (try dsimp only at hSw); go_simp; try (with_reducible rfl))
      (try simp only [Act.put, List.setIfInBounds_toArray, List.set_cons_zero, List.set_cons_succ])
      refine heldTake (i := 26) (d := some 43) (v := ?_) rfl rfl (by kernel_rfl) (by kernel_rfl) (by kernel_rfl) (fun _ _ _ h => h) (by kernel_rfl) ?hyq_27 (by assumption) ?restq_27
      case hyq_27 => (intro W9 hSw; (try dsimp only at hSw); go_simp; try (with_reducible rfl))
      (try simp only [Act.put, List.setIfInBounds_toArray, List.set_cons_zero, List.set_cons_succ])
      refine heldTake (i := 27) (d := some 44) (v := ?_) rfl rfl (by kernel_rfl) (by kernel_rfl) (by kernel_rfl) (fun _ _ _ h => h) (by kernel_rfl) ?hyq_28 (by assumption) ?restq_28
      case hyq_28 => (intro W9 hSw; (try dsimp only at hSw); go_simp; try (with_reducible rfl))
      (try simp only [Act.put, List.setIfInBounds_toArray, List.set_cons_zero, List.set_cons_succ])
      refine heldTake (i := 28) (d := some 45) (v := ?_) rfl rfl (by kernel_rfl) (by kernel_rfl) (by kernel_rfl) (fun _ _ _ h => h) (by kernel_rfl) ?hyq_29 (by assumption) ?restq_29
      case hyq_29 => (intro W9 hSw; (try dsimp only at hSw); go_simp; try (with_reducible rfl))
      (try simp only [Act.put, List.setIfInBounds_toArray, List.set_cons_zero, List.set_cons_succ])
      refine heldTake (i := 29) (d := some 46) (v := ?_) rfl rfl (by kernel_rfl) (by kernel_rfl) (by kernel_rfl) (fun _ _ _ h => h) (by kernel_rfl) ?hyq_30 (by assumption) ?restq_30
      case hyq_30 => (intro W9 hSw; (try dsimp only at hSw); go_simp; try (with_reducible rfl))
      (try simp only [Act.put, List.setIfInBounds_toArray, List.set_cons_zero, List.set_cons_succ])
      refine heldTake (i := 30) (d := some 47) (v := ?_) rfl rfl (by kernel_rfl) (by kernel_rfl) (by kernel_rfl) (fun _ _ _ h => h) (by kernel_rfl) ?hyq_31 (by assumption) ?restq_31
      case hyq_31 => (intro W9 hSw; (try dsimp only at hSw); go_simp; try (with_reducible rfl))
      (try simp only [Act.put, List.setIfInBounds_toArray, List.set_cons_zero, List.set_cons_succ])
      refine heldTake (i := 31) (d := some 48) (v := ?_) rfl rfl (by kernel_rfl) (by kernel_rfl) (by kernel_rfl) (fun _ _ _ h => h) (by kernel_rfl) ?hyq_32 (by assumption) ?restq_32
      case hyq_32 => (intro W9 hSw; (try dsimp only at hSw); go_simp; try (with_reducible rfl))
      (try simp only [Act.put, List.setIfInBounds_toArray, List.set_cons_zero, List.set_cons_succ])
      refine heldTake (i := 32) (d := some 49) (v := ?_) rfl rfl (by kernel_rfl) (by kernel_rfl) (by kernel_rfl) (fun _ _ _ h => h) (by kernel_rfl) ?hyq_33 (by assumption) ?restq_33
      case hyq_33 => (intro W9 hSw; (try dsimp only at hSw); go_simp; try (with_reducible rfl))
      (try simp only [Act.put, List.setIfInBounds_toArray, List.set_cons_zero, List.set_cons_succ])
      refine heldTake (i := 33) (d := some 50) (v := ?_) rfl rfl (by kernel_rfl) (by kernel_rfl) (by kernel_rfl) (fun _ _ _ h => h) (by kernel_rfl) ?hyq_34 (by assumption) ?restq_34
      case hyq_34 => (intro W9 hSw; (try dsimp only at hSw); go_simp; try (with_reducible rfl))
      (try simp only [Act.put, List.setIfInBounds_toArray, List.set_cons_zero, List.set_cons_succ])
      refine heldTake (i := 34) (d := some 51) (v := ?_) rfl rfl (by kernel_rfl) (by kernel_rfl) (by kernel_rfl) (fun _ _ _ h => h) (by kernel_rfl) ?hyq_35 (by assumption) ?restq_35
      case hyq_35 => (intro W9 hSw; (try dsimp only at hSw); go_simp; try (with_reducible rfl))
      (try simp only [Act.put, List.setIfInBounds_toArray, List.set_cons_zero, List.set_cons_succ])
      refine wpAnyH_ready (rs := [35]) (by kernel_rfl) (by simp) ?_
      refine AllReadyH.cons rfl (fun K hK => ?_) AllReadyH.nil
      go_simp
      go_at_call 107
      refine HSA.out.mono ?_
      rintro e9 X ⟨rfl, hbX⟩
      have hbX := below_of_drew hbX
      have hSX : (X.cell? ⟨g, o + k * 3, none⟩ = some (.int .i64 pf) ∧ X.cell? ⟨g, o + k * 3 + 1, none⟩ = some (.int .i64 pt) ∧ X.cell? ⟨g, o + k * 3 + 2, none⟩ = some (.slice pA pa.length pc)) ∧ (X.cell? ⟨g', o' + k * 3, none⟩ = some (.int .i64 pf) ∧ X.cell? ⟨g', o' + k * 3 + 1, none⟩ = some (.int .i64 pt) ∧ X.cell? ⟨g', o' + k * 3 + 2, none⟩ = some (.slice qA pa.length qc)) := ⟨⟨(hbX.cell (p := ⟨g, o + k * 3, none⟩) (by dsimp only; omega)).trans c1, (hbX.cell (p := ⟨g, o + k * 3 + 1, none⟩) (by dsimp only; omega)).trans c2', (hbX.cell (p := ⟨g, o + k * 3 + 2, none⟩) (by dsimp only; omega)).trans c3⟩, (hbX.cell (p := ⟨g', o' + k * 3, none⟩) (by dsimp only; omega)).trans d1, (hbX.cell (p := ⟨g', o' + k * 3 + 1, none⟩) (by dsimp only; omega)).trans d2, (hbX.cell (p := ⟨g', o' + k * 3 + 2, none⟩) (by dsimp only; omega)).trans d3⟩
      go_wp2_with fail
      refine hK.out _ _ hSX (fun hHeld => ?_)
      clear hK K
      (try simp only [Act.put, List.setIfInBounds_toArray, List.set_cons_zero, List.set_cons_succ])
      refine heldTake (i := 36) (d := some 53) (v := ?_) rfl rfl (by kernel_rfl) (by kernel_rfl) (by kernel_rfl) (fun _ _ _ h => h) (by kernel_rfl) ?hyq_36 (by assumption) ?restq_36
      case hyq_36 => (intro W9 hSw; (try dsimp only at hSw); go_simp; try (with_reducible rfl))
      (try simp only [Act.put, List.setIfInBounds_toArray, List.set_cons_zero, List.set_cons_succ])
      refine heldTake (i := 37) (d := some 54) (v := ?_) rfl rfl (by kernel_rfl) (by kernel_rfl) (by kernel_rfl) (fun _ _ _ h => h) (by kernel_rfl) ?hyq_37 (by assumption) ?restq_37
      case hyq_37 => (intro W9 hSw; (try dsimp only at hSw); go_simp; try (with_reducible rfl))
      (try simp only [Act.put, List.setIfInBounds_toArray, List.set_cons_zero, List.set_cons_succ])
      refine wpAnyH_done (by kernel_rfl) ?_ _
      have HBX := Lib.hid (hB.out.trans (hbX.mono hwr))
      go_wp2
      go_roundw
      case rel => exact ⟨k + 1, by omega, by go_num, HBX⟩
      case measure => simp [intOf]; omega
    · obtain rfl : k = ps.length := by omega
      go_wp2
      go_ret
      exact ⟨rfl, hB.out⟩

set_option maxRecDepth 100000 in
set_option maxHeartbeats 4000000 in
theorem twin7_any (A : Option Addr) (c : Nat) (ps : List Ps) (w : World) (hs : Sm ps) (hl : ps.length ≤ 1000000) (h : SLies w w.heap.size A ps) :
    Calls Tryz.prog 58 #[.slice A ps.length c] w (MadeSpans w (ps.map Ps.sp)) := by
  have HSM := Lib.hid hs
  have hls := hs.1
  clear hs
  go_enter Tryz.func58, Tryz.ntmps58
  go_wp2
  go_loopw [3, 4] (fun v i wr => ∃ k : Nat, k ≤ ps.length ∧ i = .int .i64 k ∧ Hid (SpOwn wr w.heap.size v ((ps.take k).map Ps.sp)) ∧ Hid (Below w.heap.size w wr)) (fun _ i _ => ps.length - (intOf i).toNat)
  case atStart => exact ⟨0, by omega, rfl, SpOwn.nil _ _, Below.refl _ _⟩
  case round =>
    obtain ⟨k, hk, rfl, hO, hB⟩ := hrel
    by_cases hlt : k < ps.length
    · obtain ⟨g, o, rfl, hg, c1, c2', c3⟩ := (h.1.below hB.out).at_ hlt
      have hm1 := (h.2 _ (List.getElem_mem hlt)).below hB.out
      have hal := HSM.out.2 _ (List.getElem_mem hlt)
      have HT := Lib.hid (show (ps.take (k + 1)).map Ps.sp = (ps.take k).map Ps.sp ++ [ps[k].sp] by rw [← List.take_append_getElem hlt, List.map_append]; rfl)
      have hwr := hB.out.size
      generalize ps[k] = p at *
      obtain ⟨pf, pt, pa, pA, pc⟩ := p
      have HSA := Lib.hid (twin6_any pA pc pa wr.drew hm1.2.1 hal ((hm1.2.2.more hwr).below (Below.refl _ _).drew))
      obtain ⟨ls, hls'⟩ : ∃ ls, (ps.take k).map Ps.sp = ls := ⟨_, rfl⟩
      have hln : ls.length ≤ 1000000 := by rw [← hls', List.length_map, List.length_take]; omega
      rw [hls'] at hO HT
      unfold MadeLocs at HSA
      clear hm1 hal hls'
      dsimp only at c1 c2' c3
      go_wp2
      refine wp_region_held_drew (S := fun W9 => (W9.cell? ⟨g, o + k * 3, none⟩ = some (.int .i64 pf) ∧ W9.cell? ⟨g, o + k * 3 + 1, none⟩ = some (.int .i64 pt) ∧ W9.cell? ⟨g, o + k * 3 + 2, none⟩ = some (.slice pA pa.length pc))) (by kernel_rfl) (⟨c1, c2', c3⟩) (fun hHeld => ?_)
      refine heldTake (i := 0) (d := some 11) (v := ?_) rfl rfl (by kernel_rfl) (by kernel_rfl) (by kernel_rfl) (fun _ _ _ h => h) (by kernel_rfl) ?hyq_38 (by assumption) ?restq_38
      case hyq_38 => (intro W9 hSw; (try dsimp only at hSw); go_simp; try (with_reducible rfl))
      (try simp only [Act.put, List.setIfInBounds_toArray, List.set_cons_zero, List.set_cons_succ])
      refine heldTake (i := 1) (d := some 12) (v := ?_) rfl rfl (by kernel_rfl) (by kernel_rfl) (by kernel_rfl) (fun _ _ _ h => h) (by kernel_rfl) ?hyq_39 (by assumption) ?restq_39
      case hyq_39 => (intro W9 hSw; (try dsimp only at hSw); go_simp; try (with_reducible rfl))
      (try simp only [Act.put, List.setIfInBounds_toArray, List.set_cons_zero, List.set_cons_succ])
      refine heldTake (i := 2) (d := some 13) (v := ?_) rfl rfl (by kernel_rfl) (by kernel_rfl) (by kernel_rfl) (fun _ _ _ h => h) (by kernel_rfl) ?hyq_40 (by assumption) ?restq_40
      case hyq_40 => (intro W9 hSw; (try dsimp only at hSw); go_simp; try (with_reducible rfl))
      (try simp only [Act.put, List.setIfInBounds_toArray, List.set_cons_zero, List.set_cons_succ])
      refine heldTake (i := 3) (d := some 14) (v := ?_) rfl rfl (by kernel_rfl) (by kernel_rfl) (by kernel_rfl) (fun _ _ _ h => h) (by kernel_rfl) ?hyq_41 (by assumption) ?restq_41
      case hyq_41 => (intro W9 hSw; (try dsimp only at hSw); go_simp; try (with_reducible rfl))
      (try simp only [Act.put, List.setIfInBounds_toArray, List.set_cons_zero, List.set_cons_succ])
      refine heldTake (i := 4) (d := some 15) (v := ?_) rfl rfl (by kernel_rfl) (by kernel_rfl) (by kernel_rfl) (fun _ _ _ h => h) (by kernel_rfl) ?hyq_42 (by assumption) ?restq_42
      case hyq_42 => (intro W9 hSw; (try dsimp only at hSw); go_simp; try (with_reducible rfl))
      (try simp only [Act.put, List.setIfInBounds_toArray, List.set_cons_zero, List.set_cons_succ])
      refine heldTake (i := 5) (d := some 16) (v := ?_) rfl rfl (by kernel_rfl) (by kernel_rfl) (by kernel_rfl) (fun _ _ _ h => h) (by kernel_rfl) ?hyq_43 (by assumption) ?restq_43
      case hyq_43 => (intro W9 hSw; (try dsimp only at hSw); go_simp; try (with_reducible rfl))
      (try simp only [Act.put, List.setIfInBounds_toArray, List.set_cons_zero, List.set_cons_succ])
      refine heldTake (i := 6) (d := some 17) (v := ?_) rfl rfl (by kernel_rfl) (by kernel_rfl) (by kernel_rfl) (fun _ _ _ h => h) (by kernel_rfl) ?hyq_44 (by assumption) ?restq_44
      case hyq_44 => (intro W9 hSw; (try dsimp only at hSw); go_simp; try (with_reducible rfl))
      (try simp only [Act.put, List.setIfInBounds_toArray, List.set_cons_zero, List.set_cons_succ])
      refine heldTake (i := 7) (d := some 18) (v := ?_) rfl rfl (by kernel_rfl) (by kernel_rfl) (by kernel_rfl) (fun _ _ _ h => h) (by kernel_rfl) ?hyq_45 (by assumption) ?restq_45
      case hyq_45 => (intro W9 hSw; (try dsimp only at hSw); go_simp; try (with_reducible rfl))
      (try simp only [Act.put, List.setIfInBounds_toArray, List.set_cons_zero, List.set_cons_succ])
      refine heldTake (i := 8) (d := some 19) (v := ?_) rfl rfl (by kernel_rfl) (by kernel_rfl) (by kernel_rfl) (fun _ _ _ h => h) (by kernel_rfl) ?hyq_46 (by assumption) ?restq_46
      case hyq_46 => (intro W9 hSw; (try dsimp only at hSw); go_simp; try (with_reducible rfl))
      (try simp only [Act.put, List.setIfInBounds_toArray, List.set_cons_zero, List.set_cons_succ])
      refine heldTake (i := 9) (d := some 20) (v := ?_) rfl rfl (by kernel_rfl) (by kernel_rfl) (by kernel_rfl) (fun _ _ _ h => h) (by kernel_rfl) ?hyq_47 (by assumption) ?restq_47
      case hyq_47 => (intro W9 hSw; (try dsimp only at hSw); go_simp; try (with_reducible rfl))
      (try simp only [Act.put, List.setIfInBounds_toArray, List.set_cons_zero, List.set_cons_succ])
      refine heldTake (i := 10) (d := some 21) (v := ?_) rfl rfl (by kernel_rfl) (by kernel_rfl) (by kernel_rfl) (fun _ _ _ h => h) (by kernel_rfl) ?hyq_48 (by assumption) ?restq_48
      case hyq_48 => (intro W9 hSw; (try dsimp only at hSw); go_simp; try (with_reducible rfl))
      (try simp only [Act.put, List.setIfInBounds_toArray, List.set_cons_zero, List.set_cons_succ])
      refine heldTake (i := 11) (d := some 22) (v := ?_) rfl rfl (by kernel_rfl) (by kernel_rfl) (by kernel_rfl) (fun _ _ _ h => h) (by kernel_rfl) ?hyq_49 (by assumption) ?restq_49
      case hyq_49 => (intro W9 hSw; (try dsimp only at hSw); go_simp; try (with_reducible rfl))
      (try simp only [Act.put, List.setIfInBounds_toArray, List.set_cons_zero, List.set_cons_succ])
      refine heldTake (i := 12) (d := some 23) (v := ?_) rfl rfl (by kernel_rfl) (by kernel_rfl) (by kernel_rfl) (fun _ _ _ h => h) (by kernel_rfl) ?hyq_50 (by assumption) ?restq_50
      case hyq_50 => (intro W9 hSw; (try dsimp only at hSw); go_simp; try (with_reducible rfl))
      (try simp only [Act.put, List.setIfInBounds_toArray, List.set_cons_zero, List.set_cons_succ])
      refine heldTake (i := 13) (d := some 24) (v := ?_) rfl rfl (by kernel_rfl) (by kernel_rfl) (by kernel_rfl) (fun _ _ _ h => h) (by kernel_rfl) ?hyq_51 (by assumption) ?restq_51
      case hyq_51 => (intro W9 hSw; (try dsimp only at hSw); go_simp; try (with_reducible rfl))
      (try simp only [Act.put, List.setIfInBounds_toArray, List.set_cons_zero, List.set_cons_succ])
      refine heldTake (i := 14) (d := some 25) (v := ?_) rfl rfl (by kernel_rfl) (by kernel_rfl) (by kernel_rfl) (fun _ _ _ h => h) (by kernel_rfl) ?hyq_52 (by assumption) ?restq_52
      case hyq_52 => (intro W9 hSw; (try dsimp only at hSw); go_simp; try (with_reducible rfl))
      (try simp only [Act.put, List.setIfInBounds_toArray, List.set_cons_zero, List.set_cons_succ])
      refine heldTake (i := 15) (d := some 26) (v := ?_) rfl rfl (by kernel_rfl) (by kernel_rfl) (by kernel_rfl) (fun _ _ _ h => h) (by kernel_rfl) ?hyq_53 (by assumption) ?restq_53
      case hyq_53 => (intro W9 hSw; (try dsimp only at hSw); go_simp; try (with_reducible rfl))
      (try simp only [Act.put, List.setIfInBounds_toArray, List.set_cons_zero, List.set_cons_succ])
      refine wpAnyH_ready (rs := [16]) (by kernel_rfl) (by simp) ?_
      refine AllReadyH.cons rfl (fun K hK => ?_) AllReadyH.nil
      go_simp
      go_at_call 108
      refine HSA.out.mono ?_
      rintro e9 X ⟨vX, rfl, hoX, hbX⟩
      have hbX := below_of_drew hbX
      obtain ⟨AX, cX, eX, _⟩ := hoX.form
      subst eX
      have hzX := hbX.size
      have hSX : (X.cell? ⟨g, o + k * 3, none⟩ = some (.int .i64 pf) ∧ X.cell? ⟨g, o + k * 3 + 1, none⟩ = some (.int .i64 pt) ∧ X.cell? ⟨g, o + k * 3 + 2, none⟩ = some (.slice pA pa.length pc)) := ⟨(hbX.cell (p := ⟨g, o + k * 3, none⟩) (by dsimp only; omega)).trans c1, (hbX.cell (p := ⟨g, o + k * 3 + 1, none⟩) (by dsimp only; omega)).trans c2', (hbX.cell (p := ⟨g, o + k * 3 + 2, none⟩) (by dsimp only; omega)).trans c3⟩
      have HOX := Lib.hid (hO.out.below hbX)
      have HLX := Lib.hid (hoX.base hwr)
      clear hoX
      go_wp2_with fail
      refine hK.out _ _ hSX (fun hHeld => ?_)
      clear hK K
      (try simp only [Act.put, List.setIfInBounds_toArray, List.set_cons_zero, List.set_cons_succ])
      refine heldTake (i := 17) (d := some 28) (v := ?_) rfl rfl (by kernel_rfl) (by kernel_rfl) (by kernel_rfl) (fun _ _ _ h => h) (by kernel_rfl) ?hyq_54 (by assumption) ?restq_54
      case hyq_54 => (intro W9 hSw; (try dsimp only at hSw); go_simp; try (with_reducible rfl))
      (try simp only [Act.put, List.setIfInBounds_toArray, List.set_cons_zero, List.set_cons_succ])
      refine wpAnyH_ready (rs := [18]) (by kernel_rfl) (by simp) ?_
      refine AllReadyH.cons rfl (fun K hK => ?_) AllReadyH.nil
      have HY := Lib.hid (spAt_new X ⟨pf, pt, pa, AX, cX⟩)
      have hbY := hbX.trans ((below_lnew X (.cells (pK ⟨pf, pt, pa, AX, cX⟩) 56)).mono hzX)
      have HOY := Lib.hid (HOX.out.below (below_lnew X (.cells (pK ⟨pf, pt, pa, AX, cX⟩) 56)))
      have HLY := Lib.hid (HLX.out.below (below_lnew X (.cells (pK ⟨pf, pt, pa, AX, cX⟩) 56)))
      have hzY := hbY.size
      unfold pK at HY hbY HOY HLY hzY
      dsimp only at HY hbY HOY HLY hzY
      go_simp
      obtain ⟨Y, hY⟩ : ∃ Y, X.alloc (.cells #[.int .i64 pf, .int .i64 pt, .slice AX pa.length cX] 56) = Y := ⟨_, rfl⟩
      rw [hY] at HY hbY HOY HLY hzY ⊢
      have hSY : (Y.cell? ⟨g, o + k * 3, none⟩ = some (.int .i64 pf) ∧ Y.cell? ⟨g, o + k * 3 + 1, none⟩ = some (.int .i64 pt) ∧ Y.cell? ⟨g, o + k * 3 + 2, none⟩ = some (.slice pA pa.length pc)) := ⟨(hbY.cell (p := ⟨g, o + k * 3, none⟩) (by dsimp only; omega)).trans c1, (hbY.cell (p := ⟨g, o + k * 3 + 1, none⟩) (by dsimp only; omega)).trans c2', (hbY.cell (p := ⟨g, o + k * 3 + 2, none⟩) (by dsimp only; omega)).trans c3⟩
      refine hK.out _ _ hSY (fun hHeld => ?_)
      clear hY
      clear hK K
      (try simp only [Act.put, List.setIfInBounds_toArray, List.set_cons_zero, List.set_cons_succ])
      refine wpAnyH_ready (rs := [19]) (by kernel_rfl) (by simp) ?_
      refine AllReadyH.cons rfl (fun K hK => ?_) AllReadyH.nil
      rw [if_pos (by kernel_rfl)]
      refine op_app_sp Y (.tmp 11) (.tmp 29) rfl w.heap.size _ ls rfl HOY.out X.heap.size 1 ⟨pf, pt, pa, AX, cX⟩ rfl HY.out HLY.out hln (by omega) ?_
      intro v9 Z hoZ hgZ hkZ
      skip
      have hbZ : Below w.heap.size w Z := (hB.out.trans (hbY.mono hwr)).grown hgZ (by omega) hkZ
      have hcZ : ∀ p : Addr, p.block < w.heap.size → Z.cell? p = Y.cell? p := fun p hp => World.cell?_of_block (hgZ.block p.block (by omega) (fun e => by have := hkZ _ e.symm; omega))
      have hSZ : (Z.cell? ⟨g, o + k * 3, none⟩ = some (.int .i64 pf) ∧ Z.cell? ⟨g, o + k * 3 + 1, none⟩ = some (.int .i64 pt) ∧ Z.cell? ⟨g, o + k * 3 + 2, none⟩ = some (.slice pA pa.length pc)) := ⟨(hcZ ⟨g, o + k * 3, none⟩ hg).trans hSY.1, (hcZ ⟨g, o + k * 3 + 1, none⟩ hg).trans hSY.2.1, (hcZ ⟨g, o + k * 3 + 2, none⟩ hg).trans hSY.2.2⟩
      refine hK.out _ _ hSZ (fun hHeld => ?_)
      clear hK K
      (try simp only [Act.put, List.setIfInBounds_toArray])
      refine heldTake (i := 20) (d := some 3) (v := ?_) rfl rfl (by kernel_rfl) (by kernel_rfl) (by kernel_rfl) (fun _ _ _ h => h) (by kernel_rfl) ?hyq_55 (by assumption) ?restq_55
      case hyq_55 => (intro W9 hSw; (try dsimp only at hSw); go_simp; try (with_reducible rfl))
      (try simp only [Act.put])
      refine wpAnyH_done (by kernel_rfl) ?_ _
      have HOZ := Lib.hid hoZ
      have HBZ := Lib.hid hbZ
      clear hoZ hbZ
      go_wp2
      go_roundw
      case rel => exact ⟨k + 1, by omega, by go_num, by rw [HT.out]; exact HOZ, HBZ⟩
      case measure => simp [intOf]; omega
    · obtain rfl : k = ps.length := by omega
      rw [List.take_length] at hO
      go_wp2
      go_ret
      exact ⟨_, rfl, hO.out, hB.out⟩
end Go.Proofs.YtjagjkogloggpaaGreat
