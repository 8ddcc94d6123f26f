/-
  Merged for a claim: L7N.
-/
import Derived.Test.YtbkfkdiadeaooaaGreatHL7M
namespace Go.Proofs.YtbkfkdiadeaooaaGreat
open Go Go.RowKit

theorem zip_pos : ∀ (ps : List Ps) (last : Int), 0 ≤ last → (∀ q ∈ (last :: ps.map Ps.t).zip ps, okP q = true) → ∀ q ∈ (last :: ps.map Ps.t).zip ps, 0 ≤ q.1
  | [], _, _, _ => fun q h => by simp at h
  | p :: ps, last, h0, h => by
    intro q hq
    rw [List.map_cons, List.zip_cons_cons] at h hq
    have h1 := okP_iff.1 (h (last, p) (by simp))
    rcases List.mem_cons.1 hq with rfl | hq
    · exact h0
    · exact zip_pos ps p.t (by dsimp only at h1; omega) (fun q hq => h q (List.mem_cons_of_mem _ hq)) q hq
theorem prs_pos {ps : List Ps} (h : (prs ps).all okP = true) : ∀ q ∈ prs ps, 0 ≤ q.1 := zip_pos ps 0 (by omega) (List.all_eq_true.1 h)
theorem nB_pos (x : Int) : 0 < (nB false x).length := by rw [nB_len]; have := size_pos false x; omega
theorem nB_le (x : Int) : (nB false x).length ≤ 10 := by rw [nB_len]; exact size_le false x
/-- the bytes so far -/
def accS (n : Nat) (pre : List (Int × Ps)) : List UInt8 := nB false n ++ (pre.map spQ).flatMap encS
theorem accS_next (n : Nat) (pre : List (Int × Ps)) (q : Int × Ps) : accS n (pre ++ [q]) = ((accS n pre ++ nB false (q.2.f - q.1)) ++ nB false (q.2.t - q.2.f)) ++ ownC q.2.a := by
  unfold accS
  rw [List.map_append, List.flatMap_append, List.map_singleton, List.flatMap_singleton]
  unfold encS
  simp only [List.append_assoc]
  rfl
theorem accS_all (ps : List Ps) : accS ps.length (prs ps) = ownS (ps.map Ps.sp) := by
  unfold accS ownS
  rw [prS_map, List.length_map]
theorem accS_len {n : Nat} : ∀ {pre : List (Int × Ps)}, (∀ q ∈ pre, okP q = true) → (accS n pre).length ≤ 10 + 206 * pre.length := by
  intro pre h
  have hl : ∀ l : List (Int × Ps), (∀ q ∈ l, okP q = true) → ((l.map spQ).flatMap encS).length ≤ 206 * l.length := by
    intro l
    induction l with
    | nil => intro _; simp
    | cons q l ih =>
      intro h
      have h1 := (encS_len (q := spQ q) (okP_iff.1 (h q (by simp))).2.2.2.2).1
      have h2 := ih (fun q hq => h q (List.mem_cons_of_mem _ hq))
      rw [List.map_cons, List.flatMap_cons, List.length_append, List.length_cons]
      omega
  have h1 := hl pre h
  have h2 := nB_le n
  unfold accS
  rw [List.length_append]
  omega
theorem ownS_len {ps : List Ps} (h : rightL (ps.map Ps.sp) = true) : (ownS (ps.map Ps.sp)).length ≤ 1000000 := by
  rw [rightL_map, Bool.and_eq_true] at h
  have h1 := of_decide_eq_true h.1
  rw [← accS_all]
  have := accS_len (n := ps.length) (List.all_eq_true.1 h.2)
  rw [prs_len] at this
  omega
theorem off_apart {W3 : World} {N : Nat} {v3 v : Value} {l3 : List UInt8} (h3 : Own W3 N v3 l3) (hF : Off N W3.heap.size v) : v3.ownBlock = none ∨ v3.ownBlock ≠ v.ownBlock := by
  cases h : v3.ownBlock with
  | none => exact .inl rfl
  | some k =>
    refine .inr fun e => ?_
    have h1 := h3.lt k h
    have h2 := hF k e.symm
    omega
theorem same_off {K : Nat → Prop} {W A C : World} {row : Option Nat} (h : Same K W A) (hg : A.grownBy C row) (hk : ∀ k, row = some k → W.heap.size ≤ k ∨ ¬ K k) : Same K W C :=
  ⟨hg.os.trans h.os, hg.tape.trans h.tape, hg.output.trans h.output, Nat.le_trans h.size hg.size, fun k o hk' hK => by
    have h1 := h.blk k o hk' hK
    have h2 := (Array.getElem?_eq_some_iff.1 hk').1
    exact (hg.block k (Array.getElem?_eq_some_iff.1 h1).1 (fun e => by rcases hk k e.symm with q | q; exact absurd h2 (by omega); exact q hK)).trans h1⟩
/-- a round's state: the variable's block, the bytes so far -/
def PutI (w : World) (bb B : Nat) (n : Nat) (pre : List (Int × Ps)) (W : World) : Prop := ∃ v, (Boxed W bb 22 v ∧ Own W B v (accS n pre)) ∧ Below w.heap.size w W

attribute [local go_sem] Oper.semAt_some wideFn wideDepth
set_option maxRecDepth 100000 in
set_option maxHeartbeats 8000000 in
theorem put7_any (A B : Option Addr) (c d : Nat) (b : List UInt8) (ps : List Ps) (w : World) (hc : B = none → d = 0) (hs : Sm ps) (hrg : ∀ p ∈ ps, ∀ x ∈ p.a, x.Rng) (hbn : b.length ≤ 1099511627776) (hb : Lies w w.heap.size B b) (h : SLies w w.heap.size A ps) :
    Calls Tryz.prog 52 #[.slice B b.length d, .slice A ps.length c] w (PutR7 b (ps.map Ps.sp) w) := by
  have HR := Lib.hid (right7_any A c ps w hs h)
  unfold BoolR at HR
  refine calls_loop Tryz.func52 rfl ?_
  simp only [Tryz.ntmps52, List.size_toArray, List.length_cons, List.length_nil, Nat.reduceAdd, Nat.reduceSub, Array.replicate_succ, Array.replicate_zero, List.push_toArray, List.append_toArray, List.nil_append, List.cons_append]
  cases hrt : rightL (ps.map Ps.sp)
  · rw [hrt] at HR
    have HE := Lib.hid (ptS_no (b := b) hrt)
    clear hb h hrg hrt
    go_wp2_with fail
    refine HR.out.mono ?_
    rintro e w1 ⟨rfl, hb1⟩
    go_wp2_with fail
    exact ret_plain rfl (results_tmp2 rfl _ _ _) ⟨_, by rw [HE.out.1]; rfl, by rw [HE.out.2]; exact Own.nil _ _, hb1⟩
  · rw [hrt] at HR
    have HE := Lib.hid (ptS_yes (b := b) hrt)
    have HRT := Lib.hid hrt
    rw [rightL_map, Bool.and_eq_true] at hrt
    have hl4 := of_decide_eq_true hrt.1
    have HAL := Lib.hid (List.all_eq_true.1 hrt.2)
    have HPO := Lib.hid (prs_pos hrt.2)
    have HRG := Lib.hid hrg
    have HB := Lib.hid hb
    have HSL := Lib.hid h
    have HSM := Lib.hid hs
    have hls := hs.1
    clear hrt hb h hrg hs
    go_wp2_with fail
    refine HR.out.mono ?_
    rintro e w1 ⟨rfl, hb1⟩
    go_wp2_with fail
    refine (putU_0 ps.length w1 (by omega) (by omega)).mono ?_
    rintro e w2 ⟨v2, rfl, ho2, hb2⟩
    have hz1 := hb1.size
    have hz2 := hb2.size
    obtain ⟨A2, c2, e2, _⟩ := ho2.form
    subst e2
    have HO2 := Lib.hid ho2
    have HB2 := Lib.hid (hb1.trans (hb2.mono hz1))
    clear ho2 hb1 hb2
    go_wp2_with fail
    refine (inOrder_any A _ c _).mono ?_
    rintro e w3 ⟨rfl, rfl⟩
    have bO := (Boxed.new w2 22 (.slice A2 (nB false ps.length).length c2)).alloc (.cells #[.slice A ps.length c] 69)
    have bS := Boxed.new (w2.alloc (.cells #[.slice A2 (nB false ps.length).length c2] 22)) 69 (.slice A ps.length c)
    simp only [World.size_alloc] at bS
    have hbb := below_lnew2 w2 (.cells #[.slice A2 (nB false ps.length).length c2] 22) (.cells #[.slice A ps.length c] 69)
    have hz3 : ((w2.alloc (.cells #[.slice A2 (nB false ps.length).length c2] 22)).alloc (.cells #[.slice A ps.length c] 69)).heap.size = w2.heap.size + 2 := by simp
    have HO3 := Lib.hid (HO2.out.below hbb)
    have HB3 := Lib.hid (HB2.out.trans (hbb.mono (by omega)))
    simp only [World.size_alloc]
    obtain ⟨w3, hw3⟩ : ∃ w3, (w2.alloc (.cells #[.slice A2 (nB false ps.length).length c2] 22)).alloc (.cells #[.slice A ps.length c] 69) = w3 := ⟨_, rfl⟩
    rw [hw3] at bO bS hz3 HO3 HB3 ⊢
    have hcS := bS.cell
    have HBO := Lib.hid bO
    clear hw3 hbb bO bS
    have hmix : Tryz.prog.follows .mixedOrders = true := by kernel_rfl
    go_wp2_with fail
    refine range_wp (gf := 99) (lb := #[.pointer (some ⟨w2.heap.size + 1, 0, none⟩)]) rfl (run_enterC Tryz.func99 (by kernel_rfl) (by kernel_rfl))
      (inOrder_seq (w2.heap.size + 1) w.heap.size c A ps w3 (by omega) hcS (HSL.out.1.below HB3.out) (by omega) hls) (fun _ => rfl) (fun _ q => q.elim) (fun k q => .inl (by omega))
      (PutI w w2.heap.size w1.heap.size ps.length) (fun _ _ _ => False)
      (fun s A' C hl ⟨v, ⟨h1, h2⟩, h3⟩ => ⟨v, ⟨Boxed.lets h1 hl (fun q => q), h2.lets hl (fun _ q => q.elim)⟩, hl.below h3 (Nat.le_refl _) (fun _ q => q.elim) (by omega)⟩)
      (fun c s => fun _ _ _ h => h)
      ⟨_, ⟨HBO.out, by unfold accS; simpa using HO3.out⟩, HB3.out⟩ ?round ?done ?stop
    case round =>
      rintro l pre q Wr W hzr ⟨v, ⟨hbr, hor⟩, hbel⟩ hle _ hnx
      have hq := hnx.mem
      have hp := prs_mem hq
      obtain ⟨hok1, hok2, hok3, hok4, hok5⟩ := okP_iff.1 (HAL.out q hq)
      have hpos := HPO.out q hq
      have hmn := Lib.hid (HSL.out.2 _ hp)
      have hla := HSM.out.2 _ hp
      have hra := Lib.hid (HRG.out _ hp)
      have hzw := hle.size
      have hpre : ∀ x ∈ pre, okP x = true := fun x hx => HAL.out x (by
        have h1 := hnx.take.1
        have h2 : x ∈ (prs ps).take (pre.length + 1) := by rw [← h1]; exact List.mem_append_left _ hx
        exact List.mem_of_mem_take h2)
      have hal := accS_len (n := ps.length) hpre
      have hpl : pre.length ≤ 4000 := by have := hnx.take.2.1; rw [prs_len] at this; omega
      have HNX := Lib.hid (accS_next ps.length pre q)
      have hvr := Lib.hid (fun k e => (hor.lt k e))
      have hb0 := Boxed.lets hbr hle (fun q => q)
      have ho0 := hor.lets hle (fun _ q => q.elim)
      have hB0 := hle.below hbel (Nat.le_refl _) (fun _ q => q.elim) (by omega)
      have hbx := below_lnew W (.cells (pK q.2) 77)
      have hb1 := Lib.hid (Boxed.below hb0 hbx (by omega))
      have ho1 := Lib.hid (ho0.below hbx)
      have hB1 := Lib.hid (hB0.trans (hbx.mono (by omega)))
      have hX1 := Lib.hid (spAt_new W q.2)
      have hS1 := Lib.hid (Same.of_all (K := fun k => k < w.heap.size ∨ Wr.heap.size ≤ k) hbx)
      have hlow := Lib.hid (fun k e => (ho0.lt k e))
      clear hbr hor hbel hnx hp hle hb0 ho0 hB0 hbx hpre hq
      obtain ⟨al, f, t, a, A', c'⟩ := q
      simp only [pK] at hb1 ho1 hB1 hX1 hS1
      dsimp only at hok1 hok2 hok3 hok4 hok5 hpos hla HNX
      obtain ⟨_, hac, hLL⟩ := hmn.out
      have HAC := Lib.hid hac
      have HLL := Lib.hid hLL
      clear hLL hmn hac
      obtain ⟨acc, hacc⟩ : ∃ acc, accS ps.length pre = acc := ⟨_, rfl⟩
      rw [hacc] at hal HNX ho1
      have HACC := Lib.hid hacc
      clear hacc
      unfold pK
      gi_wp2
      refine ⟨nocs_alloc _ _, hS1.out, fun W2 hl2 hs2 hz4 => ?_⟩
      have hX2 : SpAt W2 W.heap.size ⟨f, t, a, A', c'⟩ := (hl2 (fun _ => False)).blk _ _ hX1.out (fun q => q) (.inr rfl)
      have hb2 := Boxed.lets hb1.out (hl2 (fun _ => False)) (fun q => q)
      have ho2 := ho1.out.lets (hl2 (fun _ => False)) (fun _ q => q.elim)
      have hB2 := (hl2 (fun _ => False)).below hB1.out (Nat.le_refl _) (fun _ q => q.elim) (by omega)
      have hz5 : W2.heap.size = W.heap.size + 1 := by simpa using hz4
      have hww : w2.heap.size + 5 ≤ W2.heap.size := by omega
      have hwz : W.heap.size + 1 ≤ W2.heap.size := by omega
      have x2 := hX2.at_
      dsimp only at x2
      have HP6 := Lib.hid (put6_any A' none c' 0 [] a W2 (fun _ => rfl) hla (by simp) hra.out (Lies.empty _ _ _) ((HLL.out.below hB2).more (by omega)))
      unfold PutR6 at HP6
      rw [(pt_yes (b := []) hok5).1, (pt_yes (b := []) hok5).2, List.nil_append] at HP6
      have HX2 := Lib.hid hX2
      have Hb2 := Lib.hid hb2
      have HO2' := Lib.hid ho2
      have HBL2 := Lib.hid hB2
      have HZ5 := Lib.hid hz5
      have hcl := ownC_len a
      clear hl2 hX2 hb2 ho2 hB2 hz4 hz5 hb1 ho1 hB1 hX1 hS1
      gi_wp2_with (gi_at_call 84
                   refine (CallsIn.inRound l (callsIn_wide.2 HP6.out)).mono ?_
                   rintro e W3 ⟨v3, rfl, ho3, hb3⟩
                   obtain ⟨A3, c3, e3, _, _, hl3⟩ := ho3.form
                   subst e3
                   have HO3' := Lib.hid ho3
                   have HB33 := Lib.hid hb3
                   clear ho3 hb3 hl3)
      have hz6 := HB33.out.size
      have HX8 := Lib.hid (HX2.out.below HB33.out (by have := HZ5.out; omega))
      have Hb8 := Lib.hid (Boxed.below Hb2.out HB33.out (by omega))
      have HO8 := Lib.hid (HO2'.out.below HB33.out)
      have HF8 := Lib.hid (show Off W2.heap.size W3.heap.size v from fun k e => .inl (by have := (hlow.out k e).2; have := HZ5.out; omega))
      have HA8 := Lib.hid HO3'.out
      have HL8 := Lib.hid (HBL2.out.trans (HB33.out.mono (by omega)))
      have HS8 := Lib.hid (hs2.trans (Same.of_all HB33.out))
      have HN8 := Lib.hid (Nocs.of_below (B := w3.heap.size) HB33.out)
      have HW8 := Lib.hid (show Off Wr.heap.size W.heap.size v from fun k e => .inl (hvr.out k e).2)
      obtain ⟨W8, hW8⟩ : ∃ W8, W8 = W3 := ⟨_, rfl⟩
      have hz8 : W3.heap.size ≤ W8.heap.size := by rw [hW8]; exact Nat.le_refl _
      obtain ⟨v8, hv8⟩ : ∃ v8, v8 = v := ⟨_, rfl⟩
      rw [← hW8] at HX8 Hb8 HO8 HL8 HS8 HN8 HA8 ⊢
      rw [← hv8] at Hb8 HO8 HF8 HW8
      have x0_8 := HX8.out.fr
      have x1_8 := HX8.out.to
      have bc_8 := Hb8.out.cell
      have bf_8 := Hb8.out.frozen
      have HV8 := Lib.hid hv8
      dsimp only at x0_8 x1_8
      have e1 : IntKind.i64.wrap (f - al) = f - al := IntWalk.i64_in _ ⟨by omega, by omega⟩
      have e2 : IntKind.u64.wrap (f - al) = f - al := IntWalk.u64_in _ ⟨by omega, by omega⟩
      have e3 : IntKind.i64.wrap (t - f) = t - f := IntWalk.i64_in _ ⟨by omega, by omega⟩
      have e4 : IntKind.u64.wrap (t - f) = t - f := IntWalk.u64_in _ ⟨by omega, by omega⟩
      clear x2 hW8 hv8
      gi_wp2
      have hS8 : W8.drew.cell? ⟨W.heap.size, 0, none⟩ = some (.int .i64 f) := x0_8
      refine region_held_in (S := fun W9 => W9.cell? ⟨W.heap.size, 0, none⟩ = some (.int .i64 f)) hmix (by kernel_rfl) (fun ⟨_, _, h⟩ => h) hS8 (fun hHeld => ?_)
      refine heldTake (i := 1) (d := some 29) (v := ?_) rfl rfl (by kernel_rfl) (by kernel_rfl) (by kernel_rfl) (fun _ _ _ h => h) (by kernel_rfl) ?hyq29_1 (by assumption) ?restq29_1
      case hyq29_1 => (intro W9 hSw; (try dsimp only at hSw); go_simp; try (with_reducible rfl))
      (try simp only [Act.put, List.setIfInBounds_toArray, List.set_cons_zero, List.set_cons_succ])
      refine heldTake (i := 2) (d := some 30) (v := ?_) rfl rfl (by kernel_rfl) (by kernel_rfl) (by kernel_rfl) (fun _ _ _ h => h) (by kernel_rfl) ?hyq30_2 (by assumption) ?restq30_2
      case hyq30_2 => (intro W9 hSw; (try dsimp only at hSw); go_simp; try (with_reducible rfl))
      (try simp only [Act.put, List.setIfInBounds_toArray, List.set_cons_zero, List.set_cons_succ])
      refine heldTake (i := 3) (d := some 31) (v := ?_) rfl rfl (by kernel_rfl) (by kernel_rfl) (by kernel_rfl) (fun _ _ _ h => h) (by kernel_rfl) ?hyq31_3 (by assumption) ?restq31_3
      case hyq31_3 => (intro W9 hSw; (try dsimp only at hSw); go_simp; try (with_reducible rfl))
      (try simp only [Act.put, List.setIfInBounds_toArray, List.set_cons_zero, List.set_cons_succ])
      refine heldTake (i := 4) (d := some 32) (v := ?_) rfl rfl (by kernel_rfl) (by kernel_rfl) (by kernel_rfl) (fun _ _ _ h => h) (by kernel_rfl) ?hyq32_4 (by assumption) ?restq32_4
      case hyq32_4 => (intro W9 hSw; (try dsimp only at hSw); go_simp; try (with_reducible rfl))
      (try simp only [Act.put, List.setIfInBounds_toArray, List.set_cons_zero, List.set_cons_succ])
      refine heldTake (i := 5) (d := some 33) (v := ?_) rfl rfl (by kernel_rfl) (by kernel_rfl) (by kernel_rfl) (fun _ _ _ h => h) (by kernel_rfl) ?hyq33_5 (by assumption) ?restq33_5
      case hyq33_5 => (intro W9 hSw; (try dsimp only at hSw); go_simp; try (with_reducible rfl))
      (try simp only [Act.put, List.setIfInBounds_toArray, List.set_cons_zero, List.set_cons_succ])
      refine wpAnyH_ready (rs := [0, 6]) (by kernel_rfl) (by simp) ?_
      refine AllReadyH.cons rfl (fun K hK => ?_) (AllReadyH.cons rfl (fun K hK => ?_) AllReadyH.nil)
      · go_simp
        refine hK.out _ _ hHeld (fun hHeld => ?_)
        clear hK K
        (try simp only [Act.put, List.setIfInBounds_toArray, List.set_cons_zero, List.set_cons_succ])
        refine wpAnyH_ready (rs := [6]) (by kernel_rfl) (by simp) ?_
        refine AllReadyH.cons rfl (fun K hK => ?_) AllReadyH.nil
        go_simp
        go_at_call 50
        refine (putU_0 (f - al) _ (by omega) (by omega)).mono ?_
        rintro e9 X ⟨yv, rfl, hy, hq9⟩
        obtain ⟨AY, cY, eY, _, _, hlY⟩ := hy.form
        subst eY
        have hbY : Below W8.heap.size W8 X := ⟨hq9.os, hq9.tape, hq9.output, hq9.size, hq9.block⟩
        have HXX := Lib.hid (HX8.out.below hbY HX8.out.lt)
        have x0_X := HXX.out.fr
        have x1_X := HXX.out.to
        dsimp only at x0_X x1_X
        have HBX := Lib.hid (Boxed.below Hb8.out hbY Hb8.out.lt)
        have bc_X := HBX.out.cell
        have bf_X := HBX.out.frozen
        have HOX := Lib.hid (HO8.out.below hbY)
        have HAX := Lib.hid (HA8.out.below hbY)
        have hzX := hbY.size
        have HLX := Lib.hid (HL8.out.trans (hbY.mono HL8.out.size))
        have HSX := Lib.hid (HS8.out.trans (Same.of_all hbY))
        have HNX' := Lib.hid (HN8.out.trans (Nocs.of_below hbY))
        have hLY := Lib.hid hlY
        have hSX : X.cell? ⟨W.heap.size, 0, none⟩ = some (.int .i64 f) := x0_X
        clear hy hq9 hlY hbY
        go_wp2_with fail
        refine hK.out _ _ hSX (fun hHeld => ?_)
        clear hK K
        (try simp only [Act.put, List.setIfInBounds_toArray, List.set_cons_zero, List.set_cons_succ])
        refine wpAnyH_ready (rs := [7]) (by kernel_rfl) (by simp) ?_
        refine AllReadyH.cons rfl (fun K hK => ?_) AllReadyH.nil
        rw [if_pos (by kernel_rfl)]
        refine op_append X (.tmp 28) (.tmp 34) rfl w1.heap.size v8 (acc) rfl HOX.out AY cY X.heap.size (nB false (f - al)) rfl (nB_pos _) hLY.out (by have := nB_le (f - al); have := nB_le (f - al); (try simp only [List.length_append]); omega) (by omega) ?_
        intro v9 Z ho9 hg9 hk9
        have HO9z := Lib.hid ho9
        have HbZ := Lib.hid (Boxed.kept HBX.out hg9 (HOX.out.no_box HBX.out (by decide)))
        have HXZ := Lib.hid (show SpAt Z W.heap.size ⟨f, t, a, A', c'⟩ from (hg9.block _ HXX.out.lt (HOX.out.no_span HXX.out)).trans HXX.out)
        have HAZ := Lib.hid (HAX.out.kept hg9 (off_apart HO3'.out HF8.out))
        have HF9 := Lib.hid (HF8.out.next (show W3.heap.size ≤ X.heap.size by omega) hk9)
        have HLZ := Lib.hid (HLX.out.grown hg9 HLX.out.size (fun k e => by have := (HOX.out.lt k e).1; omega))
        have HSZ := Lib.hid (same_off HSX.out hg9 (fun k e => by have h1 := (HOX.out.lt k e).1; rcases HW8.out k e with h | h; exact .inr (fun q => by (try dsimp only at q); omega); exact .inl h))
        have HNZ := Lib.hid (HNX'.out.trans (Nocs.of_grown hg9 HOX.out.cells7))
        have HW9 := Lib.hid (HW8.out.next (show W.heap.size ≤ X.heap.size by omega) hk9)
        have hzZ := hg9.size
        have x0_Z := HXZ.out.fr
        have x1_Z := HXZ.out.to
        dsimp only at x0_Z x1_Z
        have bc_Z := HbZ.out.cell
        have bf_Z := HbZ.out.frozen
        have hSZ : Z.cell? ⟨W.heap.size, 0, none⟩ = some (.int .i64 f) := x0_Z
        refine hK.out _ _ hSZ (fun hHeld => ?_)
        clear hK K
        (try simp only [Act.put, List.setIfInBounds_toArray])
        refine wpAnyH_ready (rs := [8]) (by kernel_rfl) (by simp) ?_
        refine AllReadyH.cons rfl (fun K hK => ?_) AllReadyH.nil
        obtain ⟨A9, n9, c9, e9, hn9, _⟩ := ho9.formN
        subst e9
        go_simp
        refine hK.out _ _ (((World.cell?_of_block (Below.heap_setCell Z ⟨w2.heap.size, 0, none⟩ _ W.heap.size (by dsimp only; omega))).trans x0_Z)) (fun _ => ?_)
        clear hK K
        (try simp only [Act.put, List.setIfInBounds_toArray, List.set_cons_zero, List.set_cons_succ])
        refine wpAnyH_done (by kernel_rfl) ?_ _
        obtain ⟨W9, hW9⟩ : ∃ W9, Z.setCell ⟨w2.heap.size, 0, none⟩ (.slice A9 n9 c9) = W9 := ⟨_, rfl⟩
        have HX9 := Lib.hid (show SpAt (Z.setCell ⟨w2.heap.size, 0, none⟩ (.slice A9 n9 c9)) W.heap.size ⟨f, t, a, A', c'⟩ from (Below.heap_setCell Z ⟨w2.heap.size, 0, none⟩ (.slice A9 n9 c9) W.heap.size (by dsimp only; omega)).trans HXZ.out)
        have Hb9 := Lib.hid (Boxed.set (.slice A9 n9 c9) HbZ.out)
        have HO9 := Lib.hid (HO9z.out.kept (w' := Z.setCell ⟨w2.heap.size, 0, none⟩ (.slice A9 n9 c9)) (grownBy_setCell' _ _ _) (.inr (fun e => (HO9z.out.no_box HbZ.out (by decide)) e.symm)))
        have HA9 := Lib.hid (HAZ.out.kept (w' := Z.setCell ⟨w2.heap.size, 0, none⟩ (.slice A9 n9 c9)) (grownBy_setCell' _ _ _) (.inr (fun e => (HAZ.out.no_box HbZ.out (by decide)) e.symm)))
        have HL9 := Lib.hid (HLZ.out.setCell (p := ⟨w2.heap.size, 0, none⟩) (by dsimp only; omega) (.slice A9 n9 c9))
        have HS9 := Lib.hid (HSZ.out.trans (same_set (K := fun k => k < w.heap.size ∨ Wr.heap.size ≤ k) Z ⟨w2.heap.size, 0, none⟩ (.slice A9 n9 c9) (fun q => by dsimp only at q; omega)))
        have HN9 := Lib.hid (HNZ.out.trans (nocs_set (B := w3.heap.size) Z ⟨w2.heap.size, 0, none⟩ (.slice A9 n9 c9)))
        have hz9 : W3.heap.size ≤ (Z.setCell ⟨w2.heap.size, 0, none⟩ (.slice A9 n9 c9)).heap.size := by rw [World.size_setCell]; omega
        rw [hW9] at HX9 Hb9 HO9 HA9 HL9 HS9 HN9 hz9
        try rw [hW9]
        have x0_9 := HX9.out.fr
        have x1_9 := HX9.out.to
        have bc_9 := Hb9.out.cell
        have bf_9 := Hb9.out.frozen
        dsimp only at x0_9 x1_9
        clear hW9 HXX HBX HOX HAX HLX HSX HNX' hLY HXZ HbZ HAZ HLZ HSZ HNZ HO9z ho9 hg9 hk9 hzX hzZ x0_X x1_X bc_X bf_X x0_Z x1_Z bc_Z bf_Z
        gi_wp2
        have hS9 : W9.drew.cell? ⟨W.heap.size, 0, none⟩ = some (.int .i64 f) ∧ W9.drew.cell? ⟨W.heap.size, 1, none⟩ = some (.int .i64 t) := ⟨x0_9, x1_9⟩
        refine region_held_in (S := fun W9 => W9.cell? ⟨W.heap.size, 0, none⟩ = some (.int .i64 f) ∧ W9.cell? ⟨W.heap.size, 1, none⟩ = some (.int .i64 t)) hmix (by kernel_rfl) (fun ⟨_, _, h⟩ => h) hS9 (fun hHeld => ?_)
        refine heldTake (i := 1) (d := some 37) (v := ?_) rfl rfl (by kernel_rfl) (by kernel_rfl) (by kernel_rfl) (fun _ _ _ h => h) (by kernel_rfl) ?hyq37_6 (by assumption) ?restq37_6
        case hyq37_6 => (intro W9 hSw; (try dsimp only at hSw); go_simp; try (with_reducible rfl))
        (try simp only [Act.put, List.setIfInBounds_toArray, List.set_cons_zero, List.set_cons_succ])
        refine heldTake (i := 2) (d := some 38) (v := ?_) rfl rfl (by kernel_rfl) (by kernel_rfl) (by kernel_rfl) (fun _ _ _ h => h) (by kernel_rfl) ?hyq38_7 (by assumption) ?restq38_7
        case hyq38_7 => (intro W9 hSw; (try dsimp only at hSw); go_simp; try (with_reducible rfl))
        (try simp only [Act.put, List.setIfInBounds_toArray, List.set_cons_zero, List.set_cons_succ])
        refine heldTake (i := 3) (d := some 39) (v := ?_) rfl rfl (by kernel_rfl) (by kernel_rfl) (by kernel_rfl) (fun _ _ _ h => h) (by kernel_rfl) ?hyq39_8 (by assumption) ?restq39_8
        case hyq39_8 => (intro W9 hSw; (try dsimp only at hSw); go_simp; try (with_reducible rfl))
        (try simp only [Act.put, List.setIfInBounds_toArray, List.set_cons_zero, List.set_cons_succ])
        refine heldTake (i := 4) (d := some 40) (v := ?_) rfl rfl (by kernel_rfl) (by kernel_rfl) (by kernel_rfl) (fun _ _ _ h => h) (by kernel_rfl) ?hyq40_9 (by assumption) ?restq40_9
        case hyq40_9 => (intro W9 hSw; (try dsimp only at hSw); go_simp; try (with_reducible rfl))
        (try simp only [Act.put, List.setIfInBounds_toArray, List.set_cons_zero, List.set_cons_succ])
        refine heldTake (i := 5) (d := some 41) (v := ?_) rfl rfl (by kernel_rfl) (by kernel_rfl) (by kernel_rfl) (fun _ _ _ h => h) (by kernel_rfl) ?hyq41_10 (by assumption) ?restq41_10
        case hyq41_10 => (intro W9 hSw; (try dsimp only at hSw); go_simp; try (with_reducible rfl))
        (try simp only [Act.put, List.setIfInBounds_toArray, List.set_cons_zero, List.set_cons_succ])
        refine heldTake (i := 6) (d := some 42) (v := ?_) rfl rfl (by kernel_rfl) (by kernel_rfl) (by kernel_rfl) (fun _ _ _ h => h) (by kernel_rfl) ?hyq42_11 (by assumption) ?restq42_11
        case hyq42_11 => (intro W9 hSw; (try dsimp only at hSw); go_simp; try (with_reducible rfl))
        (try simp only [Act.put, List.setIfInBounds_toArray, List.set_cons_zero, List.set_cons_succ])
        refine wpAnyH_ready (rs := [0, 7]) (by kernel_rfl) (by simp) ?_
        refine AllReadyH.cons rfl (fun K hK => ?_) (AllReadyH.cons rfl (fun K hK => ?_) AllReadyH.nil)
        · go_simp
          refine hK.out _ _ hHeld (fun hHeld => ?_)
          clear hK K
          (try simp only [Act.put, List.setIfInBounds_toArray, List.set_cons_zero, List.set_cons_succ])
          refine wpAnyH_ready (rs := [7]) (by kernel_rfl) (by simp) ?_
          refine AllReadyH.cons rfl (fun K hK => ?_) AllReadyH.nil
          go_simp
          go_at_call 50
          refine (putU_0 (t - f) _ (by omega) (by omega)).mono ?_
          rintro e9 X ⟨yv, rfl, hy, hq9⟩
          obtain ⟨AY, cY, eY, _, _, hlY⟩ := hy.form
          subst eY
          have hbY : Below W9.heap.size W9 X := ⟨hq9.os, hq9.tape, hq9.output, hq9.size, hq9.block⟩
          have HXX := Lib.hid (HX9.out.below hbY HX9.out.lt)
          have x0_X := HXX.out.fr
          have x1_X := HXX.out.to
          dsimp only at x0_X x1_X
          have HBX := Lib.hid (Boxed.below Hb9.out hbY Hb9.out.lt)
          have bc_X := HBX.out.cell
          have bf_X := HBX.out.frozen
          have HOX := Lib.hid (HO9.out.below hbY)
          have HAX := Lib.hid (HA9.out.below hbY)
          have hzX := hbY.size
          have HLX := Lib.hid (HL9.out.trans (hbY.mono HL9.out.size))
          have HSX := Lib.hid (HS9.out.trans (Same.of_all hbY))
          have HNX' := Lib.hid (HN9.out.trans (Nocs.of_below hbY))
          have hLY := Lib.hid hlY
          have hSX : X.cell? ⟨W.heap.size, 0, none⟩ = some (.int .i64 f) ∧ X.cell? ⟨W.heap.size, 1, none⟩ = some (.int .i64 t) := ⟨x0_X, x1_X⟩
          clear hy hq9 hlY hbY
          go_wp2_with fail
          refine hK.out _ _ hSX (fun hHeld => ?_)
          clear hK K
          (try simp only [Act.put, List.setIfInBounds_toArray, List.set_cons_zero, List.set_cons_succ])
          refine wpAnyH_ready (rs := [8]) (by kernel_rfl) (by simp) ?_
          refine AllReadyH.cons rfl (fun K hK => ?_) AllReadyH.nil
          rw [if_pos (by kernel_rfl)]
          refine op_append X (.tmp 36) (.tmp 43) rfl w1.heap.size (.slice A9 n9 c9) (acc ++ nB false (f - al)) rfl HOX.out AY cY X.heap.size (nB false (t - f)) rfl (nB_pos _) hLY.out (by have := nB_le (t - f); have := nB_le (f - al); (try simp only [List.length_append]); omega) (by omega) ?_
          intro v10 Z ho9 hg9 hk9
          have HO10z := Lib.hid ho9
          have HbZ := Lib.hid (Boxed.kept HBX.out hg9 (HOX.out.no_box HBX.out (by decide)))
          have HXZ := Lib.hid (show SpAt Z W.heap.size ⟨f, t, a, A', c'⟩ from (hg9.block _ HXX.out.lt (HOX.out.no_span HXX.out)).trans HXX.out)
          have HAZ := Lib.hid (HAX.out.kept hg9 (off_apart HO3'.out HF9.out))
          have HF10 := Lib.hid (HF9.out.next (show W3.heap.size ≤ X.heap.size by omega) hk9)
          have HLZ := Lib.hid (HLX.out.grown hg9 HLX.out.size (fun k e => by have := (HOX.out.lt k e).1; omega))
          have HSZ := Lib.hid (same_off HSX.out hg9 (fun k e => by have h1 := (HOX.out.lt k e).1; rcases HW9.out k e with h | h; exact .inr (fun q => by (try dsimp only at q); omega); exact .inl h))
          have HNZ := Lib.hid (HNX'.out.trans (Nocs.of_grown hg9 HOX.out.cells7))
          have HW10 := Lib.hid (HW9.out.next (show W.heap.size ≤ X.heap.size by omega) hk9)
          have hzZ := hg9.size
          have x0_Z := HXZ.out.fr
          have x1_Z := HXZ.out.to
          dsimp only at x0_Z x1_Z
          have bc_Z := HbZ.out.cell
          have bf_Z := HbZ.out.frozen
          have hSZ : Z.cell? ⟨W.heap.size, 0, none⟩ = some (.int .i64 f) ∧ Z.cell? ⟨W.heap.size, 1, none⟩ = some (.int .i64 t) := ⟨x0_Z, x1_Z⟩
          refine hK.out _ _ hSZ (fun hHeld => ?_)
          clear hK K
          (try simp only [Act.put, List.setIfInBounds_toArray])
          refine wpAnyH_ready (rs := [9]) (by kernel_rfl) (by simp) ?_
          refine AllReadyH.cons rfl (fun K hK => ?_) AllReadyH.nil
          obtain ⟨A10, n10, c10, e9, hn10, _⟩ := ho9.formN
          subst e9
          go_simp
          refine hK.out _ _ (⟨((World.cell?_of_block (Below.heap_setCell Z ⟨w2.heap.size, 0, none⟩ _ W.heap.size (by dsimp only; omega))).trans x0_Z), ((World.cell?_of_block (Below.heap_setCell Z ⟨w2.heap.size, 0, none⟩ _ W.heap.size (by dsimp only; omega))).trans x1_Z)⟩) (fun _ => ?_)
          clear hK K
          (try simp only [Act.put, List.setIfInBounds_toArray, List.set_cons_zero, List.set_cons_succ])
          refine wpAnyH_done (by kernel_rfl) ?_ _
          obtain ⟨W10, hW10⟩ : ∃ W10, Z.setCell ⟨w2.heap.size, 0, none⟩ (.slice A10 n10 c10) = W10 := ⟨_, rfl⟩
          have HX10 := Lib.hid (show SpAt (Z.setCell ⟨w2.heap.size, 0, none⟩ (.slice A10 n10 c10)) W.heap.size ⟨f, t, a, A', c'⟩ from (Below.heap_setCell Z ⟨w2.heap.size, 0, none⟩ (.slice A10 n10 c10) W.heap.size (by dsimp only; omega)).trans HXZ.out)
          have Hb10 := Lib.hid (Boxed.set (.slice A10 n10 c10) HbZ.out)
          have HO10 := Lib.hid (HO10z.out.kept (w' := Z.setCell ⟨w2.heap.size, 0, none⟩ (.slice A10 n10 c10)) (grownBy_setCell' _ _ _) (.inr (fun e => (HO10z.out.no_box HbZ.out (by decide)) e.symm)))
          have HA10 := Lib.hid (HAZ.out.kept (w' := Z.setCell ⟨w2.heap.size, 0, none⟩ (.slice A10 n10 c10)) (grownBy_setCell' _ _ _) (.inr (fun e => (HAZ.out.no_box HbZ.out (by decide)) e.symm)))
          have HL10 := Lib.hid (HLZ.out.setCell (p := ⟨w2.heap.size, 0, none⟩) (by dsimp only; omega) (.slice A10 n10 c10))
          have HS10 := Lib.hid (HSZ.out.trans (same_set (K := fun k => k < w.heap.size ∨ Wr.heap.size ≤ k) Z ⟨w2.heap.size, 0, none⟩ (.slice A10 n10 c10) (fun q => by dsimp only at q; omega)))
          have HN10 := Lib.hid (HNZ.out.trans (nocs_set (B := w3.heap.size) Z ⟨w2.heap.size, 0, none⟩ (.slice A10 n10 c10)))
          have hz10 : W3.heap.size ≤ (Z.setCell ⟨w2.heap.size, 0, none⟩ (.slice A10 n10 c10)).heap.size := by rw [World.size_setCell]; omega
          rw [hW10] at HX10 Hb10 HO10 HA10 HL10 HS10 HN10 hz10
          try rw [hW10]
          have x0_10 := HX10.out.fr
          have x1_10 := HX10.out.to
          have bc_10 := Hb10.out.cell
          have bf_10 := Hb10.out.frozen
          dsimp only at x0_10 x1_10
          clear hW10 HXX HBX HOX HAX HLX HSX HNX' hLY HXZ HbZ HAZ HLZ HSZ HNZ HO10z ho9 hg9 hk9 hzX hzZ x0_X x1_X bc_X bf_X x0_Z x1_Z bc_Z bf_Z
          obtain ⟨_, _, _, _, _, hA3⟩ := HA10.out.formN
          have hA3' : Lies W10 W10.heap.size A3 (ownC a) := by obtain ⟨A, c, e, _, _, h⟩ := HA10.out.form; injection e with e1 _ _; rw [e1]; exact h
          have hA4 := Lib.hid hA3'
          clear hA3 hA3'
          gi_wp2_with (gi_at_builtin
                       refine app_sliceIn _ rfl (.tmp 45) (.tmp 46) rfl w1.heap.size (.slice A10 n10 c10) ((acc ++ nB false (f - al)) ++ nB false (t - f)) rfl HO10.out A3 c3 W10.heap.size (ownC a) rfl (by omega) hA4.out (by have := nB_le (f - al); have := nB_le (t - f); have := right_len hok5; simp only [List.length_append]; omega) (by omega) ?_
                       intro v11 Z ho11 hg11 hk11
                       have hbZ := Boxed.kept Hb10.out hg11 (HO10.out.no_box Hb10.out (by decide))
                       have bcZ := hbZ.cell
                       have bfZ := hbZ.frozen
                       have HBZ := Lib.hid hbZ
                       have HOZ := Lib.hid ho11
                       have HGZ := Lib.hid hg11
                       obtain ⟨A11, n11, c11, e11, _⟩ := ho11.formN
                       subst e11
                       clear hbZ ho11 hg11 hk11)
          refine ⟨(by rw [← hz3]; exact (HN10.out.trans (Nocs.of_grown HGZ.out HO10.out.cells7)).trans (nocs_set _ _ _)), ?_, .slice A11 n11 c11, ⟨Boxed.set _ HBZ.out, ?_⟩, ?_⟩
          · exact (same_off HS10.out HGZ.out (fun k e => by have h1 := (HO10.out.lt k e).1; rcases HW10.out k e with h | h; exact .inr (fun q => by (try dsimp only at q); omega); exact .inl h)).trans (same_set _ _ _ (fun q => by (try dsimp only at q); omega))
          · rw [HNX.out]
            exact HOZ.out.kept (grownBy_setCell' _ _ _) (.inr (fun e => (HOZ.out.no_box HBZ.out (by decide)) e.symm))
          · exact (HL10.out.grown HGZ.out HL10.out.size (fun k e => by have := (HO10.out.lt k e).1; omega)).setCell (p := ⟨w2.heap.size, 0, none⟩) (by dsimp only; omega) _
        · go_simp
          go_at_call 50
          refine (putU_0 (t - f) _ (by omega) (by omega)).mono ?_
          rintro e9 X ⟨yv, rfl, hy, hq9⟩
          obtain ⟨AY, cY, eY, _, _, hlY⟩ := hy.form
          subst eY
          have hbY : Below W9.heap.size W9 X := ⟨hq9.os, hq9.tape, hq9.output, hq9.size, hq9.block⟩
          have HXX := Lib.hid (HX9.out.below hbY HX9.out.lt)
          have x0_X := HXX.out.fr
          have x1_X := HXX.out.to
          dsimp only at x0_X x1_X
          have HBX := Lib.hid (Boxed.below Hb9.out hbY Hb9.out.lt)
          have bc_X := HBX.out.cell
          have bf_X := HBX.out.frozen
          have HOX := Lib.hid (HO9.out.below hbY)
          have HAX := Lib.hid (HA9.out.below hbY)
          have hzX := hbY.size
          have HLX := Lib.hid (HL9.out.trans (hbY.mono HL9.out.size))
          have HSX := Lib.hid (HS9.out.trans (Same.of_all hbY))
          have HNX' := Lib.hid (HN9.out.trans (Nocs.of_below hbY))
          have hLY := Lib.hid hlY
          have hSX : X.cell? ⟨W.heap.size, 0, none⟩ = some (.int .i64 f) ∧ X.cell? ⟨W.heap.size, 1, none⟩ = some (.int .i64 t) := ⟨x0_X, x1_X⟩
          clear hy hq9 hlY hbY
          go_wp2_with fail
          refine hK.out _ _ hSX (fun hHeld => ?_)
          clear hK K
          (try simp only [Act.put, List.setIfInBounds_toArray, List.set_cons_zero, List.set_cons_succ])
          refine wpAnyH_ready (rs := [0]) (by kernel_rfl) (by simp) ?_
          refine AllReadyH.cons rfl (fun K hK => ?_) AllReadyH.nil
          go_simp
          refine hK.out _ _ hSX (fun hHeld => ?_)
          clear hK K
          (try simp only [Act.put, List.setIfInBounds_toArray, List.set_cons_zero, List.set_cons_succ])
          refine wpAnyH_ready (rs := [8]) (by kernel_rfl) (by simp) ?_
          refine AllReadyH.cons rfl (fun K hK => ?_) AllReadyH.nil
          rw [if_pos (by kernel_rfl)]
          refine op_append X (.tmp 36) (.tmp 43) rfl w1.heap.size (.slice A9 n9 c9) (acc ++ nB false (f - al)) rfl HOX.out AY cY X.heap.size (nB false (t - f)) rfl (nB_pos _) hLY.out (by have := nB_le (t - f); have := nB_le (f - al); (try simp only [List.length_append]); omega) (by omega) ?_
          intro v10 Z ho9 hg9 hk9
          have HO10z := Lib.hid ho9
          have HbZ := Lib.hid (Boxed.kept HBX.out hg9 (HOX.out.no_box HBX.out (by decide)))
          have HXZ := Lib.hid (show SpAt Z W.heap.size ⟨f, t, a, A', c'⟩ from (hg9.block _ HXX.out.lt (HOX.out.no_span HXX.out)).trans HXX.out)
          have HAZ := Lib.hid (HAX.out.kept hg9 (off_apart HO3'.out HF9.out))
          have HF10 := Lib.hid (HF9.out.next (show W3.heap.size ≤ X.heap.size by omega) hk9)
          have HLZ := Lib.hid (HLX.out.grown hg9 HLX.out.size (fun k e => by have := (HOX.out.lt k e).1; omega))
          have HSZ := Lib.hid (same_off HSX.out hg9 (fun k e => by have h1 := (HOX.out.lt k e).1; rcases HW9.out k e with h | h; exact .inr (fun q => by (try dsimp only at q); omega); exact .inl h))
          have HNZ := Lib.hid (HNX'.out.trans (Nocs.of_grown hg9 HOX.out.cells7))
          have HW10 := Lib.hid (HW9.out.next (show W.heap.size ≤ X.heap.size by omega) hk9)
          have hzZ := hg9.size
          have x0_Z := HXZ.out.fr
          have x1_Z := HXZ.out.to
          dsimp only at x0_Z x1_Z
          have bc_Z := HbZ.out.cell
          have bf_Z := HbZ.out.frozen
          have hSZ : Z.cell? ⟨W.heap.size, 0, none⟩ = some (.int .i64 f) ∧ Z.cell? ⟨W.heap.size, 1, none⟩ = some (.int .i64 t) := ⟨x0_Z, x1_Z⟩
          refine hK.out _ _ hSZ (fun hHeld => ?_)
          clear hK K
          (try simp only [Act.put, List.setIfInBounds_toArray])
          refine wpAnyH_ready (rs := [9]) (by kernel_rfl) (by simp) ?_
          refine AllReadyH.cons rfl (fun K hK => ?_) AllReadyH.nil
          obtain ⟨A10, n10, c10, e9, hn10, _⟩ := ho9.formN
          subst e9
          go_simp
          refine hK.out _ _ (⟨((World.cell?_of_block (Below.heap_setCell Z ⟨w2.heap.size, 0, none⟩ _ W.heap.size (by dsimp only; omega))).trans x0_Z), ((World.cell?_of_block (Below.heap_setCell Z ⟨w2.heap.size, 0, none⟩ _ W.heap.size (by dsimp only; omega))).trans x1_Z)⟩) (fun _ => ?_)
          clear hK K
          (try simp only [Act.put, List.setIfInBounds_toArray, List.set_cons_zero, List.set_cons_succ])
          refine wpAnyH_done (by kernel_rfl) ?_ _
          obtain ⟨W10, hW10⟩ : ∃ W10, Z.setCell ⟨w2.heap.size, 0, none⟩ (.slice A10 n10 c10) = W10 := ⟨_, rfl⟩
          have HX10 := Lib.hid (show SpAt (Z.setCell ⟨w2.heap.size, 0, none⟩ (.slice A10 n10 c10)) W.heap.size ⟨f, t, a, A', c'⟩ from (Below.heap_setCell Z ⟨w2.heap.size, 0, none⟩ (.slice A10 n10 c10) W.heap.size (by dsimp only; omega)).trans HXZ.out)
          have Hb10 := Lib.hid (Boxed.set (.slice A10 n10 c10) HbZ.out)
          have HO10 := Lib.hid (HO10z.out.kept (w' := Z.setCell ⟨w2.heap.size, 0, none⟩ (.slice A10 n10 c10)) (grownBy_setCell' _ _ _) (.inr (fun e => (HO10z.out.no_box HbZ.out (by decide)) e.symm)))
          have HA10 := Lib.hid (HAZ.out.kept (w' := Z.setCell ⟨w2.heap.size, 0, none⟩ (.slice A10 n10 c10)) (grownBy_setCell' _ _ _) (.inr (fun e => (HAZ.out.no_box HbZ.out (by decide)) e.symm)))
          have HL10 := Lib.hid (HLZ.out.setCell (p := ⟨w2.heap.size, 0, none⟩) (by dsimp only; omega) (.slice A10 n10 c10))
          have HS10 := Lib.hid (HSZ.out.trans (same_set (K := fun k => k < w.heap.size ∨ Wr.heap.size ≤ k) Z ⟨w2.heap.size, 0, none⟩ (.slice A10 n10 c10) (fun q => by dsimp only at q; omega)))
          have HN10 := Lib.hid (HNZ.out.trans (nocs_set (B := w3.heap.size) Z ⟨w2.heap.size, 0, none⟩ (.slice A10 n10 c10)))
          have hz10 : W3.heap.size ≤ (Z.setCell ⟨w2.heap.size, 0, none⟩ (.slice A10 n10 c10)).heap.size := by rw [World.size_setCell]; omega
          rw [hW10] at HX10 Hb10 HO10 HA10 HL10 HS10 HN10 hz10
          try rw [hW10]
          have x0_10 := HX10.out.fr
          have x1_10 := HX10.out.to
          have bc_10 := Hb10.out.cell
          have bf_10 := Hb10.out.frozen
          dsimp only at x0_10 x1_10
          clear hW10 HXX HBX HOX HAX HLX HSX HNX' hLY HXZ HbZ HAZ HLZ HSZ HNZ HO10z ho9 hg9 hk9 hzX hzZ x0_X x1_X bc_X bf_X x0_Z x1_Z bc_Z bf_Z
          obtain ⟨_, _, _, _, _, hA3⟩ := HA10.out.formN
          have hA3' : Lies W10 W10.heap.size A3 (ownC a) := by obtain ⟨A, c, e, _, _, h⟩ := HA10.out.form; injection e with e1 _ _; rw [e1]; exact h
          have hA4 := Lib.hid hA3'
          clear hA3 hA3'
          gi_wp2_with (gi_at_builtin
                       refine app_sliceIn _ rfl (.tmp 45) (.tmp 46) rfl w1.heap.size (.slice A10 n10 c10) ((acc ++ nB false (f - al)) ++ nB false (t - f)) rfl HO10.out A3 c3 W10.heap.size (ownC a) rfl (by omega) hA4.out (by have := nB_le (f - al); have := nB_le (t - f); have := right_len hok5; simp only [List.length_append]; omega) (by omega) ?_
                       intro v11 Z ho11 hg11 hk11
                       have hbZ := Boxed.kept Hb10.out hg11 (HO10.out.no_box Hb10.out (by decide))
                       have bcZ := hbZ.cell
                       have bfZ := hbZ.frozen
                       have HBZ := Lib.hid hbZ
                       have HOZ := Lib.hid ho11
                       have HGZ := Lib.hid hg11
                       obtain ⟨A11, n11, c11, e11, _⟩ := ho11.formN
                       subst e11
                       clear hbZ ho11 hg11 hk11)
          refine ⟨(by rw [← hz3]; exact (HN10.out.trans (Nocs.of_grown HGZ.out HO10.out.cells7)).trans (nocs_set _ _ _)), ?_, .slice A11 n11 c11, ⟨Boxed.set _ HBZ.out, ?_⟩, ?_⟩
          · exact (same_off HS10.out HGZ.out (fun k e => by have h1 := (HO10.out.lt k e).1; rcases HW10.out k e with h | h; exact .inr (fun q => by (try dsimp only at q); omega); exact .inl h)).trans (same_set _ _ _ (fun q => by (try dsimp only at q); omega))
          · rw [HNX.out]
            exact HOZ.out.kept (grownBy_setCell' _ _ _) (.inr (fun e => (HOZ.out.no_box HBZ.out (by decide)) e.symm))
          · exact (HL10.out.grown HGZ.out HL10.out.size (fun k e => by have := (HO10.out.lt k e).1; omega)).setCell (p := ⟨w2.heap.size, 0, none⟩) (by dsimp only; omega) _
      · go_simp
        go_at_call 50
        refine (putU_0 (f - al) _ (by omega) (by omega)).mono ?_
        rintro e9 X ⟨yv, rfl, hy, hq9⟩
        obtain ⟨AY, cY, eY, _, _, hlY⟩ := hy.form
        subst eY
        have hbY : Below W8.heap.size W8 X := ⟨hq9.os, hq9.tape, hq9.output, hq9.size, hq9.block⟩
        have HXX := Lib.hid (HX8.out.below hbY HX8.out.lt)
        have x0_X := HXX.out.fr
        have x1_X := HXX.out.to
        dsimp only at x0_X x1_X
        have HBX := Lib.hid (Boxed.below Hb8.out hbY Hb8.out.lt)
        have bc_X := HBX.out.cell
        have bf_X := HBX.out.frozen
        have HOX := Lib.hid (HO8.out.below hbY)
        have HAX := Lib.hid (HA8.out.below hbY)
        have hzX := hbY.size
        have HLX := Lib.hid (HL8.out.trans (hbY.mono HL8.out.size))
        have HSX := Lib.hid (HS8.out.trans (Same.of_all hbY))
        have HNX' := Lib.hid (HN8.out.trans (Nocs.of_below hbY))
        have hLY := Lib.hid hlY
        have hSX : X.cell? ⟨W.heap.size, 0, none⟩ = some (.int .i64 f) := x0_X
        clear hy hq9 hlY hbY
        go_wp2_with fail
        refine hK.out _ _ hSX (fun hHeld => ?_)
        clear hK K
        (try simp only [Act.put, List.setIfInBounds_toArray, List.set_cons_zero, List.set_cons_succ])
        refine wpAnyH_ready (rs := [0]) (by kernel_rfl) (by simp) ?_
        refine AllReadyH.cons rfl (fun K hK => ?_) AllReadyH.nil
        go_simp
        refine hK.out _ _ hSX (fun hHeld => ?_)
        clear hK K
        (try simp only [Act.put, List.setIfInBounds_toArray, List.set_cons_zero, List.set_cons_succ])
        refine wpAnyH_ready (rs := [7]) (by kernel_rfl) (by simp) ?_
        refine AllReadyH.cons rfl (fun K hK => ?_) AllReadyH.nil
        rw [if_pos (by kernel_rfl)]
        refine op_append X (.tmp 28) (.tmp 34) rfl w1.heap.size v8 (acc) rfl HOX.out AY cY X.heap.size (nB false (f - al)) rfl (nB_pos _) hLY.out (by have := nB_le (f - al); have := nB_le (f - al); (try simp only [List.length_append]); omega) (by omega) ?_
        intro v9 Z ho9 hg9 hk9
        have HO9z := Lib.hid ho9
        have HbZ := Lib.hid (Boxed.kept HBX.out hg9 (HOX.out.no_box HBX.out (by decide)))
        have HXZ := Lib.hid (show SpAt Z W.heap.size ⟨f, t, a, A', c'⟩ from (hg9.block _ HXX.out.lt (HOX.out.no_span HXX.out)).trans HXX.out)
        have HAZ := Lib.hid (HAX.out.kept hg9 (off_apart HO3'.out HF8.out))
        have HF9 := Lib.hid (HF8.out.next (show W3.heap.size ≤ X.heap.size by omega) hk9)
        have HLZ := Lib.hid (HLX.out.grown hg9 HLX.out.size (fun k e => by have := (HOX.out.lt k e).1; omega))
        have HSZ := Lib.hid (same_off HSX.out hg9 (fun k e => by have h1 := (HOX.out.lt k e).1; rcases HW8.out k e with h | h; exact .inr (fun q => by (try dsimp only at q); omega); exact .inl h))
        have HNZ := Lib.hid (HNX'.out.trans (Nocs.of_grown hg9 HOX.out.cells7))
        have HW9 := Lib.hid (HW8.out.next (show W.heap.size ≤ X.heap.size by omega) hk9)
        have hzZ := hg9.size
        have x0_Z := HXZ.out.fr
        have x1_Z := HXZ.out.to
        dsimp only at x0_Z x1_Z
        have bc_Z := HbZ.out.cell
        have bf_Z := HbZ.out.frozen
        have hSZ : Z.cell? ⟨W.heap.size, 0, none⟩ = some (.int .i64 f) := x0_Z
        refine hK.out _ _ hSZ (fun hHeld => ?_)
        clear hK K
        (try simp only [Act.put, List.setIfInBounds_toArray])
        refine wpAnyH_ready (rs := [8]) (by kernel_rfl) (by simp) ?_
        refine AllReadyH.cons rfl (fun K hK => ?_) AllReadyH.nil
        obtain ⟨A9, n9, c9, e9, hn9, _⟩ := ho9.formN
        subst e9
        go_simp
        refine hK.out _ _ (((World.cell?_of_block (Below.heap_setCell Z ⟨w2.heap.size, 0, none⟩ _ W.heap.size (by dsimp only; omega))).trans x0_Z)) (fun _ => ?_)
        clear hK K
        (try simp only [Act.put, List.setIfInBounds_toArray, List.set_cons_zero, List.set_cons_succ])
        refine wpAnyH_done (by kernel_rfl) ?_ _
        obtain ⟨W9, hW9⟩ : ∃ W9, Z.setCell ⟨w2.heap.size, 0, none⟩ (.slice A9 n9 c9) = W9 := ⟨_, rfl⟩
        have HX9 := Lib.hid (show SpAt (Z.setCell ⟨w2.heap.size, 0, none⟩ (.slice A9 n9 c9)) W.heap.size ⟨f, t, a, A', c'⟩ from (Below.heap_setCell Z ⟨w2.heap.size, 0, none⟩ (.slice A9 n9 c9) W.heap.size (by dsimp only; omega)).trans HXZ.out)
        have Hb9 := Lib.hid (Boxed.set (.slice A9 n9 c9) HbZ.out)
        have HO9 := Lib.hid (HO9z.out.kept (w' := Z.setCell ⟨w2.heap.size, 0, none⟩ (.slice A9 n9 c9)) (grownBy_setCell' _ _ _) (.inr (fun e => (HO9z.out.no_box HbZ.out (by decide)) e.symm)))
        have HA9 := Lib.hid (HAZ.out.kept (w' := Z.setCell ⟨w2.heap.size, 0, none⟩ (.slice A9 n9 c9)) (grownBy_setCell' _ _ _) (.inr (fun e => (HAZ.out.no_box HbZ.out (by decide)) e.symm)))
        have HL9 := Lib.hid (HLZ.out.setCell (p := ⟨w2.heap.size, 0, none⟩) (by dsimp only; omega) (.slice A9 n9 c9))
        have HS9 := Lib.hid (HSZ.out.trans (same_set (K := fun k => k < w.heap.size ∨ Wr.heap.size ≤ k) Z ⟨w2.heap.size, 0, none⟩ (.slice A9 n9 c9) (fun q => by dsimp only at q; omega)))
        have HN9 := Lib.hid (HNZ.out.trans (nocs_set (B := w3.heap.size) Z ⟨w2.heap.size, 0, none⟩ (.slice A9 n9 c9)))
        have hz9 : W3.heap.size ≤ (Z.setCell ⟨w2.heap.size, 0, none⟩ (.slice A9 n9 c9)).heap.size := by rw [World.size_setCell]; omega
        rw [hW9] at HX9 Hb9 HO9 HA9 HL9 HS9 HN9 hz9
        try rw [hW9]
        have x0_9 := HX9.out.fr
        have x1_9 := HX9.out.to
        have bc_9 := Hb9.out.cell
        have bf_9 := Hb9.out.frozen
        dsimp only at x0_9 x1_9
        clear hW9 HXX HBX HOX HAX HLX HSX HNX' hLY HXZ HbZ HAZ HLZ HSZ HNZ HO9z ho9 hg9 hk9 hzX hzZ x0_X x1_X bc_X bf_X x0_Z x1_Z bc_Z bf_Z
        gi_wp2
        have hS9 : W9.drew.cell? ⟨W.heap.size, 0, none⟩ = some (.int .i64 f) ∧ W9.drew.cell? ⟨W.heap.size, 1, none⟩ = some (.int .i64 t) := ⟨x0_9, x1_9⟩
        refine region_held_in (S := fun W9 => W9.cell? ⟨W.heap.size, 0, none⟩ = some (.int .i64 f) ∧ W9.cell? ⟨W.heap.size, 1, none⟩ = some (.int .i64 t)) hmix (by kernel_rfl) (fun ⟨_, _, h⟩ => h) hS9 (fun hHeld => ?_)
        refine heldTake (i := 1) (d := some 37) (v := ?_) rfl rfl (by kernel_rfl) (by kernel_rfl) (by kernel_rfl) (fun _ _ _ h => h) (by kernel_rfl) ?hyq37_12 (by assumption) ?restq37_12
        case hyq37_12 => (intro W9 hSw; (try dsimp only at hSw); go_simp; try (with_reducible rfl))
        (try simp only [Act.put, List.setIfInBounds_toArray, List.set_cons_zero, List.set_cons_succ])
        refine heldTake (i := 2) (d := some 38) (v := ?_) rfl rfl (by kernel_rfl) (by kernel_rfl) (by kernel_rfl) (fun _ _ _ h => h) (by kernel_rfl) ?hyq38_13 (by assumption) ?restq38_13
        case hyq38_13 => (intro W9 hSw; (try dsimp only at hSw); go_simp; try (with_reducible rfl))
        (try simp only [Act.put, List.setIfInBounds_toArray, List.set_cons_zero, List.set_cons_succ])
        refine heldTake (i := 3) (d := some 39) (v := ?_) rfl rfl (by kernel_rfl) (by kernel_rfl) (by kernel_rfl) (fun _ _ _ h => h) (by kernel_rfl) ?hyq39_14 (by assumption) ?restq39_14
        case hyq39_14 => (intro W9 hSw; (try dsimp only at hSw); go_simp; try (with_reducible rfl))
        (try simp only [Act.put, List.setIfInBounds_toArray, List.set_cons_zero, List.set_cons_succ])
        refine heldTake (i := 4) (d := some 40) (v := ?_) rfl rfl (by kernel_rfl) (by kernel_rfl) (by kernel_rfl) (fun _ _ _ h => h) (by kernel_rfl) ?hyq40_15 (by assumption) ?restq40_15
        case hyq40_15 => (intro W9 hSw; (try dsimp only at hSw); go_simp; try (with_reducible rfl))
        (try simp only [Act.put, List.setIfInBounds_toArray, List.set_cons_zero, List.set_cons_succ])
        refine heldTake (i := 5) (d := some 41) (v := ?_) rfl rfl (by kernel_rfl) (by kernel_rfl) (by kernel_rfl) (fun _ _ _ h => h) (by kernel_rfl) ?hyq41_16 (by assumption) ?restq41_16
        case hyq41_16 => (intro W9 hSw; (try dsimp only at hSw); go_simp; try (with_reducible rfl))
        (try simp only [Act.put, List.setIfInBounds_toArray, List.set_cons_zero, List.set_cons_succ])
        refine heldTake (i := 6) (d := some 42) (v := ?_) rfl rfl (by kernel_rfl) (by kernel_rfl) (by kernel_rfl) (fun _ _ _ h => h) (by kernel_rfl) ?hyq42_17 (by assumption) ?restq42_17
        case hyq42_17 => (intro W9 hSw; (try dsimp only at hSw); go_simp; try (with_reducible rfl))
        (try simp only [Act.put, List.setIfInBounds_toArray, List.set_cons_zero, List.set_cons_succ])
        refine wpAnyH_ready (rs := [0, 7]) (by kernel_rfl) (by simp) ?_
        refine AllReadyH.cons rfl (fun K hK => ?_) (AllReadyH.cons rfl (fun K hK => ?_) AllReadyH.nil)
        · go_simp
          refine hK.out _ _ hHeld (fun hHeld => ?_)
          clear hK K
          (try simp only [Act.put, List.setIfInBounds_toArray, List.set_cons_zero, List.set_cons_succ])
          refine wpAnyH_ready (rs := [7]) (by kernel_rfl) (by simp) ?_
          refine AllReadyH.cons rfl (fun K hK => ?_) AllReadyH.nil
          go_simp
          go_at_call 50
          refine (putU_0 (t - f) _ (by omega) (by omega)).mono ?_
          rintro e9 X ⟨yv, rfl, hy, hq9⟩
          obtain ⟨AY, cY, eY, _, _, hlY⟩ := hy.form
          subst eY
          have hbY : Below W9.heap.size W9 X := ⟨hq9.os, hq9.tape, hq9.output, hq9.size, hq9.block⟩
          have HXX := Lib.hid (HX9.out.below hbY HX9.out.lt)
          have x0_X := HXX.out.fr
          have x1_X := HXX.out.to
          dsimp only at x0_X x1_X
          have HBX := Lib.hid (Boxed.below Hb9.out hbY Hb9.out.lt)
          have bc_X := HBX.out.cell
          have bf_X := HBX.out.frozen
          have HOX := Lib.hid (HO9.out.below hbY)
          have HAX := Lib.hid (HA9.out.below hbY)
          have hzX := hbY.size
          have HLX := Lib.hid (HL9.out.trans (hbY.mono HL9.out.size))
          have HSX := Lib.hid (HS9.out.trans (Same.of_all hbY))
          have HNX' := Lib.hid (HN9.out.trans (Nocs.of_below hbY))
          have hLY := Lib.hid hlY
          have hSX : X.cell? ⟨W.heap.size, 0, none⟩ = some (.int .i64 f) ∧ X.cell? ⟨W.heap.size, 1, none⟩ = some (.int .i64 t) := ⟨x0_X, x1_X⟩
          clear hy hq9 hlY hbY
          go_wp2_with fail
          refine hK.out _ _ hSX (fun hHeld => ?_)
          clear hK K
          (try simp only [Act.put, List.setIfInBounds_toArray, List.set_cons_zero, List.set_cons_succ])
          refine wpAnyH_ready (rs := [8]) (by kernel_rfl) (by simp) ?_
          refine AllReadyH.cons rfl (fun K hK => ?_) AllReadyH.nil
          rw [if_pos (by kernel_rfl)]
          refine op_append X (.tmp 36) (.tmp 43) rfl w1.heap.size (.slice A9 n9 c9) (acc ++ nB false (f - al)) rfl HOX.out AY cY X.heap.size (nB false (t - f)) rfl (nB_pos _) hLY.out (by have := nB_le (t - f); have := nB_le (f - al); (try simp only [List.length_append]); omega) (by omega) ?_
          intro v10 Z ho9 hg9 hk9
          have HO10z := Lib.hid ho9
          have HbZ := Lib.hid (Boxed.kept HBX.out hg9 (HOX.out.no_box HBX.out (by decide)))
          have HXZ := Lib.hid (show SpAt Z W.heap.size ⟨f, t, a, A', c'⟩ from (hg9.block _ HXX.out.lt (HOX.out.no_span HXX.out)).trans HXX.out)
          have HAZ := Lib.hid (HAX.out.kept hg9 (off_apart HO3'.out HF9.out))
          have HF10 := Lib.hid (HF9.out.next (show W3.heap.size ≤ X.heap.size by omega) hk9)
          have HLZ := Lib.hid (HLX.out.grown hg9 HLX.out.size (fun k e => by have := (HOX.out.lt k e).1; omega))
          have HSZ := Lib.hid (same_off HSX.out hg9 (fun k e => by have h1 := (HOX.out.lt k e).1; rcases HW9.out k e with h | h; exact .inr (fun q => by (try dsimp only at q); omega); exact .inl h))
          have HNZ := Lib.hid (HNX'.out.trans (Nocs.of_grown hg9 HOX.out.cells7))
          have HW10 := Lib.hid (HW9.out.next (show W.heap.size ≤ X.heap.size by omega) hk9)
          have hzZ := hg9.size
          have x0_Z := HXZ.out.fr
          have x1_Z := HXZ.out.to
          dsimp only at x0_Z x1_Z
          have bc_Z := HbZ.out.cell
          have bf_Z := HbZ.out.frozen
          have hSZ : Z.cell? ⟨W.heap.size, 0, none⟩ = some (.int .i64 f) ∧ Z.cell? ⟨W.heap.size, 1, none⟩ = some (.int .i64 t) := ⟨x0_Z, x1_Z⟩
          refine hK.out _ _ hSZ (fun hHeld => ?_)
          clear hK K
          (try simp only [Act.put, List.setIfInBounds_toArray])
          refine wpAnyH_ready (rs := [9]) (by kernel_rfl) (by simp) ?_
          refine AllReadyH.cons rfl (fun K hK => ?_) AllReadyH.nil
          obtain ⟨A10, n10, c10, e9, hn10, _⟩ := ho9.formN
          subst e9
          go_simp
          refine hK.out _ _ (⟨((World.cell?_of_block (Below.heap_setCell Z ⟨w2.heap.size, 0, none⟩ _ W.heap.size (by dsimp only; omega))).trans x0_Z), ((World.cell?_of_block (Below.heap_setCell Z ⟨w2.heap.size, 0, none⟩ _ W.heap.size (by dsimp only; omega))).trans x1_Z)⟩) (fun _ => ?_)
          clear hK K
          (try simp only [Act.put, List.setIfInBounds_toArray, List.set_cons_zero, List.set_cons_succ])
          refine wpAnyH_done (by kernel_rfl) ?_ _
          obtain ⟨W10, hW10⟩ : ∃ W10, Z.setCell ⟨w2.heap.size, 0, none⟩ (.slice A10 n10 c10) = W10 := ⟨_, rfl⟩
          have HX10 := Lib.hid (show SpAt (Z.setCell ⟨w2.heap.size, 0, none⟩ (.slice A10 n10 c10)) W.heap.size ⟨f, t, a, A', c'⟩ from (Below.heap_setCell Z ⟨w2.heap.size, 0, none⟩ (.slice A10 n10 c10) W.heap.size (by dsimp only; omega)).trans HXZ.out)
          have Hb10 := Lib.hid (Boxed.set (.slice A10 n10 c10) HbZ.out)
          have HO10 := Lib.hid (HO10z.out.kept (w' := Z.setCell ⟨w2.heap.size, 0, none⟩ (.slice A10 n10 c10)) (grownBy_setCell' _ _ _) (.inr (fun e => (HO10z.out.no_box HbZ.out (by decide)) e.symm)))
          have HA10 := Lib.hid (HAZ.out.kept (w' := Z.setCell ⟨w2.heap.size, 0, none⟩ (.slice A10 n10 c10)) (grownBy_setCell' _ _ _) (.inr (fun e => (HAZ.out.no_box HbZ.out (by decide)) e.symm)))
          have HL10 := Lib.hid (HLZ.out.setCell (p := ⟨w2.heap.size, 0, none⟩) (by dsimp only; omega) (.slice A10 n10 c10))
          have HS10 := Lib.hid (HSZ.out.trans (same_set (K := fun k => k < w.heap.size ∨ Wr.heap.size ≤ k) Z ⟨w2.heap.size, 0, none⟩ (.slice A10 n10 c10) (fun q => by dsimp only at q; omega)))
          have HN10 := Lib.hid (HNZ.out.trans (nocs_set (B := w3.heap.size) Z ⟨w2.heap.size, 0, none⟩ (.slice A10 n10 c10)))
          have hz10 : W3.heap.size ≤ (Z.setCell ⟨w2.heap.size, 0, none⟩ (.slice A10 n10 c10)).heap.size := by rw [World.size_setCell]; omega
          rw [hW10] at HX10 Hb10 HO10 HA10 HL10 HS10 HN10 hz10
          try rw [hW10]
          have x0_10 := HX10.out.fr
          have x1_10 := HX10.out.to
          have bc_10 := Hb10.out.cell
          have bf_10 := Hb10.out.frozen
          dsimp only at x0_10 x1_10
          clear hW10 HXX HBX HOX HAX HLX HSX HNX' hLY HXZ HbZ HAZ HLZ HSZ HNZ HO10z ho9 hg9 hk9 hzX hzZ x0_X x1_X bc_X bf_X x0_Z x1_Z bc_Z bf_Z
          obtain ⟨_, _, _, _, _, hA3⟩ := HA10.out.formN
          have hA3' : Lies W10 W10.heap.size A3 (ownC a) := by obtain ⟨A, c, e, _, _, h⟩ := HA10.out.form; injection e with e1 _ _; rw [e1]; exact h
          have hA4 := Lib.hid hA3'
          clear hA3 hA3'
          gi_wp2_with (gi_at_builtin
                       refine app_sliceIn _ rfl (.tmp 45) (.tmp 46) rfl w1.heap.size (.slice A10 n10 c10) ((acc ++ nB false (f - al)) ++ nB false (t - f)) rfl HO10.out A3 c3 W10.heap.size (ownC a) rfl (by omega) hA4.out (by have := nB_le (f - al); have := nB_le (t - f); have := right_len hok5; simp only [List.length_append]; omega) (by omega) ?_
                       intro v11 Z ho11 hg11 hk11
                       have hbZ := Boxed.kept Hb10.out hg11 (HO10.out.no_box Hb10.out (by decide))
                       have bcZ := hbZ.cell
                       have bfZ := hbZ.frozen
                       have HBZ := Lib.hid hbZ
                       have HOZ := Lib.hid ho11
                       have HGZ := Lib.hid hg11
                       obtain ⟨A11, n11, c11, e11, _⟩ := ho11.formN
                       subst e11
                       clear hbZ ho11 hg11 hk11)
          refine ⟨(by rw [← hz3]; exact (HN10.out.trans (Nocs.of_grown HGZ.out HO10.out.cells7)).trans (nocs_set _ _ _)), ?_, .slice A11 n11 c11, ⟨Boxed.set _ HBZ.out, ?_⟩, ?_⟩
          · exact (same_off HS10.out HGZ.out (fun k e => by have h1 := (HO10.out.lt k e).1; rcases HW10.out k e with h | h; exact .inr (fun q => by (try dsimp only at q); omega); exact .inl h)).trans (same_set _ _ _ (fun q => by (try dsimp only at q); omega))
          · rw [HNX.out]
            exact HOZ.out.kept (grownBy_setCell' _ _ _) (.inr (fun e => (HOZ.out.no_box HBZ.out (by decide)) e.symm))
          · exact (HL10.out.grown HGZ.out HL10.out.size (fun k e => by have := (HO10.out.lt k e).1; omega)).setCell (p := ⟨w2.heap.size, 0, none⟩) (by dsimp only; omega) _
        · go_simp
          go_at_call 50
          refine (putU_0 (t - f) _ (by omega) (by omega)).mono ?_
          rintro e9 X ⟨yv, rfl, hy, hq9⟩
          obtain ⟨AY, cY, eY, _, _, hlY⟩ := hy.form
          subst eY
          have hbY : Below W9.heap.size W9 X := ⟨hq9.os, hq9.tape, hq9.output, hq9.size, hq9.block⟩
          have HXX := Lib.hid (HX9.out.below hbY HX9.out.lt)
          have x0_X := HXX.out.fr
          have x1_X := HXX.out.to
          dsimp only at x0_X x1_X
          have HBX := Lib.hid (Boxed.below Hb9.out hbY Hb9.out.lt)
          have bc_X := HBX.out.cell
          have bf_X := HBX.out.frozen
          have HOX := Lib.hid (HO9.out.below hbY)
          have HAX := Lib.hid (HA9.out.below hbY)
          have hzX := hbY.size
          have HLX := Lib.hid (HL9.out.trans (hbY.mono HL9.out.size))
          have HSX := Lib.hid (HS9.out.trans (Same.of_all hbY))
          have HNX' := Lib.hid (HN9.out.trans (Nocs.of_below hbY))
          have hLY := Lib.hid hlY
          have hSX : X.cell? ⟨W.heap.size, 0, none⟩ = some (.int .i64 f) ∧ X.cell? ⟨W.heap.size, 1, none⟩ = some (.int .i64 t) := ⟨x0_X, x1_X⟩
          clear hy hq9 hlY hbY
          go_wp2_with fail
          refine hK.out _ _ hSX (fun hHeld => ?_)
          clear hK K
          (try simp only [Act.put, List.setIfInBounds_toArray, List.set_cons_zero, List.set_cons_succ])
          refine wpAnyH_ready (rs := [0]) (by kernel_rfl) (by simp) ?_
          refine AllReadyH.cons rfl (fun K hK => ?_) AllReadyH.nil
          go_simp
          refine hK.out _ _ hSX (fun hHeld => ?_)
          clear hK K
          (try simp only [Act.put, List.setIfInBounds_toArray, List.set_cons_zero, List.set_cons_succ])
          refine wpAnyH_ready (rs := [8]) (by kernel_rfl) (by simp) ?_
          refine AllReadyH.cons rfl (fun K hK => ?_) AllReadyH.nil
          rw [if_pos (by kernel_rfl)]
          refine op_append X (.tmp 36) (.tmp 43) rfl w1.heap.size (.slice A9 n9 c9) (acc ++ nB false (f - al)) rfl HOX.out AY cY X.heap.size (nB false (t - f)) rfl (nB_pos _) hLY.out (by have := nB_le (t - f); have := nB_le (f - al); (try simp only [List.length_append]); omega) (by omega) ?_
          intro v10 Z ho9 hg9 hk9
          have HO10z := Lib.hid ho9
          have HbZ := Lib.hid (Boxed.kept HBX.out hg9 (HOX.out.no_box HBX.out (by decide)))
          have HXZ := Lib.hid (show SpAt Z W.heap.size ⟨f, t, a, A', c'⟩ from (hg9.block _ HXX.out.lt (HOX.out.no_span HXX.out)).trans HXX.out)
          have HAZ := Lib.hid (HAX.out.kept hg9 (off_apart HO3'.out HF9.out))
          have HF10 := Lib.hid (HF9.out.next (show W3.heap.size ≤ X.heap.size by omega) hk9)
          have HLZ := Lib.hid (HLX.out.grown hg9 HLX.out.size (fun k e => by have := (HOX.out.lt k e).1; omega))
          have HSZ := Lib.hid (same_off HSX.out hg9 (fun k e => by have h1 := (HOX.out.lt k e).1; rcases HW9.out k e with h | h; exact .inr (fun q => by (try dsimp only at q); omega); exact .inl h))
          have HNZ := Lib.hid (HNX'.out.trans (Nocs.of_grown hg9 HOX.out.cells7))
          have HW10 := Lib.hid (HW9.out.next (show W.heap.size ≤ X.heap.size by omega) hk9)
          have hzZ := hg9.size
          have x0_Z := HXZ.out.fr
          have x1_Z := HXZ.out.to
          dsimp only at x0_Z x1_Z
          have bc_Z := HbZ.out.cell
          have bf_Z := HbZ.out.frozen
          have hSZ : Z.cell? ⟨W.heap.size, 0, none⟩ = some (.int .i64 f) ∧ Z.cell? ⟨W.heap.size, 1, none⟩ = some (.int .i64 t) := ⟨x0_Z, x1_Z⟩
          refine hK.out _ _ hSZ (fun hHeld => ?_)
          clear hK K
          (try simp only [Act.put, List.setIfInBounds_toArray])
          refine wpAnyH_ready (rs := [9]) (by kernel_rfl) (by simp) ?_
          refine AllReadyH.cons rfl (fun K hK => ?_) AllReadyH.nil
          obtain ⟨A10, n10, c10, e9, hn10, _⟩ := ho9.formN
          subst e9
          go_simp
          refine hK.out _ _ (⟨((World.cell?_of_block (Below.heap_setCell Z ⟨w2.heap.size, 0, none⟩ _ W.heap.size (by dsimp only; omega))).trans x0_Z), ((World.cell?_of_block (Below.heap_setCell Z ⟨w2.heap.size, 0, none⟩ _ W.heap.size (by dsimp only; omega))).trans x1_Z)⟩) (fun _ => ?_)
          clear hK K
          (try simp only [Act.put, List.setIfInBounds_toArray, List.set_cons_zero, List.set_cons_succ])
          refine wpAnyH_done (by kernel_rfl) ?_ _
          obtain ⟨W10, hW10⟩ : ∃ W10, Z.setCell ⟨w2.heap.size, 0, none⟩ (.slice A10 n10 c10) = W10 := ⟨_, rfl⟩
          have HX10 := Lib.hid (show SpAt (Z.setCell ⟨w2.heap.size, 0, none⟩ (.slice A10 n10 c10)) W.heap.size ⟨f, t, a, A', c'⟩ from (Below.heap_setCell Z ⟨w2.heap.size, 0, none⟩ (.slice A10 n10 c10) W.heap.size (by dsimp only; omega)).trans HXZ.out)
          have Hb10 := Lib.hid (Boxed.set (.slice A10 n10 c10) HbZ.out)
          have HO10 := Lib.hid (HO10z.out.kept (w' := Z.setCell ⟨w2.heap.size, 0, none⟩ (.slice A10 n10 c10)) (grownBy_setCell' _ _ _) (.inr (fun e => (HO10z.out.no_box HbZ.out (by decide)) e.symm)))
          have HA10 := Lib.hid (HAZ.out.kept (w' := Z.setCell ⟨w2.heap.size, 0, none⟩ (.slice A10 n10 c10)) (grownBy_setCell' _ _ _) (.inr (fun e => (HAZ.out.no_box HbZ.out (by decide)) e.symm)))
          have HL10 := Lib.hid (HLZ.out.setCell (p := ⟨w2.heap.size, 0, none⟩) (by dsimp only; omega) (.slice A10 n10 c10))
          have HS10 := Lib.hid (HSZ.out.trans (same_set (K := fun k => k < w.heap.size ∨ Wr.heap.size ≤ k) Z ⟨w2.heap.size, 0, none⟩ (.slice A10 n10 c10) (fun q => by dsimp only at q; omega)))
          have HN10 := Lib.hid (HNZ.out.trans (nocs_set (B := w3.heap.size) Z ⟨w2.heap.size, 0, none⟩ (.slice A10 n10 c10)))
          have hz10 : W3.heap.size ≤ (Z.setCell ⟨w2.heap.size, 0, none⟩ (.slice A10 n10 c10)).heap.size := by rw [World.size_setCell]; omega
          rw [hW10] at HX10 Hb10 HO10 HA10 HL10 HS10 HN10 hz10
          try rw [hW10]
          have x0_10 := HX10.out.fr
          have x1_10 := HX10.out.to
          have bc_10 := Hb10.out.cell
          have bf_10 := Hb10.out.frozen
          dsimp only at x0_10 x1_10
          clear hW10 HXX HBX HOX HAX HLX HSX HNX' hLY HXZ HbZ HAZ HLZ HSZ HNZ HO10z ho9 hg9 hk9 hzX hzZ x0_X x1_X bc_X bf_X x0_Z x1_Z bc_Z bf_Z
          obtain ⟨_, _, _, _, _, hA3⟩ := HA10.out.formN
          have hA3' : Lies W10 W10.heap.size A3 (ownC a) := by obtain ⟨A, c, e, _, _, h⟩ := HA10.out.form; injection e with e1 _ _; rw [e1]; exact h
          have hA4 := Lib.hid hA3'
          clear hA3 hA3'
          gi_wp2_with (gi_at_builtin
                       refine app_sliceIn _ rfl (.tmp 45) (.tmp 46) rfl w1.heap.size (.slice A10 n10 c10) ((acc ++ nB false (f - al)) ++ nB false (t - f)) rfl HO10.out A3 c3 W10.heap.size (ownC a) rfl (by omega) hA4.out (by have := nB_le (f - al); have := nB_le (t - f); have := right_len hok5; simp only [List.length_append]; omega) (by omega) ?_
                       intro v11 Z ho11 hg11 hk11
                       have hbZ := Boxed.kept Hb10.out hg11 (HO10.out.no_box Hb10.out (by decide))
                       have bcZ := hbZ.cell
                       have bfZ := hbZ.frozen
                       have HBZ := Lib.hid hbZ
                       have HOZ := Lib.hid ho11
                       have HGZ := Lib.hid hg11
                       obtain ⟨A11, n11, c11, e11, _⟩ := ho11.formN
                       subst e11
                       clear hbZ ho11 hg11 hk11)
          refine ⟨(by rw [← hz3]; exact (HN10.out.trans (Nocs.of_grown HGZ.out HO10.out.cells7)).trans (nocs_set _ _ _)), ?_, .slice A11 n11 c11, ⟨Boxed.set _ HBZ.out, ?_⟩, ?_⟩
          · exact (same_off HS10.out HGZ.out (fun k e => by have h1 := (HO10.out.lt k e).1; rcases HW10.out k e with h | h; exact .inr (fun q => by (try dsimp only at q); omega); exact .inl h)).trans (same_set _ _ _ (fun q => by (try dsimp only at q); omega))
          · rw [HNX.out]
            exact HOZ.out.kept (grownBy_setCell' _ _ _) (.inr (fun e => (HOZ.out.no_box HBZ.out (by decide)) e.symm))
          · exact (HL10.out.grown HGZ.out HL10.out.size (fun k e => by have := (HO10.out.lt k e).1; omega)).setCell (p := ⟨w2.heap.size, 0, none⟩) (by dsimp only; omega) _
    case done =>
      rintro D xs W hD rfl ⟨v, ⟨hbr, ho⟩, hbel⟩ hK
      rw [accS_all] at ho
      have hol := ownS_len HRT.out
      have hbc := hbr.cell
      have hwl := hbel.size
      have HK1 := Lib.hid hK
      have HBE := Lib.hid hbel
      have hDl : D < W.heap.size := (Array.getElem?_eq_some_iff.1 hK).1
      obtain ⟨A3, n3, c3, rfl, hn3, _, ha3, hl3'⟩ := ho.formN
      have hb2 := below_lnew W (.cells #[.slice B b.length d, .slice A3 n3 c3] 22)
      have HKC := Lib.hid (concat_n W.heap.size B A3 d c3 n3 b (ownS (ps.map Ps.sp)) (W.alloc (.cells #[.slice B b.length d, .slice A3 n3 c3] 22)) hn3.out (heap_alloc_new _ _) hc ha3 (((HB.out.below hbel).below (hb2.mono (by omega))).more (by simp; omega)) ((hl3'.alloc (Nat.le_refl _) _).more (by simp)) hbn (by omega))
      have HBB := Lib.hid (hbel.trans (hb2.mono hwl))
      have HKA := Lib.hid ((hb2.block D hDl).trans hK)
      clear ha3 hl3' hb2 ho hbr hbel hK
      go_wp2_with fail
      refine HKC.out.mono ?_
      rintro e w5 ⟨v5, rfl, ho5, hb5⟩
      have hz5 : W.heap.size + 1 ≤ w5.heap.size := by have := hb5.size; simpa using this
      have HO5 := Lib.hid ho5
      have HB5 := Lib.hid (HBB.out.trans (hb5.mono (by simp; omega)))
      have HK5 := Lib.hid ((hb5.block D (by simp; omega)).trans HKA.out)
      clear ho5 hb5
      go_wp2_with fail
      exact ret_mark HK5.out (results_tmp2 rfl _ _ _) ⟨v5, by rw [HE.out.1]; rfl, by rw [HE.out.2]; exact (HO5.out.put7 _ HK5.out rfl).base (by simp; omega), below_put HB5.out _ (by omega)⟩
    case stop =>
      rintro D c pre W hD h hK
      exact h.elim
end Go.Proofs.YtbkfkdiadeaooaaGreat
