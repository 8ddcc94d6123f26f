/-
  Contract of unwind.caller, of a view whose kept registers are known.
-/
import Derived.Test.YtpbopehhalicjaaU8T
namespace Go.Proofs.Ytpbopehhalicjaa
open Go Go.RowKit

theorem LocAt.other8 {w : World} {g : Nat} {r : Lc} (h : LocAt w g r) {p : Addr} (hp : g ≠ p.block) (u : Value) : LocAt (w.setCell p u) g r := (Below.heap_setCell w p u g hp).trans h
/-- in the midst of making the caller's view -/
structure Cal (w W : World) (p : Ps) (V : Vw) (gK gR : Nat) (K : List Bool) (R : List Int) (x3 : Value) : Prop where
  hu : SpAt W w.heap.size p
  hv : ViewAt W (w.heap.size + 1) V
  hz : CAt W (w.heap.size + 2) 34 [.slice (some ⟨gK, 0, none⟩) 16 16, .slice (some ⟨gR, 0, none⟩) 16 16, .int .i64 0, x3]
  hk : CAt W gK 4 (K.map bV)
  hr : CAt W gR 2 (R.map n7)
  hb : Below w.heap.size w W
  h1 : w.heap.size + 2 < gK
  h2 : w.heap.size + 2 < gR
  h3 : gK ≠ gR
section
variable {w W W' : World} {p : Ps} {V : Vw} {gK gR : Nat} {K : List Bool} {R : List Int} {x3 : Value}
theorem Cal.below (h : Cal w W p V gK gR K R x3) (hb : Below W.heap.size W W') : Cal w W' p V gK gR K R x3 :=
  ⟨h.hu.below hb h.hu.lt, h.hv.below hb h.hv.lt, h.hz.below hb h.hz.lt, h.hk.below hb h.hk.lt, h.hr.below hb h.hr.lt, h.hb.trans (hb.mono h.hb.size), h.h1, h.h2, h.h3⟩
theorem Cal.drew (h : Cal w W p V gK gR K R x3) : Cal w W.drew p V gK gR K R x3 := ⟨h.hu, h.hv, h.hz, h.hk, h.hr, h.hb.drew, h.h1, h.h2, h.h3⟩
theorem Cal.z0 (h : Cal w W p V gK gR K R x3) : W.cell? ⟨w.heap.size + 2, 0, none⟩ = some (.slice (some ⟨gK, 0, none⟩) 16 16) := by simpa using h.hz.cell (j := 0) (by simp)
theorem Cal.z1 (h : Cal w W p V gK gR K R x3) : W.cell? ⟨w.heap.size + 2, 1, none⟩ = some (.slice (some ⟨gR, 0, none⟩) 16 16) := by simpa using h.hz.cell (j := 1) (by simp)
theorem Cal.setK (h : Cal w W p V gK gR K R x3) (k : Nat) (b : Bool) : Cal w (W.setCell ⟨gK, k, none⟩ (.bool b)) p V gK gR (K.set k b) R x3 := by
  have h1 := h.h1
  refine ⟨h.hu.other8 (by dsimp only; omega) _, h.hv.other (by dsimp only; omega) _, h.hz.other (by dsimp only; omega) _, ?_, h.hr.other h.h3.symm _, h.hb.setCell (p := ⟨gK, k, none⟩) (by dsimp only; omega) _, h.h1, h.h2, h.h3⟩
  have := h.hk.set k (.bool b)
  rw [List.map_set]
  exact this
theorem Cal.setR (h : Cal w W p V gK gR K R x3) (k : Nat) (b : Int) : Cal w (W.setCell ⟨gR, k, none⟩ (.int .i64 b)) p V gK gR K (R.set k b) x3 := by
  have h2 := h.h2
  refine ⟨h.hu.other8 (by dsimp only; omega) _, h.hv.other (by dsimp only; omega) _, h.hz.other (by dsimp only; omega) _, h.hk.other h.h3 _, ?_, h.hb.setCell (p := ⟨gR, k, none⟩) (by dsimp only; omega) _, h.h1, h.h2, h.h3⟩
  have := h.hr.set k (.int .i64 b)
  rw [List.map_set]
  exact this
end
/-- the registers behind the saved ones -/
def savF (Ws : List Int) (base : Int) (r : List Int) (x : Lc) : List Int := r.set x.k.toNat (Ws.getD (base + x.n).toNat 0)
def savR (Ws : List Int) (base : Int) (R : List Int) (a : List Lc) : List Int := a.foldl (savF Ws base) R
theorem savR_len (Ws : List Int) (base : Int) : ∀ (a : List Lc) (R : List Int), (savR Ws base R a).length = R.length
  | [], _ => rfl
  | x :: xs, R => by
    unfold savR
    rw [List.foldl_cons]
    have := savR_len Ws base xs (savF Ws base R x)
    unfold savR at this
    rw [this]
    simp [savF]
theorem savR_take {Ws : List Int} {base : Int} {R : List Int} {a : List Lc} {j : Nat} (hj : j < a.length) : savR Ws base R (a.take (j + 1)) = savF Ws base (savR Ws base R (a.take j)) a[j] := by
  unfold savR
  rw [← List.take_append_getElem hj, List.foldl_append]
  rfl
/-- what is known of the caller's registers -/
def callK : List Bool := List.replicate 6 false ++ (List.replicate 6 true ++ List.replicate 4 false)
theorem callK_of {K : List Bool} (hK : K.length = 16) (h : ∀ j (hj : j < 16), 6 ≤ j → j ≤ 11 → K[j]'(by omega) = true) : keptL false K = callK := by
  unfold keptL callK
  congr 2
  apply List.ext_getElem
  · simp [hK]
  · intro i h1 h2
    have hi : i < 6 := by simpa using h2
    simp only [List.getElem_take, List.getElem_drop, List.getElem_replicate]
    exact h (6 + i) (by omega) (by omega) (by omega)
theorem set_same {α : Type} {l : List α} {k : Nat} {x : α} (h : l[k]? = some x) : l.set k x = l := by
  apply List.ext_getElem?
  intro i
  rw [List.getElem?_set]
  by_cases e : k = i
  · subst e
    rw [if_pos rfl, h]
    obtain ⟨h1, h2⟩ := List.getElem?_eq_some_iff.1 h
    simp [h1]
  · rw [if_neg e]
theorem callK_set {k : Nat} (h1 : 6 ≤ k) (h2 : k ≤ 11) : callK.set k true = callK := set_same (by
  have : k = 6 ∨ k = 7 ∨ k = 8 ∨ k = 9 ∨ k = 10 ∨ k = 11 := by omega
  rcases this with rfl | rfl | rfl | rfl | rfl | rfl <;> rfl)
theorem callK_in {k : Nat} (h1 : 6 ≤ k) (h2 : k ≤ 11) (hk : k < callK.length) : callK[k] = true := by
  have : k = 6 ∨ k = 7 ∨ k = 8 ∨ k = 9 ∨ k = 10 ∨ k = 11 := by omega
  rcases this with rfl | rfl | rfl | rfl | rfl | rfl <;> rfl
theorem callK_no {k : Nat} (hk : k < 16) (h : callK[k]'hk = false) : k < 6 ∨ 12 ≤ k := by
  by_cases h1 : k < 6
  · exact .inl h1
  · by_cases h2 : 12 ≤ k
    · exact .inr h2
    · have : k = 6 ∨ k = 7 ∨ k = 8 ∨ k = 9 ∨ k = 10 ∨ k = 11 := by omega
      rcases this with rfl | rfl | rfl | rfl | rfl | rfl <;> cases h
theorem keptL_out {R : List Int} (hR : R.length = 16) {k : Nat} (hk : k < 16) (h : k < 6 ∨ 12 ≤ k) : (keptL 0 R)[k]? = some 0 := by
  unfold keptL
  rcases h with h | h
  · rw [List.getElem?_append_left (by simp; omega), List.getElem?_replicate, if_pos h]
  · rw [List.getElem?_append_right (by simp; omega), List.getElem?_append_right (by simp [hR]; omega), List.getElem?_replicate, if_pos (by simp [hR]; omega)]
theorem CAt.all4o {W : World} {g b : Nat} {e : TypeId} {cs : List Value} (h : CAt W g e cs) (hg : g ≠ b) (u0 u1 u2 u3 : Value) : CAt ((((W.setCell ⟨b, 0, none⟩ u0).setCell ⟨b, 1, none⟩ u1).setCell ⟨b, 2, none⟩ u2).setCell ⟨b, 3, none⟩ u3) g e cs :=
  (((h.other (p := ⟨b, 0, none⟩) hg u0).other (p := ⟨b, 1, none⟩) hg u1).other (p := ⟨b, 2, none⟩) hg u2).other (p := ⟨b, 3, none⟩) hg u3
def CalledR (V : Vw) (a : List Lc) (base : Int) (w : World) (e : Ending) (w' : World) : Prop :=
  ∃ V2 : Vw, e = .returned (.tuple #[.agg (vC V2), .bool true]) ∧ VL w' w'.heap.size V2 ∧ V2.K = callK.set 15 true ∧ V2.R = (savR V.W base (keptL 0 V.R) a).set 15 base ∧ V2.W = V.W ∧ Below w.heap.size w w' ∧ w.heap.size < V2.a1.block ∧ w.heap.size < V2.a2.block ∧ ∀ a, V2.A3 = some a → w.heap.size < a.block

set_option maxRecDepth 100000 in
set_option maxHeartbeats 8000000 in
theorem caller8_any (pf pt pu : Int) (pa : List Lc) (pA : Option Addr) (pc : Nat) (base : Int) (V : Vw) (w : World) (hal : pa.length ≤ 1000000) (hM : LLies w w.heap.size pA pa) (hV : VL w w.heap.size V) (hkn : ∀ j (hj : j < 16), 6 ≤ j → j ≤ 11 → V.K[j]'(by have := hV.hK; omega) = true)
    (hin : ∀ x ∈ pa, 6 ≤ x.k ∧ x.k ≤ 11 ∧ -65536 ≤ x.n ∧ 0 ≤ base + x.n ∧ base + x.n < V.W.length) (_hb0 : 0 ≤ base) (_hb1 : base ≤ 10000000) :
    Calls Try.prog 16 #[.agg #[.int .i64 pf, .int .i64 pt, .int .i64 pu, .slice pA pa.length pc], .int .i64 base, .agg (vC V)] w (CalledR V pa base w) := by
  have q1 := below_lnew w (.cells (pK ⟨pf, pt, pu, pa, pA, pc⟩) 29)
  have q2 := below_lnew (w.alloc (.cells (pK ⟨pf, pt, pu, pa, pA, pc⟩) 29)) (.cells (vC V) 34)
  have q3 := below_lnew ((w.alloc (.cells (pK ⟨pf, pt, pu, pa, pA, pc⟩) 29)).alloc (.cells (vC V) 34)) (.cells vZ.toArray 34)
  have HUX0 := Lib.hid (((spAt_new w ⟨pf, pt, pu, pa, pA, pc⟩).below q2 (by simp)).below q3 (by simp; omega))
  have HVX0 := Lib.hid (show ViewAt _ (w.heap.size + 1) V from by
    have := (viewAt_new (w.alloc (.cells (pK ⟨pf, pt, pu, pa, pA, pc⟩) 29)) V).below q3 (by simp)
    rwa [World.size_alloc] at this)
  have HZX0 := Lib.hid (show CAt _ (w.heap.size + 2) 34 vZ from by
    have := heap_alloc_new ((w.alloc (.cells (pK ⟨pf, pt, pu, pa, pA, pc⟩) 29)).alloc (.cells (vC V) 34)) (.cells vZ.toArray 34)
    simp only [World.size_alloc] at this
    exact this)
  have HBX0 := Lib.hid ((q1.trans (q2.mono q1.size)).trans (q3.mono (by simp; omega)))
  have hzX0 : w.heap.size + 2 < (((w.alloc (.cells (pK ⟨pf, pt, pu, pa, pA, pc⟩) 29)).alloc (.cells (vC V) 34)).alloc (.cells vZ.toArray 34)).heap.size := by simp
  have HLX0 := Lib.hid ((hV.below HBX0.out).more HBX0.out.size)
  have HVL := Lib.hid hV
  have HM := Lib.hid hM
  have HIN := Lib.hid hin
  have HCK := Lib.hid (callK_of hV.hK hkn)
  obtain ⟨g1, o1, e1, -, -⟩ := hV.known
  obtain ⟨g2, o2, e2, -, -⟩ := hV.regs
  clear q1 q2 q3 hV hkn hM hin
  obtain ⟨a1, c1, a2, c2, Bs, A3, c3, Kn, Rn, Ws⟩ := V
  dsimp only at e1 e2
  subst e1
  subst e2
  have x0 := HVX0.out.k
  have x1 := HVX0.out.r
  unfold vC vZ pK at HUX0 HVX0 HZX0 HBX0 hzX0 HLX0 x0 x1
  unfold vC
  dsimp only at HUX0 HVX0 HZX0 HBX0 hzX0 HLX0 HIN HCK x0 x1 ⊢
  go_enter Try.func16, Try.ntmps16
  go_wp2_with fail
  clear x0 x1
  generalize (((w.alloc (.cells #[.int .i64 pf, .int .i64 pt, .int .i64 pu, .slice pA pa.length pc] 29)).alloc (.cells #[.slice (some ⟨g1, o1, none⟩) 16 c1, .slice (some ⟨g2, o2, none⟩) 16 c2, .int .i64 Bs, .slice A3 Ws.length c3] 34)).alloc (.cells #[.slice none 0 0, .slice none 0 0, .int .i64 0, .slice none 0 0] 34)) = X0 at *
  refine wp_region_held_drew (S := fun W9 => (W9.cell? ⟨w.heap.size + 1, 0, none⟩ = some (.slice (some ⟨g1, o1, none⟩) 16 c1) ∧ W9.cell? ⟨w.heap.size + 1, 1, none⟩ = some (.slice (some ⟨g2, o2, none⟩) 16 c2))) (by kernel_rfl) (⟨HVX0.out.k, HVX0.out.r⟩) (fun hHeld => ?_)
  refine heldTake (i := 0) (d := some 12) (v := ?_) rfl rfl (by kernel_rfl) (by kernel_rfl) (by kernel_rfl) (fun _ _ _ h => h) (by kernel_rfl) ?hyq_1 (by assumption) ?restq_1
  case hyq_1 => (intro W9 hSw; (try dsimp only at hSw); go_simp; try (with_reducible rfl))
  (try simp only [Act.put, List.setIfInBounds_toArray, List.set_cons_zero, List.set_cons_succ])
  refine heldTake (i := 1) (d := some 13) (v := ?_) rfl rfl (by kernel_rfl) (by kernel_rfl) (by kernel_rfl) (fun _ _ _ h => h) (by kernel_rfl) ?hyq_2 (by assumption) ?restq_2
  case hyq_2 => (intro W9 hSw; (try dsimp only at hSw); go_simp; try (with_reducible rfl))
  (try simp only [Act.put, List.setIfInBounds_toArray, List.set_cons_zero, List.set_cons_succ])
  refine heldTake (i := 3) (d := some 15) (v := ?_) rfl rfl (by kernel_rfl) (by kernel_rfl) (by kernel_rfl) (fun _ _ _ h => h) (by kernel_rfl) ?hyq_3 (by assumption) ?restq_3
  case hyq_3 => (intro W9 hSw; (try dsimp only at hSw); go_simp; try (with_reducible rfl))
  (try simp only [Act.put, List.setIfInBounds_toArray, List.set_cons_zero, List.set_cons_succ])
  refine heldTake (i := 4) (d := some 16) (v := ?_) rfl rfl (by kernel_rfl) (by kernel_rfl) (by kernel_rfl) (fun _ _ _ h => h) (by kernel_rfl) ?hyq_4 (by assumption) ?restq_4
  case hyq_4 => (intro W9 hSw; (try dsimp only at hSw); go_simp; try (with_reducible rfl))
  (try simp only [Act.put, List.setIfInBounds_toArray, List.set_cons_zero, List.set_cons_succ])
  refine wpAnyH_ready (rs := [2]) (by kernel_rfl) (by simp) ?_
  refine AllReadyH.cons rfl (fun K hK => ?_) AllReadyH.nil
  go_simp
  go_at_call 24
  refine (kept_B g1 o1 c1 Kn X0.drew HLX0.out.hK HLX0.out.h1 HLX0.out.k).mono ?_
  rintro e9 X1 ⟨rfl, hkX, hbX⟩
  replace hbX := below_of_drew hbX
  have HUX1 := Lib.hid (HUX0.out.below hbX HUX0.out.lt)
  have HVX1 := Lib.hid (HVX0.out.below hbX HVX0.out.lt)
  have HZX1 := Lib.hid (HZX0.out.below hbX HZX0.out.lt)
  have HBX1 := Lib.hid (HBX0.out.trans (hbX.mono HBX0.out.size))
  have HLX1 := Lib.hid (HLX0.out.next hbX)
  have hg1X : X0.heap.size < X1.heap.size := hkX.lt
  have HK1 := Lib.hid (show CAt X1 X0.heap.size 4 _ from hkX)
  have hSX1 : (X1.cell? ⟨w.heap.size + 1, 0, none⟩ = some (.slice (some ⟨g1, o1, none⟩) 16 c1) ∧ X1.cell? ⟨w.heap.size + 1, 1, none⟩ = some (.slice (some ⟨g2, o2, none⟩) 16 c2)) := ⟨HVX1.out.k, HVX1.out.r⟩
  clear hkX hbX
  go_wp2_with fail
  refine hK.out _ _ hSX1 (fun hHeld => ?_)
  clear hK K
  (try simp only [Act.put, List.setIfInBounds_toArray, List.set_cons_zero, List.set_cons_succ])
  refine heldTake (i := 6) (d := some 18) (v := ?_) rfl rfl (by kernel_rfl) (by kernel_rfl) (by kernel_rfl) (fun _ _ _ h => h) (by kernel_rfl) ?hyq_5 (by assumption) ?restq_5
  case hyq_5 => (intro W9 hSw; (try dsimp only at hSw); go_simp; try (with_reducible rfl))
  (try simp only [Act.put, List.setIfInBounds_toArray, List.set_cons_zero, List.set_cons_succ])
  refine wpAnyH_ready (rs := [5]) (by kernel_rfl) (by simp) ?_
  refine AllReadyH.cons rfl (fun K hK => ?_) AllReadyH.nil
  go_simp
  go_at_call 25
  refine (kept_N g2 o2 c2 Rn X1 HLX1.out.hR HLX1.out.h2 HLX1.out.r).mono ?_
  rintro e9 X2 ⟨rfl, hkX, hbX⟩
  have HUX2 := Lib.hid (HUX1.out.below hbX HUX1.out.lt)
  have HVX2 := Lib.hid (HVX1.out.below hbX HVX1.out.lt)
  have HZX2 := Lib.hid (HZX1.out.below hbX HZX1.out.lt)
  have HBX2 := Lib.hid (HBX1.out.trans (hbX.mono HBX1.out.size))
  have HK2 := Lib.hid (HK1.out.below hbX hg1X)
  have HR2 := Lib.hid hkX
  have hSX2 : (X2.cell? ⟨w.heap.size + 1, 0, none⟩ = some (.slice (some ⟨g1, o1, none⟩) 16 c1) ∧ X2.cell? ⟨w.heap.size + 1, 1, none⟩ = some (.slice (some ⟨g2, o2, none⟩) 16 c2)) := ⟨HVX2.out.k, HVX2.out.r⟩
  clear hkX hbX
  go_wp2_with fail
  refine hK.out _ _ hSX2 (fun hHeld => ?_)
  clear hK K
  (try simp only [Act.put, List.setIfInBounds_toArray, List.set_cons_zero, List.set_cons_succ])
  refine wpAnyH_ready (rs := [7]) (by kernel_rfl) (by simp) ?_
  refine AllReadyH.cons rfl (fun K hK => ?_) AllReadyH.nil
  have z0 := HZX2.out.cell (j := 0) (by simp)
  have zf := HZX2.out.frozen
  simp only [List.getElem_cons_zero] at z0
  go_simp
  have HZX3 := Lib.hid (HZX2.out.set 0 (.slice (some ⟨X0.heap.size, 0, none⟩) 16 16))
  simp only [List.set_cons_zero] at HZX3
  have HUX3 := Lib.hid (HUX2.out.other8 (p := ⟨w.heap.size + 2, 0, none⟩) (by dsimp only; omega) (.slice (some ⟨X0.heap.size, 0, none⟩) 16 16))
  have HVX3 := Lib.hid (HVX2.out.other (p := ⟨w.heap.size + 2, 0, none⟩) (by dsimp only; omega) (.slice (some ⟨X0.heap.size, 0, none⟩) 16 16))
  have HBX3 := Lib.hid (HBX2.out.setCell (p := ⟨w.heap.size + 2, 0, none⟩) (by dsimp only; omega) (.slice (some ⟨X0.heap.size, 0, none⟩) 16 16))
  have HK3 := Lib.hid (HK2.out.other (p := ⟨w.heap.size + 2, 0, none⟩) (by dsimp only; omega) (.slice (some ⟨X0.heap.size, 0, none⟩) 16 16))
  have HR3 := Lib.hid (HR2.out.other (p := ⟨w.heap.size + 2, 0, none⟩) (by dsimp only; omega) (.slice (some ⟨X0.heap.size, 0, none⟩) 16 16))
  obtain ⟨X3, hX3⟩ : ∃ X3, X2.setCell ⟨w.heap.size + 2, 0, none⟩ (.slice (some ⟨X0.heap.size, 0, none⟩) 16 16) = X3 := ⟨_, rfl⟩
  rw [hX3] at HZX3 HUX3 HVX3 HBX3 HK3 HR3 ⊢
  have hSX3 : (X3.cell? ⟨w.heap.size + 1, 0, none⟩ = some (.slice (some ⟨g1, o1, none⟩) 16 c1) ∧ X3.cell? ⟨w.heap.size + 1, 1, none⟩ = some (.slice (some ⟨g2, o2, none⟩) 16 c2)) := ⟨HVX3.out.k, HVX3.out.r⟩
  clear hX3 z0 zf
  refine hK.out _ _ hSX3 (fun hHeld => ?_)
  clear hK K
  (try simp only [Act.put, List.setIfInBounds_toArray, List.set_cons_zero, List.set_cons_succ])
  refine heldTake (i := 8) (d := some 19) (v := ?_) rfl rfl (by kernel_rfl) (by kernel_rfl) (by kernel_rfl) (fun _ _ _ h => h) (by kernel_rfl) ?hyq_6 (by assumption) ?restq_6
  case hyq_6 => (intro W9 hSw; (try dsimp only at hSw); go_simp; try (with_reducible rfl))
  (try simp only [Act.put, List.setIfInBounds_toArray, List.set_cons_zero, List.set_cons_succ])
  refine wpAnyH_ready (rs := [9]) (by kernel_rfl) (by simp) ?_
  refine AllReadyH.cons rfl (fun K hK => ?_) AllReadyH.nil
  have z1 := HZX3.out.cell (j := 1) (by simp)
  have zf := HZX3.out.frozen
  simp only [List.getElem_cons_succ, List.getElem_cons_zero] at z1
  go_simp
  have HZX4 := Lib.hid (HZX3.out.set 1 (.slice (some ⟨X1.heap.size, 0, none⟩) 16 16))
  simp only [List.set_cons_succ, List.set_cons_zero] at HZX4
  have HUX4 := Lib.hid (HUX3.out.other8 (p := ⟨w.heap.size + 2, 1, none⟩) (by dsimp only; omega) (.slice (some ⟨X1.heap.size, 0, none⟩) 16 16))
  have HVX4 := Lib.hid (HVX3.out.other (p := ⟨w.heap.size + 2, 1, none⟩) (by dsimp only; omega) (.slice (some ⟨X1.heap.size, 0, none⟩) 16 16))
  have HBX4 := Lib.hid (HBX3.out.setCell (p := ⟨w.heap.size + 2, 1, none⟩) (by dsimp only; omega) (.slice (some ⟨X1.heap.size, 0, none⟩) 16 16))
  have HK4 := Lib.hid (HK3.out.other (p := ⟨w.heap.size + 2, 1, none⟩) (by dsimp only; omega) (.slice (some ⟨X1.heap.size, 0, none⟩) 16 16))
  have HR4 := Lib.hid (HR3.out.other (p := ⟨w.heap.size + 2, 1, none⟩) (by dsimp only; omega) (.slice (some ⟨X1.heap.size, 0, none⟩) 16 16))
  obtain ⟨X4, hX4⟩ : ∃ X4, X3.setCell ⟨w.heap.size + 2, 1, none⟩ (.slice (some ⟨X1.heap.size, 0, none⟩) 16 16) = X4 := ⟨_, rfl⟩
  rw [hX4] at HZX4 HUX4 HVX4 HBX4 HK4 HR4 ⊢
  have hSX4 : (X4.cell? ⟨w.heap.size + 1, 0, none⟩ = some (.slice (some ⟨g1, o1, none⟩) 16 c1) ∧ X4.cell? ⟨w.heap.size + 1, 1, none⟩ = some (.slice (some ⟨g2, o2, none⟩) 16 c2)) := ⟨HVX4.out.k, HVX4.out.r⟩
  clear hX4 z1 zf
  refine hK.out _ _ hSX4 (fun hHeld => ?_)
  clear hK K
  (try simp only [Act.put, List.setIfInBounds_toArray, List.set_cons_zero, List.set_cons_succ])
  refine wpAnyH_done (by kernel_rfl) ?_ _
  have HLR0 := Lib.hid (show (keptL 0 Rn).length = 16 from keptL_len _ _ HVL.out.hR)
  have HRO := Lib.hid (fun k hk h => keptL_out HVL.out.hR (k := k) hk h)
  have HC := Lib.hid (show Cal w X4 ⟨pf, pt, pu, pa, pA, pc⟩ ⟨⟨g1, o1, none⟩, c1, ⟨g2, o2, none⟩, c2, Bs, A3, c3, Kn, Rn, Ws⟩ X0.heap.size X1.heap.size callK (keptL 0 Rn) (.slice none 0 0) from
    ⟨HUX4.out, HVX4.out, HZX4.out, by rw [← HCK.out, ← keptL_map]; exact HK4.out, by rw [← keptL_map]; exact HR4.out, HBX4.out, by omega, by omega, by omega⟩)
  generalize X0.heap.size = gK at *
  generalize X1.heap.size = gR at *
  clear HUX4 HVX4 HZX4 HK4 HR4 HBX4 HUX3 HVX3 HZX3 HK3 HR3 HBX3 HUX2 HVX2 HZX2 HBX2 HUX1 HVX1 HZX1 HBX1 HUX0 HVX0 HZX0 HBX0 HK2 HR2 HK1 HLX1 HLX0 hzX0 hg1X
  clear hSX4 hSX3 hSX2 hSX1
  have z0 := HC.out.z0
  go_wp2_with fail
  clear z0
  generalize hkl : keptL 0 Rn = R0 at *
  have HRO0 := Lib.hid (show ∀ k, k < 16 → k < 6 ∨ 12 ≤ k → R0[k]? = some 0 from fun k hk h => HRO.out k hk h)
  clear HRO
  go_loopw [23] (fun i wr => ∃ k : Nat, k ≤ 16 ∧ i = .int .i64 k ∧ Hid (Cal w wr ⟨pf, pt, pu, pa, pA, pc⟩ ⟨⟨g1, o1, none⟩, c1, ⟨g2, o2, none⟩, c2, Bs, A3, c3, Kn, Rn, Ws⟩ gK gR callK R0 (.slice none 0 0))) (fun i _ => 16 - (intOf i).toNat)
  case atStart => exact ⟨0, by omega, rfl, HC⟩
  case round =>
    obtain ⟨k, hk, rfl, hC⟩ := hrel
    clear HC
    by_cases hlt : k < 16
    · have hki : (k : Int) < 16 := by omega
      have c0 := hC.out.hk.cell (j := k) (by simp [callK]; omega)
      simp only [List.getElem_map, bV] at c0
      cases hkk : callK[k]'(by simp [callK]; omega) with
      | true =>
        rw [hkk] at c0
        clear hkk
        go_wp2
        go_roundw
        case rel => exact ⟨k + 1, by omega, by go_num, hC⟩
        case measure => simp [intOf]; omega
      | false =>
        have hno := callK_no hlt hkk
        have hr0 := HRO0.out k hlt hno
        obtain ⟨hlr, hr1⟩ := List.getElem?_eq_some_iff.1 hr0
        have c1' := hC.out.hr.cell (j := k) (by simpa using hlr)
        simp only [List.getElem_map, hr1, n7] at c1'
        have z1 := hC.out.z1
        have rf := hC.out.hr.frozen
        rw [hkk] at c0
        have HS0 := Lib.hid (set_same hr0)
        clear hkk hr0 hr1 hlr hno
        go_wp2
        go_roundw
        case rel => exact ⟨k + 1, by omega, by go_num, by have q := hC.out.setR k 0; rw [HS0.out] at q; exact q⟩
        case measure => simp [intOf]; omega
    · have hki : (16 : Int) ≤ k := by omega
      have hu := hC.out.hu.at_
      dsimp only at hu
      go_wp2_with fail
      clear hu
      go_loopw [38] (fun i wr => ∃ j : Nat, j ≤ pa.length ∧ i = .int .i64 j ∧ Hid (Cal w wr ⟨pf, pt, pu, pa, pA, pc⟩ ⟨⟨g1, o1, none⟩, c1, ⟨g2, o2, none⟩, c2, Bs, A3, c3, Kn, Rn, Ws⟩ gK gR callK (savR Ws base R0 (pa.take j)) (.slice none 0 0))) (fun i _ => pa.length - (intOf i).toNat)
      case atStart => exact ⟨0, by omega, rfl, by simpa [savR] using hC⟩
      case round =>
        obtain ⟨j, hj, rfl, hC2⟩ := hrel
        clear hC
        have HLRj := Lib.hid (show (savR Ws base R0 (pa.take j)).length = 16 by rw [savR_len]; exact HLR0.out)
        by_cases hlj : j < pa.length
        · have hji : (j : Int) < pa.length := by omega
          obtain ⟨g, o, rfl, hg, d1, d2⟩ := (HM.out.below hC2.out.hb).at_ hlj
          obtain ⟨x1, x2, x3, x4, x5⟩ := HIN.out _ (List.getElem_mem hlj)
          have HTT := Lib.hid (savR_take (Ws := Ws) (base := base) (R := R0) hlj)
          generalize pa[j] = x at *
          obtain ⟨xk', xn⟩ := x
          obtain ⟨xk, rfl⟩ : ∃ xk : Nat, xk' = xk := ⟨xk'.toNat, by dsimp only at x1; omega⟩
          dsimp only at d1 d2 x1 x2 x3 x4 x5 HTT
          obtain ⟨wk, hwk⟩ : ∃ wk : Nat, base + xn = wk := ⟨(base + xn).toNat, by omega⟩
          have hwl : wk < Ws.length := by omega
          have HT := Lib.hid (show savR Ws base R0 (pa.take (j + 1)) = (savR Ws base R0 (pa.take j)).set xk Ws[wk] by rw [HTT.out]; unfold savF; rw [hwk]; simp [hwl])
          generalize savR Ws base R0 (pa.take j) = Rj at *
          have hb9 := below_lnew wr (.cells (cK ⟨xk, xn⟩) 31)
          have HC0 := Lib.hid (hC2.out.below hb9)
          have HLC0 := Lib.hid (locAt_new wr ⟨xk, xn⟩)
          have hgsR : wr.heap.size ≠ gR := by have := hC2.out.hr.lt; omega
          have HGK0 := Lib.hid hC2.out.hk.lt
          have z0 := HC0.out.z0
          have kc := HC0.out.hk.cell (j := xk) (by simp [callK]; omega)
          have kf := HC0.out.hk.frozen
          simp only [List.getElem_map, bV, callK_in (show 6 ≤ xk by omega) (show xk ≤ 11 by omega) (by simp [callK]; omega)] at kc
          have l0 := HLC0.out.kd
          unfold cK at HC0 HLC0 z0 kc kf l0
          dsimp only at HC0 HLC0 z0 kc kf l0
          clear hb9 hC2 HTT
          go_wp2_with fail
          clear z0 kc kf l0 d1 d2
          have hgsK : wr.heap.size ≠ gK := by have := HGK0.out; omega
          obtain ⟨Yb, hYb⟩ : ∃ Yb, wr.alloc (.cells #[.int .i64 (xk : Nat), .int .i64 xn] 31) = Yb := ⟨_, rfl⟩
          rw [hYb] at HC0 HLC0 ⊢
          generalize hgs : wr.heap.size = gs at *
          clear hYb hgs
          have HC0' := HC0.out.setK xk true
          rw [callK_set (by omega) (by omega)] at HC0'
          have HLC0' := HLC0.out.other8 (p := ⟨gK, xk, none⟩) hgsK (.bool true)
          clear HC0 HLC0
          obtain ⟨Y0, hY0⟩ : ∃ Y0, Yb.setCell ⟨gK, xk, none⟩ (.bool true) = Y0 := ⟨_, rfl⟩
          rw [hY0] at HC0' HLC0' ⊢
          have HC0 := Lib.hid HC0'
          have HLC0 := Lib.hid HLC0'
          have HLR := HLRj
          have hwn := HVL.out.nW
          dsimp only at hwn
          clear hY0 HC0' HLC0'
          have hx16 : (xk : Int) < 16 := by omega
          have hwi : (wk : Int) < 1000000 := by omega
          have hSY0 : (Y0.cell? ⟨w.heap.size + 2, 1, none⟩ = some (.slice (some ⟨gR, 0, none⟩) 16 16) ∧ Y0.cell? ⟨gs, 0, none⟩ = some (.int .i64 (xk : Nat)) ∧ Y0.cell? ⟨gs, 1, none⟩ = some (.int .i64 xn) ∧ Y0.cell? ⟨w.heap.size + 1, 3, none⟩ = some (.slice A3 Ws.length c3)) := ⟨HC0.out.z1, HLC0.out.kd, HLC0.out.nm, HC0.out.hv.wd⟩
          refine wp_region_held_drew (S := fun W9 => (W9.cell? ⟨w.heap.size + 2, 1, none⟩ = some (.slice (some ⟨gR, 0, none⟩) 16 16) ∧ W9.cell? ⟨gs, 0, none⟩ = some (.int .i64 (xk : Nat)) ∧ W9.cell? ⟨gs, 1, none⟩ = some (.int .i64 xn) ∧ W9.cell? ⟨w.heap.size + 1, 3, none⟩ = some (.slice A3 Ws.length c3))) (by kernel_rfl) (⟨HC0.out.z1, HLC0.out.kd, HLC0.out.nm, HC0.out.hv.wd⟩) (fun hHeld => ?_)
          refine heldTake (i := 0) (d := some 48) (v := ?_) rfl rfl (by kernel_rfl) (by kernel_rfl) (by kernel_rfl) (fun _ _ _ h => h) (by kernel_rfl) ?hyq_7 (by assumption) ?restq_7
          case hyq_7 => (intro W9 hSw; (try dsimp only at hSw); go_simp; try (with_reducible rfl))
          (try simp only [Act.put, List.setIfInBounds_toArray, List.set_cons_zero, List.set_cons_succ])
          refine heldTake (i := 1) (d := some 49) (v := ?_) rfl rfl (by kernel_rfl) (by kernel_rfl) (by kernel_rfl) (fun _ _ _ h => h) (by kernel_rfl) ?hyq_8 (by assumption) ?restq_8
          case hyq_8 => (intro W9 hSw; (try dsimp only at hSw); go_simp; try (with_reducible rfl))
          (try simp only [Act.put, List.setIfInBounds_toArray, List.set_cons_zero, List.set_cons_succ])
          refine heldTake (i := 2) (d := some 50) (v := ?_) rfl rfl (by kernel_rfl) (by kernel_rfl) (by kernel_rfl) (fun _ _ _ h => h) (by kernel_rfl) ?hyq_9 (by assumption) ?restq_9
          case hyq_9 => (intro W9 hSw; (try dsimp only at hSw); go_simp; try (with_reducible rfl))
          (try simp only [Act.put, List.setIfInBounds_toArray, List.set_cons_zero, List.set_cons_succ])
          refine heldTake (i := 3) (d := some 51) (v := ?_) rfl rfl (by kernel_rfl) (by kernel_rfl) (by kernel_rfl) (fun _ _ _ h => h) (by kernel_rfl) ?hyq_10 (by assumption) ?restq_10
          case hyq_10 => (intro W9 hSw; (try dsimp only at hSw); go_simp; try (with_reducible rfl))
          (try simp only [Act.put, List.setIfInBounds_toArray, List.set_cons_zero, List.set_cons_succ])
          refine heldTake (i := 4) (d := some 52) (v := ?_) rfl rfl (by kernel_rfl) (by kernel_rfl) (by kernel_rfl) (fun _ _ _ h => h) (by kernel_rfl) ?hyq_11 (by assumption) ?restq_11
          case hyq_11 => (intro W9 hSw; (try dsimp only at hSw); go_simp; try (with_reducible rfl))
          (try simp only [Act.put, List.setIfInBounds_toArray, List.set_cons_zero, List.set_cons_succ])
          refine heldTake (i := 5) (d := some 53) (v := ?_) rfl rfl (by kernel_rfl) (by kernel_rfl) (by kernel_rfl) (fun _ _ _ h => h) (by kernel_rfl) ?hyq_12 (by assumption) ?restq_12
          case hyq_12 => (intro W9 hSw; (try dsimp only at hSw); go_simp; try (with_reducible rfl))
          (try simp only [Act.put, List.setIfInBounds_toArray, List.set_cons_zero, List.set_cons_succ])
          refine heldTake (i := 6) (d := some 54) (v := ?_) rfl rfl (by kernel_rfl) (by kernel_rfl) (by kernel_rfl) (fun _ _ _ h => h) (by kernel_rfl) ?hyq_13 (by assumption) ?restq_13
          case hyq_13 => (intro W9 hSw; (try dsimp only at hSw); go_simp; try (with_reducible rfl))
          (try simp only [Act.put, List.setIfInBounds_toArray, List.set_cons_zero, List.set_cons_succ])
          refine heldTake (i := 7) (d := some 55) (v := ?_) rfl rfl (by kernel_rfl) (by kernel_rfl) (by kernel_rfl) (fun _ _ _ h => h) (by kernel_rfl) ?hyq_14 (by assumption) ?restq_14
          case hyq_14 => (intro W9 hSw; (try dsimp only at hSw); go_simp; try (with_reducible rfl))
          (try simp only [Act.put, List.setIfInBounds_toArray, List.set_cons_zero, List.set_cons_succ])
          refine heldTake (i := 8) (d := some 56) (v := ?_) rfl rfl (by kernel_rfl) (by kernel_rfl) (by kernel_rfl) (fun _ _ _ h => h) (by kernel_rfl) ?hyq_15 (by assumption) ?restq_15
          case hyq_15 => (intro W9 hSw; (try dsimp only at hSw); go_simp; try (with_reducible rfl))
          (try simp only [Act.put, List.setIfInBounds_toArray, List.set_cons_zero, List.set_cons_succ])
          refine heldTake (i := 9) (d := some 57) (v := ?_) rfl rfl (by kernel_rfl) (by kernel_rfl) (by kernel_rfl) (fun _ _ _ h => h) (by kernel_rfl) ?hyq_16 (by assumption) ?restq_16
          case hyq_16 => (intro W9 hSw; (try dsimp only at hSw); go_simp; try (with_reducible rfl))
          (try simp only [Act.put, List.setIfInBounds_toArray, List.set_cons_zero, List.set_cons_succ])
          refine wpAnyH_ready (rs := [10]) (by kernel_rfl) (by simp) ?_
          refine AllReadyH.cons rfl (fun K hK => ?_) AllReadyH.nil
          go_simp
          try simp only [wrap8 (show (-9223372036854775808 : Int) ≤ base + xn by omega) (show base + xn < 9223372036854775808 by omega)]
          go_at_call 15
          refine (word_in A3 c3 Ws wk _ Y0.drew (by first | rfl | exact hwk | omega | (rw [wrap8 (by omega) (by omega)]) | (rw [wrap8 (by omega) (by omega), hwk]) | (rw [wrap8 (by omega) (by omega)]; exact hwk)) hwl (by omega) ((HVL.out.below HC0.out.hb).more HC0.out.hb.size).ww).mono ?_
          rintro e9 w9 ⟨rfl, rfl⟩
          go_wp2_with fail
          refine hK.out _ _ hSY0 (fun hHeld => ?_)
          clear hK K
          (try simp only [Act.put, List.setIfInBounds_toArray, List.set_cons_zero, List.set_cons_succ])
          refine heldTake (i := 11) (d := some 47) (v := ?_) rfl rfl (by kernel_rfl) (by kernel_rfl) (by kernel_rfl) (fun _ _ _ h => h) (by kernel_rfl) ?hyq_17 (by assumption) ?restq_17
          case hyq_17 => (intro W9 hSw; (try dsimp only at hSw); go_simp; try (with_reducible rfl))
          (try simp only [Act.put, List.setIfInBounds_toArray, List.set_cons_zero, List.set_cons_succ])
          refine heldTake (i := 12) (d := some 59) (v := ?_) rfl rfl (by kernel_rfl) (by kernel_rfl) (by kernel_rfl) (fun _ _ _ h => h) (by kernel_rfl) ?hyq_18 (by assumption) ?restq_18
          case hyq_18 => (intro W9 hSw; (try dsimp only at hSw); go_simp; try (with_reducible rfl))
          (try simp only [Act.put, List.setIfInBounds_toArray, List.set_cons_zero, List.set_cons_succ])
          refine heldTake (i := 13) (d := some 60) (v := ?_) rfl rfl (by kernel_rfl) (by kernel_rfl) (by kernel_rfl) (fun _ _ _ h => h) (by kernel_rfl) ?hyq_19 (by assumption) ?restq_19
          case hyq_19 => (intro W9 hSw; (try dsimp only at hSw); go_simp; try (with_reducible rfl))
          (try simp only [Act.put, List.setIfInBounds_toArray, List.set_cons_zero, List.set_cons_succ])
          refine heldTake (i := 14) (d := some 61) (v := ?_) rfl rfl (by kernel_rfl) (by kernel_rfl) (by kernel_rfl) (fun _ _ _ h => h) (by kernel_rfl) ?hyq_20 (by assumption) ?restq_20
          case hyq_20 => (intro W9 hSw; (try dsimp only at hSw); go_simp; try (with_reducible rfl))
          (try simp only [Act.put, List.setIfInBounds_toArray, List.set_cons_zero, List.set_cons_succ])
          refine wpAnyH_ready (rs := [15]) (by kernel_rfl) (by simp) ?_
          refine AllReadyH.cons rfl (fun K hK => ?_) AllReadyH.nil
          have r0 := HC0.out.hr.cell (j := xk) (by simp [HLR.out]; omega)
          have rf := HC0.out.hr.frozen
          simp only [List.getElem_map, n7] at r0
          go_simp
          have HC1 := Lib.hid (HC0.out.setR xk Ws[wk])
          have HLC1 := Lib.hid (HLC0.out.other8 (p := ⟨gR, xk, none⟩) hgsR (.int .i64 Ws[wk]))
          obtain ⟨Y1, hY1⟩ : ∃ Y1, Y0.setCell ⟨gR, xk, none⟩ (.int .i64 Ws[wk]) = Y1 := ⟨_, rfl⟩
          have HCd := HC1
          have HLd := HLC1
          rw [hY1] at HC1 HLC1 ⊢
          clear HCd HLd
          have hSY1 : (Y1.cell? ⟨w.heap.size + 2, 1, none⟩ = some (.slice (some ⟨gR, 0, none⟩) 16 16) ∧ Y1.cell? ⟨gs, 0, none⟩ = some (.int .i64 (xk : Nat)) ∧ Y1.cell? ⟨gs, 1, none⟩ = some (.int .i64 xn) ∧ Y1.cell? ⟨w.heap.size + 1, 3, none⟩ = some (.slice A3 Ws.length c3)) := ⟨HC1.out.z1, HLC1.out.kd, HLC1.out.nm, HC1.out.hv.wd⟩
          clear hY1 r0 rf
          refine hK.out _ _ hSY1 (fun hHeld => ?_)
          clear hK K
          (try simp only [Act.put, List.setIfInBounds_toArray, List.set_cons_zero, List.set_cons_succ])
          refine heldTake (i := 16) (d := some 7) (v := ?_) rfl rfl (by kernel_rfl) (by kernel_rfl) (by kernel_rfl) (fun _ _ _ h => h) (by kernel_rfl) ?hyq_21 (by assumption) ?restq_21
          case hyq_21 => (intro W9 hSw; (try dsimp only at hSw); go_simp; try (with_reducible rfl))
          (try simp only [Act.put, List.setIfInBounds_toArray, List.set_cons_zero, List.set_cons_succ])
          refine wpAnyH_done (by kernel_rfl) ?_ _
          go_wp2
          go_roundw
          case rel => exact ⟨j + 1, by omega, by go_num, by rw [HT.out]; exact HC1.out.drew⟩
          case measure => simp [intOf]; omega
        · have hjn : j = pa.length := by omega
          have HLR := Lib.hid (show (savR Ws base R0 pa).length = 16 by rw [savR_len]; exact HLR0.out)
          have HLK := Lib.hid (show callK.length = 16 from rfl)
          have hC3 := hC2.out
          rw [hjn, List.take_length] at hC3
          have HC0 := Lib.hid hC3
          have hji : (pa.length : Int) ≤ j := by omega
          clear hjn hC2 hC3 HLRj
          go_wp2_with fail
          refine wp_region_held_drew (S := fun W9 => (W9.cell? ⟨w.heap.size + 2, 0, none⟩ = some (.slice (some ⟨gK, 0, none⟩) 16 16) ∧ W9.cell? ⟨w.heap.size + 2, 1, none⟩ = some (.slice (some ⟨gR, 0, none⟩) 16 16))) (by kernel_rfl) (⟨HC0.out.z0, HC0.out.z1⟩) (fun hHeld => ?_)
          refine heldTake (i := 0) (d := some 66) (v := ?_) rfl rfl (by kernel_rfl) (by kernel_rfl) (by kernel_rfl) (fun _ _ _ h => h) (by kernel_rfl) ?hyq_22 (by assumption) ?restq_22
          case hyq_22 => (intro W9 hSw; (try dsimp only at hSw); go_simp; try (with_reducible rfl))
          (try simp only [Act.put, List.setIfInBounds_toArray, List.set_cons_zero, List.set_cons_succ])
          refine heldTake (i := 1) (d := some 67) (v := ?_) rfl rfl (by kernel_rfl) (by kernel_rfl) (by kernel_rfl) (fun _ _ _ h => h) (by kernel_rfl) ?hyq_23 (by assumption) ?restq_23
          case hyq_23 => (intro W9 hSw; (try dsimp only at hSw); go_simp; try (with_reducible rfl))
          (try simp only [Act.put, List.setIfInBounds_toArray, List.set_cons_zero, List.set_cons_succ])
          refine heldTake (i := 2) (d := some 68) (v := ?_) rfl rfl (by kernel_rfl) (by kernel_rfl) (by kernel_rfl) (fun _ _ _ h => h) (by kernel_rfl) ?hyq_24 (by assumption) ?restq_24
          case hyq_24 => (intro W9 hSw; (try dsimp only at hSw); go_simp; try (with_reducible rfl))
          (try simp only [Act.put, List.setIfInBounds_toArray, List.set_cons_zero, List.set_cons_succ])
          refine heldTake (i := 3) (d := some 69) (v := ?_) rfl rfl (by kernel_rfl) (by kernel_rfl) (by kernel_rfl) (fun _ _ _ h => h) (by kernel_rfl) ?hyq_25 (by assumption) ?restq_25
          case hyq_25 => (intro W9 hSw; (try dsimp only at hSw); go_simp; try (with_reducible rfl))
          (try simp only [Act.put, List.setIfInBounds_toArray, List.set_cons_zero, List.set_cons_succ])
          refine heldTake (i := 4) (d := some 70) (v := ?_) rfl rfl (by kernel_rfl) (by kernel_rfl) (by kernel_rfl) (fun _ _ _ h => h) (by kernel_rfl) ?hyq_26 (by assumption) ?restq_26
          case hyq_26 => (intro W9 hSw; (try dsimp only at hSw); go_simp; try (with_reducible rfl))
          (try simp only [Act.put, List.setIfInBounds_toArray, List.set_cons_zero, List.set_cons_succ])
          refine heldTake (i := 5) (d := some 71) (v := ?_) rfl rfl (by kernel_rfl) (by kernel_rfl) (by kernel_rfl) (fun _ _ _ h => h) (by kernel_rfl) ?hyq_27 (by assumption) ?restq_27
          case hyq_27 => (intro W9 hSw; (try dsimp only at hSw); go_simp; try (with_reducible rfl))
          (try simp only [Act.put, List.setIfInBounds_toArray, List.set_cons_zero, List.set_cons_succ])
          refine wpAnyH_ready (rs := [6]) (by kernel_rfl) (by simp) ?_
          refine AllReadyH.cons rfl (fun K hK => ?_) AllReadyH.nil
          have r0 := HC0.out.hk.cell (j := 15) (by simp [HLK.out])
          have rf := HC0.out.hk.frozen
          simp only [List.getElem_map, bV] at r0
          go_simp
          have HC1 := Lib.hid (HC0.out.setK 15 true)
          obtain ⟨Y1, hY1⟩ : ∃ Y1, wr.setCell ⟨gK, 15, none⟩ (.bool true) = Y1 := ⟨_, rfl⟩
          rw [hY1] at HC1 ⊢
          have hSY1 : (Y1.cell? ⟨w.heap.size + 2, 0, none⟩ = some (.slice (some ⟨gK, 0, none⟩) 16 16) ∧ Y1.cell? ⟨w.heap.size + 2, 1, none⟩ = some (.slice (some ⟨gR, 0, none⟩) 16 16)) := ⟨HC1.out.z0, HC1.out.z1⟩
          clear hY1 r0 rf
          refine hK.out _ _ hSY1 (fun hHeld => ?_)
          clear hK K
          (try simp only [Act.put, List.setIfInBounds_toArray, List.set_cons_zero, List.set_cons_succ])
          refine heldTake (i := 7) (d := some 72) (v := ?_) rfl rfl (by kernel_rfl) (by kernel_rfl) (by kernel_rfl) (fun _ _ _ h => h) (by kernel_rfl) ?hyq_28 (by assumption) ?restq_28
          case hyq_28 => (intro W9 hSw; (try dsimp only at hSw); go_simp; try (with_reducible rfl))
          (try simp only [Act.put, List.setIfInBounds_toArray, List.set_cons_zero, List.set_cons_succ])
          refine wpAnyH_ready (rs := [8]) (by kernel_rfl) (by simp) ?_
          refine AllReadyH.cons rfl (fun K hK => ?_) AllReadyH.nil
          have r0 := HC1.out.hr.cell (j := 15) (by simp [HLR.out])
          have rf := HC1.out.hr.frozen
          simp only [List.getElem_map, n7] at r0
          go_simp
          have HC2 := Lib.hid (HC1.out.setR 15 base)
          obtain ⟨Y2, hY2⟩ : ∃ Y2, Y1.setCell ⟨gR, 15, none⟩ (.int .i64 base) = Y2 := ⟨_, rfl⟩
          rw [hY2] at HC2 ⊢
          have hSY2 : (Y2.cell? ⟨w.heap.size + 2, 0, none⟩ = some (.slice (some ⟨gK, 0, none⟩) 16 16) ∧ Y2.cell? ⟨w.heap.size + 2, 1, none⟩ = some (.slice (some ⟨gR, 0, none⟩) 16 16)) := ⟨HC2.out.z0, HC2.out.z1⟩
          clear hY2 r0 rf
          refine hK.out _ _ hSY2 (fun hHeld => ?_)
          clear hK K
          (try simp only [Act.put, List.setIfInBounds_toArray, List.set_cons_zero, List.set_cons_succ])
          refine wpAnyH_done (by kernel_rfl) ?_ _
          have v3 := HC2.out.hv.wd
          dsimp only at v3
          have HCd := Lib.hid HC2.out.drew
          go_wp2_with fail
          clear v3
          generalize Y2.drew = Y3 at *
          have hnw := HVL.out.nW
          dsimp only at hnw
          refine (ownN_any A3 c3 Ws Y3 HVL.out.nil (by omega) ((HVL.out.below HCd.out.hb).more HCd.out.hb.size).ww).mono ?_
          rintro e w5 ⟨rfl, hk5, hb5⟩
          have HC5 := Lib.hid (HCd.out.below hb5)
          have HK5 := Lib.hid hk5
          have z0 := HC5.out.hz.cell (j := 0) (by simp)
          have z1 := HC5.out.hz.cell (j := 1) (by simp)
          have z2 := HC5.out.hz.cell (j := 2) (by simp)
          have z3 := HC5.out.hz.cell (j := 3) (by simp)
          have zf := HC5.out.hz.frozen
          have hgw := HCd.out.hz.lt
          simp only [List.getElem_cons_zero, List.getElem_cons_succ] at z0 z1 z2 z3
          clear hk5 hb5 HC1 HC2 HCd hSY1 hSY2
          generalize hgW : Y3.heap.size = gW at *
          go_wp2_with fail
          have hg1 := HC5.out.h1
          have hg2 := HC5.out.h2
          have hzz := (HC5.out.hz.set 3 (.slice (some ⟨gW, 0, none⟩) Ws.length Ws.length))
          simp only [List.set_cons_succ, List.set_cons_zero] at hzz
          have hzf := cat_all4 hzz (.slice (some ⟨gK, 0, none⟩) 16 16) (.slice (some ⟨gR, 0, none⟩) 16 16) (.int .i64 0) (.slice (some ⟨gW, 0, none⟩) Ws.length Ws.length)
          refine bodyPost_ret (view_res rfl _ _ (w.heap.size + 2) _ rfl hzf rfl) rfl ?_
          refine ⟨⟨⟨gK, 0, none⟩, 16, ⟨gR, 0, none⟩, 16, 0, some ⟨gW, 0, none⟩, Ws.length, callK.set 15 true, (savR Ws base (keptL 0 Rn) pa).set 15 base, Ws⟩, rfl, ?_, rfl, rfl, rfl, below_all (HC5.out.hb.setCell (p := ⟨w.heap.size + 2, 3, none⟩) (by dsimp only; omega) _) (by omega) _ _ _ _, by dsimp only; omega, by dsimp only; omega, fun a e => by injection e with e; subst e; dsimp only; omega⟩
          have r1 := (HC5.out.hk.other (p := ⟨w.heap.size + 2, 3, none⟩) (by dsimp only; omega) (.slice (some ⟨gW, 0, none⟩) Ws.length Ws.length)).all4o (b := w.heap.size + 2) (by omega) (.slice (some ⟨gK, 0, none⟩) 16 16) (.slice (some ⟨gR, 0, none⟩) 16 16) (.int .i64 0) (.slice (some ⟨gW, 0, none⟩) Ws.length Ws.length)
          have r2 := (HC5.out.hr.other (p := ⟨w.heap.size + 2, 3, none⟩) (by dsimp only; omega) (.slice (some ⟨gW, 0, none⟩) Ws.length Ws.length)).all4o (b := w.heap.size + 2) (by omega) (.slice (some ⟨gK, 0, none⟩) 16 16) (.slice (some ⟨gR, 0, none⟩) 16 16) (.int .i64 0) (.slice (some ⟨gW, 0, none⟩) Ws.length Ws.length)
          have r3 := (HK5.out.other (p := ⟨w.heap.size + 2, 3, none⟩) (by dsimp only; omega) (.slice (some ⟨gW, 0, none⟩) Ws.length Ws.length)).all4o (b := w.heap.size + 2) (by omega) (.slice (some ⟨gK, 0, none⟩) 16 16) (.slice (some ⟨gR, 0, none⟩) 16 16) (.int .i64 0) (.slice (some ⟨gW, 0, none⟩) Ws.length Ws.length)
          refine ⟨by simp [callK], ?_, Nat.le_refl _, Nat.le_refl _, r1.lies, ?_, r3.lies, (fun e => by cases e), hnw⟩
          · have := HLR.out
            rw [← hkl] at this
            simpa using this
          · have := r2.lies
            rw [← hkl] at this
            exact this
end Go.Proofs.Ytpbopehhalicjaa
