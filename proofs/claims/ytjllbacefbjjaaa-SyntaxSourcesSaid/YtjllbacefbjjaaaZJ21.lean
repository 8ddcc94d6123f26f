/-
  Merged for a claim: KS, S1H, S3L, SNB.
-/
import Derived.Test.YtjllbacefbjjaaaZJ8
import Derived.Test.YtjllbacefbjjaaaZJ19
import Derived.Defers
import Derived.Recover
import Derived.Laws.Pointers
import Derived.Test.YtjllbacefbjjaaaZS3K
import Derived.Test.YtjllbacefbjjaaaZSNA
namespace Go.Proofs.Ytjllbacefbjjaaa
open Go

section
variable {P : Program} {fn : Func} {p u v : Tmp} {ty : TypeId}
theorem run_loadVar_int {k : IntKind} {t : TypeId} (hu : P.underlying t = some (.int k)) {w : World} {a : Addr} {x : Value} (hc : w.cell? a = some x) : (loadVar t a).run P w = .ok x w := by
 have hagg : (isAgg t).run P w = .ok false w := by
  unfold isAgg
  rw [Sem.run_bind, run_underlying hu w]
  rfl
 simp [loadVar, Sem.run_bind, hagg, run_load, hc]
theorem res_row_cell2 {t1 t2 : TypeId} {k1 k2 : IntKind} (h : fn.results = #[.cell p ty, .cell u t1, .cell v t2]) (tmps : Array Value) (w : World) (g g1 g2 : Nat) (t : TypeId) (cs : Array Value) (fr : Nat × Nat) (d : TypeDesc) (x1 x2 : Value)
 (hp : tmps.getD p undef = .pointer (some ⟨g, 0, none⟩)) (hp1 : tmps.getD u undef = .pointer (some ⟨g1, 0, none⟩)) (hp2 : tmps.getD v undef = .pointer (some ⟨g2, 0, none⟩)) (hg : w.heap[g]? = some (.cells cs t fr))
 (hu : P.underlying ty = some d) (hd : (match d with | .struct _ | .array _ _ => true | _ => false) = true) (hi : (P.info? ty).map (·.size) = some cs.size)
 (h1 : P.underlying t1 = some (.int k1)) (h2 : P.underlying t2 = some (.int k2)) (c1 : w.cell? ⟨g1, 0, none⟩ = some x1) (c2 : w.cell? ⟨g2, 0, none⟩ = some x2) :
 (results fn tmps).run P w = .ok (.tuple #[.agg cs, x1, x2]) w := by
 have hp' : tmps[p]?.getD undef = .pointer (some ⟨g, 0, none⟩) := by simpa using hp
 have hp1' : tmps[u]?.getD undef = .pointer (some ⟨g1, 0, none⟩) := by simpa using hp1
 have hp2' : tmps[v]?.getD undef = .pointer (some ⟨g2, 0, none⟩) := by simpa using hp2
 simp [results, h, hp', hp1', hp2', asAddr, run_loadVar_row w g t ty cs fr d hg hu hd hi, run_loadVar_int h1 c1, run_loadVar_int h2 c2]
end

end Go.Proofs.Ytjllbacefbjjaaa

namespace Go.Proofs.Ytjllbacefbjjaaa
open Go Go.RowKit

theorem dcs_any (l : List DcM) : (l.map DcM.d).any (fun d => decide (40 < stsD d.bd)) = l.any fun d => decide (40 < stsD (xssd d.bd)) := by
 rw [List.any_map]
 rfl
set_option maxRecDepth 100000 in
set_option maxHeartbeats 4000000 in
theorem deep_any (P : Nat → Prop) (m : PgM) (W : World) (hO : m.Ok W P) (hF : m.d.few) :
 Calls Try.prog 18 #[.agg m.cs.toArray] W (fun e w' => e = .returned (.bool (deepP m.d)) ∧ Below W.heap.size W w') := by
 obtain ⟨A1, c1, ss, A2, c2, ks⟩ := m
 obtain ⟨hR1, hR, hS, hD⟩ := hO
 obtain ⟨hf1, hf2, hf3⟩ := hF
 have hks : ks.length ≤ 1000000 := by
  have := hf1
  simp [PgM.d, mostT] at this
  omega
 obtain ⟨r, hr⟩ : ∃ r, deepP (PgM.mk A1 c1 ss A2 c2 ks).d = r := ⟨_, rfl⟩
 rw [hr]
 have HR := Lib.hid (show r = ks.any fun d => decide (40 < stsD (xssd d.bd)) by rw [← hr, ← dcs_any]; rfl)
 have HRow := Lib.hid (show RowP eDc W P A2 c2 ks from hR)
 have HO := Lib.hid (show ∀ d ∈ ks, d.Ok W P from hD)
 have HF := Lib.hid (show ∀ d ∈ ks, d.d.few from fun d q => hf3 d.d (List.mem_map.2 ⟨d, q, rfl⟩))
 have hb0 := below_lnew W (.cells #[.slice A1 ss.length c1, .slice A2 ks.length c2] 27)
 have HB0 := Lib.hid hb0
 have hnew := heap_alloc_new W (.cells #[.slice A1 ss.length c1, .slice A2 ks.length c2] 27)
 clear hr hR1 hR hS hD hf1 hf2 hf3 hb0
 unfold PgM.cs
 dsimp only
 go_enter Try.func18, Try.ntmps18
 go_wp2_with fail
 obtain ⟨W1, hW1⟩ : ∃ W1, W.alloc (.cells #[.slice A1 ss.length c1, .slice A2 ks.length c2] 27) = W1 := ⟨_, rfl⟩
 rw [hW1] at HB0 ⊢
 clear hW1 hnew
 go_loopw [8] (fun i wr => ∃ k : Nat, k ≤ ks.length ∧ i = .int .i64 k ∧ Hid (∀ j (hj : j < ks.length), j < k → decide (40 < stsD (xssd ks[j].bd)) = false) ∧ Hid (Below W.heap.size W wr)) (fun i _ => ks.length - (intOf i).toNat)
 case atStart => exact ⟨0, by omega, rfl, fun j _ h => absurd h (by omega), HB0.out⟩
 case round =>
  obtain ⟨k, hk, rfl, hno, hB⟩ := hrel
  clear HB0
  by_cases hlt : k < ks.length
  · have hRw := HRow.out.keep (w' := wr) (Q := P) (fun g _ ht => hB.out.block g ht.lt) (fun _ q => q)
    obtain ⟨g, o, rfl, hg, hcell⟩ := hRw.1.lies.at_ hlt
    have hko := HO.out _ (List.getElem_mem hlt)
    have hfe := (HF.out _ (List.getElem_mem hlt)).2
    have HK := Lib.hid (show ∀ b, decide (40 < stsD (xssd ks[k].bd)) = b → (b = true → r = true) ∧ (b = false → ∀ j (hj : j < ks.length), j < k + 1 → decide (40 < stsD (xssd ks[j].bd)) = false) from fun b hb => ⟨fun e => by rw [HR.out]; exact any_at _ hlt (hb.trans e), fun e j hj hjk => by
     by_cases hjk2 : j < k
     · exact hno.out j hj hjk2
     · obtain rfl : j = k := by omega
       exact hb.trans e⟩)
    generalize ks[k] = t at *
    obtain ⟨nm, ln, pA, pc, ps, ⟨tk, tn, tm⟩, bA, bc, bd⟩ := t
    have d0 := hcell 0 _ rfl
    have d1 := hcell 1 _ rfl
    have d2 := hcell 2 _ rfl
    have d3 := hcell 3 _ rfl
    have d4 := hcell 4 _ rfl
    have d5 := hcell 5 _ rfl
    have d6 := hcell 6 _ rfl
    simp only [Nat.add_zero, show eDc.sz = 7 from rfl] at d0 d1 d2 d3 d4 d5 d6
    have hbb := below_lnew wr (.cells #[.string (str nm), .int .i64 ln, .slice pA ps.length pc, .int .u8 tk, .int .i64 tn, .string (str tm), .slice bA bd.length bc] 48)
    have hBB := hB.out.trans (hbb.mono hB.out.size)
    have HC := Lib.hid (deepList_any P 40 bA bc bd (wr.alloc (.cells #[.string (str nm), .int .i64 ln, .slice pA ps.length pc, .int .u8 tk, .int .i64 tn, .string (str tm), .slice bA bd.length bc] 48)) (Nat.le_refl _)
     (RowP.keep hko.2.1 (fun g _ ht => hBB.block g ht.lt) (fun _ q => q)) (xssOk.keep (fun g _ ht => hBB.block g ht.lt) (fun g _ ht => hBB.block g ht.lt) (fun _ q => q) _ hko.2.2) hfe)
    have HBB := Lib.hid hBB
    have hnew := heap_alloc_new wr (.cells #[.string (str nm), .int .i64 ln, .slice pA ps.length pc, .int .u8 tk, .int .i64 tn, .string (str tm), .slice bA bd.length bc] 48)
    clear hcell hko hfe hno hbb hRw hBB HRow HO HF
    dsimp only at HK
    generalize decide (40 < stsD (xssd bd)) = b at *
    have HK2 := Lib.hid (HK.out b rfl)
    clear HK
    go_wp2_with fail
    refine HC.out.mono ?_
    rintro e w2 ⟨rfl, hb2⟩
    have HB2 := Lib.hid (HBB.out.trans (hb2.mono HBB.out.size))
    clear hb2 HC hnew
    cases b
    · have HN := Lib.hid (HK2.out.2 rfl)
      go_wp2_with fail
      go_roundw
      case rel => exact ⟨k + 1, by omega, by go_num, HN, HB2⟩
      case measure => simp [intOf]; omega
    · have hT := HK2.out.1 rfl
      go_wp2_with fail
      go_ret
      exact ⟨by rw [hT]; rfl, HB2.out⟩
  · obtain rfl : k = ks.length := by omega
    have hT : r = false := by
     rw [HR.out]
     exact any_take _ ks ks.length (fun j hj hjk => hno.out j hj hjk) (Nat.le_refl _)
    go_wp2_with fail
    go_ret
    exact ⟨by rw [hT]; rfl, hB.out⟩
set_option maxRecDepth 100000 in
theorem catchP_thrown (gp gx ga ge : Nat) (x0 x1 x2 x3 y0 : Value) (k : Int) (w : World) (hp : CAt w gp 57 [y0, .int .i64 k]) (hx : CAt w gx 27 [x0, x1]) (ha : CAt w ga 3 [x2]) (he : CAt w ge 28 [x3]) :
 CallsD Try.prog 16 #[.pointer (some ⟨gp, 0, none⟩), .pointer (some ⟨gx, 0, none⟩), .pointer (some ⟨ga, 0, none⟩), .pointer (some ⟨ge, 0, none⟩)] (.panicking misC) w fun e u' w' =>
  e = .returned (.tuple #[]) ∧ u' = .panicking [{ v := .iface 59 (.agg #[]), recovered := true }] ∧ w' = (((((w.alloc (.cells #[] 59)).setCell ⟨gx, 0, none⟩ (.slice none 0 0)).setCell ⟨gx, 1, none⟩ (.slice none 0 0)).setCell ⟨ga, 0, none⟩ (.int .i64 k)).setCell ⟨ge, 0, none⟩ (.int .i64 7)) := by
 unfold misC
 have hta : ∀ w : World, (Instr.typeAssert (.iface 59 (.agg #[])) 20 59 true).run Try.prog w = .ok (.tuple #[.agg #[], .bool true]) w := fun w => by kernel_rfl
 have hb := below_lnew w (.cells #[] 59)
 have hp1 := (hp.below hb hp.lt).cell (j := 1) (by simp)
 have hx0 := (hx.below hb hx.lt).cell (j := 0) (by simp)
 have hx1 := (hx.below hb hx.lt).cell (j := 1) (by simp)
 have ha0 := (ha.below hb ha.lt).cell (j := 0) (by simp)
 have he0 := (he.below hb he.lt).cell (j := 0) (by simp)
 have fx0 := (hx.below hb hx.lt).frozen 0
 have fx1 := (hx.below hb hx.lt).frozen 1
 have fa0 := (ha.below hb ha.lt).frozen 0
 have fe0 := (he.below hb he.lt).frozen 0
 simp only [List.getElem_cons_zero, List.getElem_cons_succ] at hp1 hx0 hx1 ha0 he0
 refine callsD_of_wpS Try.func16 rfl fun c₀ cs hu => ?_
 apply wpS_seq
 apply wpS_region
 simp [wpOpsS, go_sem, recoverD, hu, Try.ntmps16, Exit.thenS, hta]
 apply wpS_seq
 apply wpS_region
 simp [wpOpsS, go_sem, Exit.thenS]
 refine wpS_cond (t := true) (by simp [Act.eval, Array.replicate]) ?_
 simp only [if_true]
 refine wpS_of_wp ?_
 have h1 : gx ≠ ga := fun e => by subst e; exact absurd (HasT.one ⟨_, _, hx⟩ ⟨_, _, ha⟩) (by decide)
 have h2 : gx ≠ ge := fun e => by subst e; exact absurd (HasT.one ⟨_, _, hx⟩ ⟨_, _, he⟩) (by decide)
 have h3 : ga ≠ ge := fun e => by subst e; exact absurd (HasT.one ⟨_, _, ha⟩ ⟨_, _, he⟩) (by decide)
 clear hp hx ha he hb
 simp only [Array.replicate]
 generalize w.alloc (.cells #[] 59) = w1 at *
 go_wp2_with fail
 cases c₀
 simp_all [bodyPostS, results, Try.results16]
theorem catchP_idle (p0 p1 p2 p3 : Value) (w : World) :
 CallsD Try.prog 16 #[p0, p1, p2, p3] .returning w fun e u' w' => e = .returned (.tuple #[]) ∧ u' = .returning ∧ w' = w.alloc (.cells #[] 59) := by
 have hta : ∀ w : World, (Instr.typeAssert .nilIface 20 59 true).run Try.prog w = .ok (.tuple #[.agg #[], .bool false]) w := fun w => by kernel_rfl
 refine callsD_of_wpS Try.func16 rfl fun c₀ cs hu => ?_
 apply wpS_seq
 apply wpS_region
 simp [wpOpsS, go_sem, recoverD, hu, Try.ntmps16, Exit.thenS, hta]
 apply wpS_seq
 apply wpS_region
 simp [wpOpsS, go_sem, Exit.thenS]
 refine wpS_cond (t := false) (by simp [Act.eval, Array.replicate]) ?_
 simp only [Bool.false_eq_true, if_false]
 refine wpS_of_wp (wp_skip ?_)
 cases c₀
 simp_all [bodyPostS, results, Try.results16]
end Go.Proofs.Ytjllbacefbjjaaa

namespace Go.Proofs.Ytjllbacefbjjaaa
open Go Go.RowKit

set_option maxRecDepth 100000 in
set_option maxHeartbeats 2000000 in
theorem rdeep_any (P : Nat → Prop) (m : PgM) (W : World) (hO : m.Ok W P) (hF : m.d.few) (hH : ∀ d ∈ m.d.fs, stsH d.bd ≤ 1000000) :
 Calls Try.prog 14 #[.agg m.cs.toArray] W (fun e w' => e = .returned (.bool (deepP m.d)) ∧ Below W.heap.size W w') := by
 obtain ⟨A1, c1, ss, A2, c2, ks⟩ := m
 obtain ⟨hR1, hR, hS, hD⟩ := hO
 obtain ⟨hf1, hf2, hf3⟩ := hF
 have hks : ks.length ≤ 1000000 := by
  have := hf1
  simp [PgM.d, mostT] at this
  omega
 obtain ⟨r, hr⟩ : ∃ r, deepP (PgM.mk A1 c1 ss A2 c2 ks).d = r := ⟨_, rfl⟩
 rw [hr]
 have HR := Lib.hid (show r = ks.any fun d => decide (40 < stsD (xssd d.bd)) by rw [← hr, ← dcs_any]; rfl)
 have HRow := Lib.hid (show RowP eDc W P A2 c2 ks from hR)
 have HO := Lib.hid (show ∀ d ∈ ks, d.Ok W P from hD)
 have HF := Lib.hid (show ∀ d ∈ ks, d.d.few from fun d q => hf3 d.d (List.mem_map.2 ⟨d, q, rfl⟩))
 have HT := Lib.hid (show ∀ d ∈ ks, stsH (xssd d.bd) ≤ 1000000 from fun d q => hH d.d (List.mem_map.2 ⟨d, q, rfl⟩))
 have hb0 := below_lnew W (.cells #[.slice A1 ss.length c1, .slice A2 ks.length c2] 27)
 have HB0 := Lib.hid hb0
 have hnew : CAt (W.alloc (.cells #[.slice A1 ss.length c1, .slice A2 ks.length c2] 27)) W.heap.size 27 [.slice A1 ss.length c1, .slice A2 ks.length c2] := heap_alloc_new W _
 clear hr hR1 hR hS hD hf1 hf2 hf3 hb0 hH
 unfold PgM.cs
 dsimp only
 go_enter Try.func14, Try.ntmps14
 go_wp2_with fail
 obtain ⟨W1, hW1⟩ : ∃ W1, W.alloc (.cells #[.slice A1 ss.length c1, .slice A2 ks.length c2] 27) = W1 := ⟨_, rfl⟩
 rw [hW1] at HB0 hnew ⊢
 have HN := Lib.hid hnew
 clear hW1 hnew
 go_loopw [3] (fun i wr => ∃ k : Nat, k ≤ ks.length ∧ i = .int .i64 k ∧ Hid (∀ j (hj : j < ks.length), j < k → decide (40 < stsD (xssd ks[j].bd)) = false) ∧ Hid (Below W1.heap.size W1 wr)) (fun i _ => ks.length - (intOf i).toNat)
 case atStart => exact ⟨0, by omega, rfl, fun j _ h => absurd h (by omega), Below.refl _ _⟩
 case round =>
  obtain ⟨k, hk, rfl, hno, hB1⟩ := hrel
  have hB := Lib.hid (HB0.out.trans (hB1.out.mono HB0.out.size))
  have hcb := HN.out.below hB1.out HN.out.lt
  have p1 := hcb.cell (j := 1) (by simp)
  simp only [List.getElem_cons_zero, List.getElem_cons_succ] at p1
  have l0 : W.heap.size < wr.heap.size := hcb.lt
  clear hcb
  by_cases hlt : k < ks.length
  · have hRw := HRow.out.keep (w' := wr) (Q := P) (fun g _ ht => hB.out.block g ht.lt) (fun _ q => q)
    obtain ⟨g, o, rfl, hg, hcell⟩ := hRw.1.lies.at_ hlt
    have hko := HO.out _ (List.getElem_mem hlt)
    have hfe := (HF.out _ (List.getElem_mem hlt)).2
    have hte := HT.out _ (List.getElem_mem hlt)
    have HK := Lib.hid (show ∀ b, decide (40 < stsD (xssd ks[k].bd)) = b → (b = true → r = true) ∧ (b = false → ∀ j (hj : j < ks.length), j < k + 1 → decide (40 < stsD (xssd ks[j].bd)) = false) from fun b hb => ⟨fun e => by rw [HR.out]; exact any_at _ hlt (hb.trans e), fun e j hj hjk => by
     by_cases hjk2 : j < k
     · exact hno.out j hj hjk2
     · obtain rfl : j = k := by omega
       exact hb.trans e⟩)
    generalize ks[k] = t at *
    obtain ⟨nm, ln, pA, pc, ps, ⟨tk, tn, tm⟩, bA, bc, bd⟩ := t
    have d6 := hcell 6 _ rfl
    simp only [show eDc.sz = 7 from rfl] at d6
    have HC := Lib.hid (rdeepest_any P 1000000 bA bc bd wr hte (Nat.le_refl _)
     (RowP.keep hko.2.1 (fun g _ ht => hB.out.block g ht.lt) (fun _ q => q)) (xssOk.keep (fun g _ ht => hB.out.block g ht.lt) (fun g _ ht => hB.out.block g ht.lt) (fun _ q => q) _ hko.2.2) hfe)
    have hki : (k : Int) < (ks.length : Int) := by omega
    have hDD := stsR_deep (xssd bd)
    have hD1 := stsR_ht (xssd bd) 0
    dsimp only at hte HK
    have hD2 : stsR (xssd bd) 0 ≤ 1000041 := by omega
    clear hcell hko hfe hno hRw HRow HO HF HT hte hD1
    generalize stsR (xssd bd) 0 = D at *
    rw [← hDD] at HK
    have HK2 := Lib.hid (HK.out _ rfl)
    clear HK hDD
    go_wp2_with fail
    refine HC.out.mono ?_
    rintro e w2 ⟨rfl, hb2⟩
    have HB2 := Lib.hid (hB1.out.trans (hb2.mono hB1.out.size))
    have HB3 := Lib.hid (hB.out.trans (hb2.mono hB.out.size))
    clear hb2 HC p1 d6
    by_cases hq : 40 < D
    · have hqi : (40 : Int) < (D : Int) := by omega
      have hT := Lib.hid (HK2.out.1 (decide_eq_true hq))
      go_wp2_with fail
      go_ret
      exact ⟨by rw [hT.out]; rfl, HB3.out⟩
    · have hqi : ¬ (40 : Int) < (D : Int) := by omega
      have HN2 := Lib.hid (HK2.out.2 (decide_eq_false hq))
      clear HK2 hq
      go_wp2_with fail
      go_roundw
      case rel => exact ⟨k + 1, by omega, by go_num, HN2, HB2⟩
      case measure => simp [intOf]; omega
  · obtain rfl : k = ks.length := by omega
    have hT := Lib.hid (show r = false by
     rw [HR.out]
     exact any_take _ ks ks.length (fun j hj hjk => hno.out j hj hjk) (Nat.le_refl _))
    go_wp2_with fail
    go_ret
    exact ⟨by rw [hT.out]; rfl, hB.out⟩
end Go.Proofs.Ytjllbacefbjjaaa

namespace Go.Proofs.Ytjllbacefbjjaaa
open Go

def Sg {α : Type} (f f' : List To → R α) : Prop := ∀ u x v b, f u = .ok x v → f' (u ++ b) = .out ∨ f' (u ++ b) = .ok x (v ++ b)
def No {α : Type} (f : List To → R α) : Prop := ∀ x v, f [] ≠ .ok x v
section
variable {α β : Type} {f f' g g' : List To → R α}
theorem Sg.ok (x : α) : Sg (fun u => .ok x u) (fun u => .ok x u) := fun u y v b h => by
 injection h with h1 h2
 subst h1 h2
 exact .inr rfl
theorem Sg.bind {k k' : α → List To → R β} (h : Lo f f') (h0 : ∀ x, No (k x)) (hk : ∀ x, Sg (k x) (k' x)) : Sg (fun u => (f u).bind k) (fun u => (f' u).bind k') := fun u y w b e => by
 obtain ⟨x, v, e1, e2⟩ := bind_is e
 have h1 := h.all u b
 rw [e1] at h1
 rcases h1 with h1 | h1
 · exact .inl (by dsimp only; rw [h1]; rfl)
 · dsimp only at h1
   rw [if_neg (by rintro rfl; exact h0 x _ _ e2)] at h1
   dsimp only
   rw [h1, R.bind_ok]
   exact hk x v y w b e2
theorem Sg.ifTl {p : List To → Prop} [DecidablePred p] (hp : ∀ t v b, p (t :: v ++ b) ↔ p (t :: v)) {k k' : To → List To → R α} (h : ∀ t, Sg (k t) (k' t)) (h0 : ¬ p []) (hn : No g) (h2 : Sg g g') :
 Sg (fun u => if p u then k (hd u) u.tail else g u) (fun u => if p u then k' (hd u) u.tail else g' u) := fun u x v b e => by
 dsimp only at e ⊢
 cases u with
 | nil =>
  rw [if_neg h0] at e
  exact absurd e (hn _ _)
 | cons t u =>
  by_cases hq : p (t :: u)
  · rw [if_pos hq] at e
    rw [if_pos ((hp t u b).2 hq)]
    exact h t u x v b e
  · rw [if_neg hq] at e
    rw [if_neg (fun q => hq ((hp t u b).1 q))]
    exact h2 _ x v b e
theorem Sg.bad : Sg (fun u => (.bad u : R α)) (fun u => .bad u) := fun u x v b h => by cases h
theorem No.bad : No (fun u => (.bad u : R α)) := fun x v h => by cases h
theorem Sg.takeS (tx : List UInt8) (h : Sg f f') : Sg (fun u => takeS tx u f) (fun u => takeS tx u f') := Sg.ifTl (p := fun u => isS tx u = true) (isT_cc 4 tx) (k := fun _ v => f v) (k' := fun _ v => f' v) (fun _ => h) (by intro q; cases q) No.bad Sg.bad
theorem Sg.takeW (tx : List UInt8) (h : Sg f f') : Sg (fun u => takeW tx u f) (fun u => takeW tx u f') := Sg.ifTl (p := fun u => isW tx u = true) (isT_cc 3 tx) (k := fun _ v => f v) (k' := fun _ v => f' v) (fun _ => h) (by intro q; cases q) No.bad Sg.bad
theorem Sg.takeK (kd : Int) {k k' : To → List To → R α} (h : ∀ t, Sg (k t) (k' t)) : Sg (fun u => takeK kd u k) (fun u => takeK kd u k') := Sg.ifTl (p := fun u => isK kd u = true) (isK_cc kd) h (by intro q; cases q) No.bad Sg.bad
theorem Sg.fuel {F F' : Nat → List To → R α} (k k' : List To → Nat) (h : ∀ n m, Sg (F n) (F' m)) : Sg (fun u => F (k u) u) (fun u => F' (k' u) u) := fun u x v b e => h _ _ u x v b e
end
def Pg.and (x y : Pg) : Pg := ⟨x.ss ++ y.ss, x.fs ++ y.fs⟩
theorem parP_bad {l u : List To} (h : proP l = .bad u) : parP l = (⟨[], []⟩, (l.length : Int) - u.length, 7) := by
 unfold parP
 rw [h]
theorem parP_ok {l : List To} {x : Pg} (h : proP l = .ok x []) : parP l = if deepP x = true then (⟨[], []⟩, 0, 11) else (x, 0, 0) := by
 unfold parP
 rw [h]
theorem proP_cases (l : List To) : (∃ u, proP l = .bad u ∧ u.length ≤ l.length) ∨ ∃ x, proP l = .ok x [] := by
 have hm := proP_lo.m l
 rcases h : proP l with ⟨x, v⟩ | v | _
 · rw [proP_end h]
   exact .inr ⟨x, rfl⟩
 · rw [h] at hm
   exact .inl ⟨v, rfl, hm⟩
 · exact absurd h (proP_out l)
end Go.Proofs.Ytjllbacefbjjaaa
