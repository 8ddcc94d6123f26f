/-
  Merged for a claim: KS, S1H, SNB.
-/
import Derived.Test.YtcgohlooelojfaaJJ6
import Derived.Test.YtcgohlooelojfaaJS1G
import Derived.Defers
import Derived.Recover
import Derived.Laws.Pointers
import Derived.Test.YtcgohlooelojfaaJSNA
namespace Go.Proofs.Ytcgohlooelojfaa
open Go

section
variable {P : Program} {fn : Func} {p u v : Tmp} {ty : TypeId}
theorem run_loadVar_int {k : IntKind} {t : TypeId} (hu : P.underlying t = some (.int k)) {w : World} {a : Addr} {x : Value} (hc : w.cell? a = some x) : (loadVar t a).run P w = .ok x w := by
  have hagg : (isAgg t).run P w = .ok false w := by
    unfold isAgg
    rw [Sem.run_bind, run_underlying hu w]
    rfl
  simp [loadVar, Sem.run_bind, hagg, run_load, hc]
theorem res_row_cell2 {t1 t2 : TypeId} {k1 k2 : IntKind} (h : fn.results = #[.cell p ty, .cell u t1, .cell v t2]) (tmps : Array Value) (w : World) (g g1 g2 : Nat) (t : TypeId) (cs : Array Value) (fr : Nat × Nat) (d : TypeDesc) (x1 x2 : Value)
    (hp : tmps.getD p undef = .pointer (some ⟨g, 0, none⟩)) (hp1 : tmps.getD u undef = .pointer (some ⟨g1, 0, none⟩)) (hp2 : tmps.getD v undef = .pointer (some ⟨g2, 0, none⟩)) (hg : w.heap[g]? = some (.cells cs t fr))
    (hu : P.underlying ty = some d) (hd : (match d with | .struct _ | .array _ _ => true | _ => false) = true) (hi : (P.info? ty).map (·.size) = some cs.size)
    (h1 : P.underlying t1 = some (.int k1)) (h2 : P.underlying t2 = some (.int k2)) (c1 : w.cell? ⟨g1, 0, none⟩ = some x1) (c2 : w.cell? ⟨g2, 0, none⟩ = some x2) :
    (results fn tmps).run P w = .ok (.tuple #[.agg cs, x1, x2]) w := by
  have hp' : tmps[p]?.getD undef = .pointer (some ⟨g, 0, none⟩) := by simpa using hp
  have hp1' : tmps[u]?.getD undef = .pointer (some ⟨g1, 0, none⟩) := by simpa using hp1
  have hp2' : tmps[v]?.getD undef = .pointer (some ⟨g2, 0, none⟩) := by simpa using hp2
  simp [results, h, hp', hp1', hp2', asAddr, run_loadVar_row w g t ty cs fr d hg hu hd hi, run_loadVar_int h1 c1, run_loadVar_int h2 c2]
end

end Go.Proofs.Ytcgohlooelojfaa

namespace Go.Proofs.Ytcgohlooelojfaa
open Go Go.RowKit

theorem dcs_any (l : List DcM) : (l.map DcM.d).any (fun d => decide (40 < stsD d.bd)) = l.any fun d => decide (40 < stsD (xssd d.bd)) := by
  rw [List.any_map]
  rfl
set_option maxRecDepth 100000 in
set_option maxHeartbeats 4000000 in
theorem deep_any (P : Nat → Prop) (m : PgM) (W : World) (hO : m.Ok W P) (hF : m.d.few) :
    Calls Try.prog 20 #[.agg m.cs.toArray] W (fun e w' => e = .returned (.bool (deepP m.d)) ∧ Below W.heap.size W w') := by
  obtain ⟨A1, c1, ss, A2, c2, ks⟩ := m
  obtain ⟨hR1, hR, hS, hD⟩ := hO
  obtain ⟨hf1, hf2, hf3⟩ := hF
  have hks : ks.length ≤ 1000000 := by
    have := hf1
    simp [PgM.d, mostT] at this
    omega
  obtain ⟨r, hr⟩ : ∃ r, deepP (PgM.mk A1 c1 ss A2 c2 ks).d = r := ⟨_, rfl⟩
  rw [hr]
  have HR := Lib.hid (show r = ks.any fun d => decide (40 < stsD (xssd d.bd)) by rw [← hr, ← dcs_any]; rfl)
  have HRow := Lib.hid (show RowP eDc W P A2 c2 ks from hR)
  have HO := Lib.hid (show ∀ d ∈ ks, d.Ok W P from hD)
  have HF := Lib.hid (show ∀ d ∈ ks, d.d.few from fun d q => hf3 d.d (List.mem_map.2 ⟨d, q, rfl⟩))
  have hb0 := below_lnew W (.cells #[.slice A1 ss.length c1, .slice A2 ks.length c2] 27)
  have HB0 := Lib.hid hb0
  have hnew := heap_alloc_new W (.cells #[.slice A1 ss.length c1, .slice A2 ks.length c2] 27)
  clear hr hR1 hR hS hD hf1 hf2 hf3 hb0
  unfold PgM.cs
  dsimp only
  go_enter Try.func20, Try.ntmps20
  go_wp2_with fail
  obtain ⟨W1, hW1⟩ : ∃ W1, W.alloc (.cells #[.slice A1 ss.length c1, .slice A2 ks.length c2] 27) = W1 := ⟨_, rfl⟩
  rw [hW1] at HB0 ⊢
  clear hW1 hnew
  go_loopw [8] (fun i wr => ∃ k : Nat, k ≤ ks.length ∧ i = .int .i64 k ∧ Hid (∀ j (hj : j < ks.length), j < k → decide (40 < stsD (xssd ks[j].bd)) = false) ∧ Hid (Below W.heap.size W wr)) (fun i _ => ks.length - (intOf i).toNat)
  case atStart => exact ⟨0, by omega, rfl, fun j _ h => absurd h (by omega), HB0.out⟩
  case round =>
    obtain ⟨k, hk, rfl, hno, hB⟩ := hrel
    clear HB0
    by_cases hlt : k < ks.length
    · have hRw := HRow.out.keep (w' := wr) (Q := P) (fun g _ ht => hB.out.block g ht.lt) (fun _ q => q)
      obtain ⟨g, o, rfl, hg, hcell⟩ := hRw.1.lies.at_ hlt
      have hko := HO.out _ (List.getElem_mem hlt)
      have hfe := (HF.out _ (List.getElem_mem hlt)).2
      have HK := Lib.hid (show ∀ b, decide (40 < stsD (xssd ks[k].bd)) = b → (b = true → r = true) ∧ (b = false → ∀ j (hj : j < ks.length), j < k + 1 → decide (40 < stsD (xssd ks[j].bd)) = false) from fun b hb => ⟨fun e => by rw [HR.out]; exact any_at _ hlt (hb.trans e), fun e j hj hjk => by
        by_cases hjk2 : j < k
        · exact hno.out j hj hjk2
        · obtain rfl : j = k := by omega
          exact hb.trans e⟩)
      generalize ks[k] = t at *
      obtain ⟨nm, ln, pA, pc, ps, ⟨tk, tn, tm⟩, bA, bc, bd⟩ := t
      have d0 := hcell 0 _ rfl
      have d1 := hcell 1 _ rfl
      have d2 := hcell 2 _ rfl
      have d3 := hcell 3 _ rfl
      have d4 := hcell 4 _ rfl
      have d5 := hcell 5 _ rfl
      have d6 := hcell 6 _ rfl
      simp only [Nat.add_zero, show eDc.sz = 7 from rfl] at d0 d1 d2 d3 d4 d5 d6
      have hbb := below_lnew wr (.cells #[.string (str nm), .int .i64 ln, .slice pA ps.length pc, .int .u8 tk, .int .i64 tn, .string (str tm), .slice bA bd.length bc] 50)
      have hBB := hB.out.trans (hbb.mono hB.out.size)
      have HC := Lib.hid (deepList_any P 40 bA bc bd (wr.alloc (.cells #[.string (str nm), .int .i64 ln, .slice pA ps.length pc, .int .u8 tk, .int .i64 tn, .string (str tm), .slice bA bd.length bc] 50)) (Nat.le_refl _)
        (RowP.keep hko.2.1 (fun g _ ht => hBB.block g ht.lt) (fun _ q => q)) (xssOk.keep (fun g _ ht => hBB.block g ht.lt) (fun g _ ht => hBB.block g ht.lt) (fun _ q => q) _ hko.2.2) hfe)
      have HBB := Lib.hid hBB
      have hnew := heap_alloc_new wr (.cells #[.string (str nm), .int .i64 ln, .slice pA ps.length pc, .int .u8 tk, .int .i64 tn, .string (str tm), .slice bA bd.length bc] 50)
      clear hcell hko hfe hno hbb hRw hBB HRow HO HF
      dsimp only at HK
      generalize decide (40 < stsD (xssd bd)) = b at *
      have HK2 := Lib.hid (HK.out b rfl)
      clear HK
      go_wp2_with fail
      refine HC.out.mono ?_
      rintro e w2 ⟨rfl, hb2⟩
      have HB2 := Lib.hid (HBB.out.trans (hb2.mono HBB.out.size))
      clear hb2 HC hnew
      cases b
      · have HN := Lib.hid (HK2.out.2 rfl)
        go_wp2_with fail
        go_roundw
        case rel => exact ⟨k + 1, by omega, by go_num, HN, HB2⟩
        case measure => simp [intOf]; omega
      · have hT := HK2.out.1 rfl
        go_wp2_with fail
        go_ret
        exact ⟨by rw [hT]; rfl, HB2.out⟩
    · obtain rfl : k = ks.length := by omega
      have hT : r = false := by
        rw [HR.out]
        exact any_take _ ks ks.length (fun j hj hjk => hno.out j hj hjk) (Nat.le_refl _)
      go_wp2_with fail
      go_ret
      exact ⟨by rw [hT]; rfl, hB.out⟩
set_option maxRecDepth 100000 in
theorem catchP_thrown (gp gx ga ge : Nat) (x0 x1 x2 x3 y0 : Value) (k : Int) (w : World) (hp : CAt w gp 59 [y0, .int .i64 k]) (hx : CAt w gx 27 [x0, x1]) (ha : CAt w ga 3 [x2]) (he : CAt w ge 28 [x3]) :
    CallsD Try.prog 18 #[.pointer (some ⟨gp, 0, none⟩), .pointer (some ⟨gx, 0, none⟩), .pointer (some ⟨ga, 0, none⟩), .pointer (some ⟨ge, 0, none⟩)] (.panicking misC) w fun e u' w' =>
      e = .returned (.tuple #[]) ∧ u' = .panicking [{ v := .iface 61 (.agg #[]), recovered := true }] ∧ w' = (((((w.alloc (.cells #[] 61)).setCell ⟨gx, 0, none⟩ (.slice none 0 0)).setCell ⟨gx, 1, none⟩ (.slice none 0 0)).setCell ⟨ga, 0, none⟩ (.int .i64 k)).setCell ⟨ge, 0, none⟩ (.int .i64 7)) := by
  unfold misC
  have hta : ∀ w : World, (Instr.typeAssert (.iface 61 (.agg #[])) 20 61 true).run Try.prog w = .ok (.tuple #[.agg #[], .bool true]) w := fun w => by kernel_rfl
  have hb := below_lnew w (.cells #[] 61)
  have hp1 := (hp.below hb hp.lt).cell (j := 1) (by simp)
  have hx0 := (hx.below hb hx.lt).cell (j := 0) (by simp)
  have hx1 := (hx.below hb hx.lt).cell (j := 1) (by simp)
  have ha0 := (ha.below hb ha.lt).cell (j := 0) (by simp)
  have he0 := (he.below hb he.lt).cell (j := 0) (by simp)
  have fx0 := (hx.below hb hx.lt).frozen 0
  have fx1 := (hx.below hb hx.lt).frozen 1
  have fa0 := (ha.below hb ha.lt).frozen 0
  have fe0 := (he.below hb he.lt).frozen 0
  simp only [List.getElem_cons_zero, List.getElem_cons_succ] at hp1 hx0 hx1 ha0 he0
  refine callsD_of_wpS Try.func18 rfl fun c₀ cs hu => ?_
  apply wpS_seq
  apply wpS_region
  simp [wpOpsS, go_sem, recoverD, hu, Try.ntmps18, Exit.thenS, hta]
  apply wpS_seq
  apply wpS_region
  simp [wpOpsS, go_sem, Exit.thenS]
  refine wpS_cond (t := true) (by simp [Act.eval, Array.replicate]) ?_
  simp only [if_true]
  refine wpS_of_wp ?_
  have h1 : gx ≠ ga := fun e => by subst e; exact absurd (HasT.one ⟨_, _, hx⟩ ⟨_, _, ha⟩) (by decide)
  have h2 : gx ≠ ge := fun e => by subst e; exact absurd (HasT.one ⟨_, _, hx⟩ ⟨_, _, he⟩) (by decide)
  have h3 : ga ≠ ge := fun e => by subst e; exact absurd (HasT.one ⟨_, _, ha⟩ ⟨_, _, he⟩) (by decide)
  clear hp hx ha he hb
  simp only [Array.replicate]
  generalize w.alloc (.cells #[] 61) = w1 at *
  go_wp2_with fail
  cases c₀
  simp_all [bodyPostS, results, Try.results18]
theorem catchP_idle (p0 p1 p2 p3 : Value) (w : World) :
    CallsD Try.prog 18 #[p0, p1, p2, p3] .returning w fun e u' w' => e = .returned (.tuple #[]) ∧ u' = .returning ∧ w' = w.alloc (.cells #[] 61) := by
  have hta : ∀ w : World, (Instr.typeAssert .nilIface 20 61 true).run Try.prog w = .ok (.tuple #[.agg #[], .bool false]) w := fun w => by kernel_rfl
  refine callsD_of_wpS Try.func18 rfl fun c₀ cs hu => ?_
  apply wpS_seq
  apply wpS_region
  simp [wpOpsS, go_sem, recoverD, hu, Try.ntmps18, Exit.thenS, hta]
  apply wpS_seq
  apply wpS_region
  simp [wpOpsS, go_sem, Exit.thenS]
  refine wpS_cond (t := false) (by simp [Act.eval, Array.replicate]) ?_
  simp only [Bool.false_eq_true, if_false]
  refine wpS_of_wp (wp_skip ?_)
  cases c₀
  simp_all [bodyPostS, results, Try.results18]
end Go.Proofs.Ytcgohlooelojfaa

namespace Go.Proofs.Ytcgohlooelojfaa
open Go

/-- what is read to its own end is read likewise, whatever stands behind -/
def Sg {α : Type} (f f' : List To → R α) : Prop := ∀ u x v b, f u = .ok x v → f' (u ++ b) = .out ∨ f' (u ++ b) = .ok x (v ++ b)
/-- of nothing nothing is read -/
def No {α : Type} (f : List To → R α) : Prop := ∀ x v, f [] ≠ .ok x v
section
variable {α β : Type} {f f' g g' : List To → R α}
theorem Sg.ok (x : α) : Sg (fun u => .ok x u) (fun u => .ok x u) := fun u y v b h => by
  injection h with h1 h2
  subst h1 h2
  exact .inr rfl
theorem Sg.bind {k k' : α → List To → R β} (h : Lo f f') (h0 : ∀ x, No (k x)) (hk : ∀ x, Sg (k x) (k' x)) : Sg (fun u => (f u).bind k) (fun u => (f' u).bind k') := fun u y w b e => by
  obtain ⟨x, v, e1, e2⟩ := bind_is e
  have h1 := h.all u b
  rw [e1] at h1
  rcases h1 with h1 | h1
  · exact .inl (by dsimp only; rw [h1]; rfl)
  · dsimp only at h1
    rw [if_neg (by rintro rfl; exact h0 x _ _ e2)] at h1
    dsimp only
    rw [h1, R.bind_ok]
    exact hk x v y w b e2
theorem Sg.bind2 {k k' : α → List To → R β} (h : Sg f f') (hk : ∀ x, Sg (k x) (k' x)) : Sg (fun u => (f u).bind k) (fun u => (f' u).bind k') := fun u y w b e => by
  obtain ⟨x, v, e1, e2⟩ := bind_is e
  dsimp only
  rcases h u x v b e1 with h1 | h1
  · exact .inl (by rw [h1]; rfl)
  · rw [h1, R.bind_ok]
    exact hk x v y w b e2
theorem Sg.ifTl {p : List To → Prop} [DecidablePred p] (hp : ∀ t v b, p (t :: v ++ b) ↔ p (t :: v)) {k k' : To → List To → R α} (h : ∀ t, Sg (k t) (k' t)) (h0 : ¬ p []) (hn : No g) (h2 : Sg g g') :
    Sg (fun u => if p u then k (hd u) u.tail else g u) (fun u => if p u then k' (hd u) u.tail else g' u) := fun u x v b e => by
  dsimp only at e ⊢
  cases u with
  | nil =>
    rw [if_neg h0] at e
    exact absurd e (hn _ _)
  | cons t u =>
    by_cases hq : p (t :: u)
    · rw [if_pos hq] at e
      rw [if_pos ((hp t u b).2 hq)]
      exact h t u x v b e
    · rw [if_neg hq] at e
      rw [if_neg (fun q => hq ((hp t u b).1 q))]
      exact h2 _ x v b e
theorem Sg.bad : Sg (fun u => (.bad u : R α)) (fun u => .bad u) := fun u x v b h => by cases h
theorem No.bad : No (fun u => (.bad u : R α)) := fun x v h => by cases h
theorem Sg.takeS (tx : List UInt8) (h : Sg f f') : Sg (fun u => takeS tx u f) (fun u => takeS tx u f') := Sg.ifTl (p := fun u => isS tx u = true) (isT_cc 4 tx) (k := fun _ v => f v) (k' := fun _ v => f' v) (fun _ => h) (by intro q; cases q) No.bad Sg.bad
theorem Sg.takeW (tx : List UInt8) (h : Sg f f') : Sg (fun u => takeW tx u f) (fun u => takeW tx u f') := Sg.ifTl (p := fun u => isW tx u = true) (isT_cc 3 tx) (k := fun _ v => f v) (k' := fun _ v => f' v) (fun _ => h) (by intro q; cases q) No.bad Sg.bad
theorem Sg.takeK (kd : Int) {k k' : To → List To → R α} (h : ∀ t, Sg (k t) (k' t)) : Sg (fun u => takeK kd u k) (fun u => takeK kd u k') := Sg.ifTl (p := fun u => isK kd u = true) (isK_cc kd) h (by intro q; cases q) No.bad Sg.bad
theorem Sg.fuel {F F' : Nat → List To → R α} (k k' : List To → Nat) (h : ∀ n m, Sg (F n) (F' m)) : Sg (fun u => F (k u) u) (fun u => F' (k' u) u) := fun u x v b e => h _ _ u x v b e
end
theorem hdP_nil : hdP [] = .bad [] := rfl
theorem staP_nil (n : Nat) : No (staP n) := fun x v h => by
  cases n with
  | zero => cases h
  | succ n => rw [staP, hdP_nil] at h; cases h
theorem lstP_nil (n : Nat) : No (lstP n) := fun x v h => by
  cases n with
  | zero => cases h
  | succ n =>
    rw [lstP, if_neg (by intro q; cases q)] at h
    obtain ⟨s, w, e, _⟩ := bind_is h
    exact staP_nil n _ _ e
theorem bind_no {α β : Type} {f : List To → R α} {k : α → List To → R β} (h : No f) : No (fun u => (f u).bind k) := fun x v e => by
  obtain ⟨s, w, e, _⟩ := bind_is e
  exact h _ _ e
theorem lst_sg : ∀ n m, Sg (lstP n) (lstP m)
  | 0, _ => fun u x v b h => by cases h
  | n + 1, 0 => fun u x v b h => .inl rfl
  | n + 1, m + 1 => by
    show Sg (fun u => lstP (n + 1) u) (fun u => lstP (m + 1) u)
    simp only [lstP]
    exact Sg.ifTl (p := fun u => isS [125] u = true) (isT_cc 4 _) (k := fun _ v => .ok [] v) (k' := fun _ v => .ok [] v) (fun _ => Sg.ok _) (by intro q; cases q) (bind_no (staP_nil n))
      (Sg.bind (sta_lo n m).1 (fun s => bind_no (lstP_nil n)) fun s => Sg.bind2 (lst_sg n m) fun l => Sg.ok _)
theorem blk_sg : ∀ n m, Sg (blkP n) (blkP m)
  | 0, _ => fun u x v b h => by cases h
  | n + 1, 0 => fun u x v b h => .inl rfl
  | n + 1, m + 1 => by
    show Sg (fun u => blkP (n + 1) u) (fun u => blkP (m + 1) u)
    simp only [blkP]
    exact Sg.takeS [123] (lst_sg n m)
theorem blP_sg : Sg blP blP := Sg.fuel (F := fun n => blkP n) (F' := fun n => blkP n) _ _ blk_sg
theorem blP_nil : No blP := fun x v h => by
  rw [show blP [] = .bad [] from rfl] at h
  cases h
theorem fld_sg : ∀ n m, Sg (fldP n) (fldP m)
  | 0, _ => fun u x v b h => by cases h
  | n + 1, 0 => fun u x v b h => .inl rfl
  | n + 1, m + 1 => by
    show Sg (fun u => fldP (n + 1) u) (fun u => fldP (m + 1) u)
    simp only [fldP]
    exact Sg.ifTl (p := fun u => isS [125] u = true) (isT_cc 4 _) (k := fun _ v => .ok [] v) (k' := fun _ v => .ok [] v) (fun _ => Sg.ok _) (by intro q; cases q) (fun x v h => by cases h)
      (Sg.takeK 1 fun t => Sg.takeW wInt (Sg.takeS [59] (Sg.bind2 (fld_sg n m) fun l => Sg.ok _)))
theorem scP_sg : Sg scP scP := Sg.takeW wType (Sg.takeK 1 fun _t => Sg.takeW wStruct (Sg.takeS [123] (Sg.bind2 (Sg.fuel (F := fun n => fldP n) (F' := fun n => fldP n) _ _ fld_sg) fun _l => Sg.ok _)))
theorem dcP_sg : Sg dcP dcP := fun u x v b h => by
  have hu : u ≠ [] := by
    rintro rfl
    cases h
  obtain ⟨t, u, rfl⟩ := List.exists_cons_of_ne_nil hu
  rw [dcP_eq] at h
  rw [dcP_eq]
  exact Sg.bind (dcA_lo _) (fun d => bind_no blP_nil) (fun d => Sg.bind2 blP_sg fun q => Sg.ok _) (t :: u) x v b h
theorem scP_join {u v b : List To} {x : Sc} (h : scP u = .ok x v) : scP (u ++ b) = .ok x (v ++ b) := (scP_sg u x v b h).resolve_left (scP_out _)
theorem dcP_join {u v b : List To} {x : Dc} (h : dcP u = .ok x v) : dcP (u ++ b) = .ok x (v ++ b) := (dcP_sg u x v b h).resolve_left (dcP_out _)
theorem pgP_join : ∀ n x u y, pgP n x u = .ok y [] → ∀ m b, u.length + b.length < m → pgP m x (u ++ b) = pgP (b.length + 1) y b
  | 0, _, _, _, h, _, _, _ => by cases h
  | n + 1, x, u, y, h, 0, _, hm => absurd hm (by omega)
  | n + 1, x, u, y, h, m + 1, b, hm => by
    rw [pgP] at h
    by_cases hu : u = []
    · rw [if_pos hu] at h
      injection h with h
      subst hu h
      exact pgP_more _ _ _ _ (by simpa using hm) (Nat.lt_succ_self _)
    · obtain ⟨t, u, rfl⟩ := List.exists_cons_of_ne_nil hu
      rw [if_neg hu] at h
      rw [pgP, if_neg (by simp)]
      by_cases hw : isW wType (t :: u) = true
      · rw [if_pos hw] at h
        rw [if_pos (show isW wType (t :: u ++ b) = true from hw)]
        obtain ⟨s, v, e, h⟩ := bind_is h
        have := scP_len e
        rw [scP_join e, R.bind_ok]
        exact pgP_join n _ _ _ h m b (by omega)
      · rw [if_neg hw] at h
        rw [if_neg (show ¬ isW wType (t :: u ++ b) = true from hw)]
        obtain ⟨s, v, e, h⟩ := bind_is h
        have := dcP_len e
        rw [dcP_join e, R.bind_ok]
        exact pgP_join n _ _ _ h m b (by omega)
def Pg.and (x y : Pg) : Pg := ⟨x.ss ++ y.ss, x.fs ++ y.fs⟩
theorem pgP_and (x : Pg) : ∀ n y u, pgP n (x.and y) u = (pgP n y u).bind fun q v => .ok (x.and q) v
  | 0, _, _ => rfl
  | n + 1, y, u => by
    rw [pgP, pgP]
    split
    · rfl
    · split
      · rw [R.bind_assoc]
        refine bind_cong fun s v e => ?_
        have := pgP_and x n ⟨y.ss ++ [s], y.fs⟩ v
        rw [← this]
        unfold Pg.and
        rw [List.append_assoc]
      · rw [R.bind_assoc]
        refine bind_cong fun s v e => ?_
        have := pgP_and x n ⟨y.ss, y.fs ++ [s]⟩ v
        rw [← this]
        unfold Pg.and
        rw [List.append_assoc]
theorem proP_join {a b : List To} {p : Pg} (h : proP a = .ok p []) : proP (a ++ b) = (proP b).bind fun q v => .ok (p.and q) v := by
  unfold proP
  rw [pgP_join _ _ _ _ h (a ++ b).length.succ b (by simp), ← pgP_and]
  congr 1
  unfold Pg.and
  simp
theorem deepP_and (p q : Pg) : deepP (p.and q) = (deepP p || deepP q) := by
  unfold deepP Pg.and
  rw [List.any_append]
theorem parP_bad {l u : List To} (h : proP l = .bad u) : parP l = (⟨[], []⟩, (l.length : Int) - u.length, 7) := by
  unfold parP
  rw [h]
theorem parP_ok {l : List To} {x : Pg} (h : proP l = .ok x []) : parP l = if deepP x = true then (⟨[], []⟩, 0, 11) else (x, 0, 0) := by
  unfold parP
  rw [h]
theorem proP_cases (l : List To) : (∃ u, proP l = .bad u ∧ u.length ≤ l.length) ∨ ∃ x, proP l = .ok x [] := by
  have hm := proP_lo.m l
  rcases h : proP l with ⟨x, v⟩ | v | _
  · rw [proP_end h]
    exact .inr ⟨x, rfl⟩
  · rw [h] at hm
    exact .inl ⟨v, rfl, hm⟩
  · exact absurd h (proP_out l)
/-- what parsing answers of more tokens, and of fewer -/
theorem par_stops (l : List To) : ((parP l).2.2 = 7 ∧ ∃ k : Nat, (parP l).2.1 = k ∧ k ≤ l.length ∧ ((parP (l.take k)).2.2 = 7 → (parP (l.take k)).2.1 = k) ∧ (k < l.length → ∀ b, (parP (l.take (k + 1) ++ b)).2.2 = 7 ∧ (parP (l.take (k + 1) ++ b)).2.1 = k))
    ∨ (parP l).2.1 = 0 ∧ ((parP l).2.2 = 0 ∨ (parP l).2.2 = 11) ∧ ∀ k, k ≤ l.length → (parP (l.take k)).2.2 = 7 → (parP (l.take k)).2.1 = k := by
  rcases proP_cases l with ⟨u, h, hu⟩ | ⟨x, h⟩
  · refine .inl ⟨by rw [parP_bad h], l.length - u.length, by rw [parP_bad h]; dsimp only; omega, by omega, fun h7 => ?_, fun hk b => ?_⟩
    · rcases proP_cases (l.take (l.length - u.length)) with ⟨v, hv, _⟩ | ⟨x, hx⟩
      · rcases stop_cut (r := l.drop (l.length - u.length)) hv with rfl | h2
        · rw [parP_bad hv]
          simp
        · rw [List.take_append_drop, h] at h2
          injection h2 with h2
          have h3 := congrArg List.length h2
          rw [List.length_append, List.length_drop] at h3
          rw [parP_bad hv]
          simp
          omega
      · rw [parP_ok hx] at h7
        split at h7 <;> simp at h7
    · have h1 := h
      rw [← List.take_append_drop (l.length - u.length + 1) l] at h1
      obtain ⟨v, h2, h3⟩ := stop_at (b := b) h1 (by rw [List.length_drop]; omega)
      rw [parP_bad h2]
      refine ⟨rfl, ?_⟩
      simp
      omega
  · refine .inr ⟨?_, ?_, fun k hk h7 => ?_⟩
    · rw [parP_ok h]; split <;> rfl
    · rw [parP_ok h]; split <;> simp
    · rcases proP_cases (l.take k) with ⟨v, hv, _⟩ | ⟨x2, hx⟩
      · rcases stop_cut (r := l.drop k) hv with rfl | h2
        · rw [parP_bad hv]
          simp
          omega
        · rw [List.take_append_drop, h] at h2
          cases h2
      · rw [parP_ok hx] at h7
        split at h7 <;> simp at h7
/-- of two one behind the other -/
theorem par_joins (a b : List To) : (parP a).2.2 = 7 ∨ (((parP a).2.2 = 0 ∨ (parP a).2.2 = 11) ∧ (((parP b).2.2 = 7 ∧ parP (a ++ b) = (⟨[], []⟩, (a.length : Int) + (parP b).2.1, 7))
    ∨ ((parP b).2.2 ≠ 7 ∧ ((parP a).2.2 = 11 ∨ (parP b).2.2 = 11) ∧ (parP (a ++ b)).2.2 = 11) ∨ ((parP a).2.2 = 0 ∧ (parP b).2.2 = 0 ∧ parP (a ++ b) = ((parP a).1.and (parP b).1, 0, 0)))) := by
  rcases proP_cases a with ⟨u, h, hu⟩ | ⟨x, h⟩
  · exact .inl (by rw [parP_bad h])
  · have hj := proP_join (b := b) h
    refine .inr ⟨by rw [parP_ok h]; split <;> simp, ?_⟩
    rcases proP_cases b with ⟨v, hb, hv⟩ | ⟨y, hb⟩
    · rw [hb] at hj
      refine .inl ⟨by rw [parP_bad hb], ?_⟩
      rw [parP_bad hb, parP_bad (show proP (a ++ b) = .bad v from hj)]
      simp
      omega
    · rw [hb] at hj
      have hj : proP (a ++ b) = .ok (x.and y) [] := hj
      rw [parP_ok h, parP_ok hb, parP_ok hj, deepP_and]
      cases deepP x <;> cases deepP y <;> simp
end Go.Proofs.Ytcgohlooelojfaa
