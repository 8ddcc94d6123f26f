/-
  Rows known whole: make, copy of all; contracts of unwind.own at its three types.
-/
import Derived.Test.YtpbopehhalicjaaU8H
import Derived.Laws.MakeOwn
import Derived.Laws.CopyOwn
namespace Go.Proofs.Ytpbopehhalicjaa
open Go Go.RowKit

/-- a block of cells known whole -/
def CAt (w : World) (g : Nat) (e : TypeId) (cs : List Value) : Prop := w.heap[g]? = some (.cells cs.toArray e (0, 0))
theorem CAt.lt {w : World} {g : Nat} {e : TypeId} {cs : List Value} (h : CAt w g e cs) : g < w.heap.size := (Array.getElem?_eq_some_iff.1 h).1
theorem CAt.below {B : Nat} {w w' : World} {g : Nat} {e : TypeId} {cs : List Value} (h : CAt w g e cs) (hb : Below B w w') (hg : g < B) : CAt w' g e cs := (hb.block g hg).trans h
theorem CAt.cell {w : World} {g : Nat} {e : TypeId} {cs : List Value} (h : CAt w g e cs) {j : Nat} (hj : j < cs.length) : w.cell? ⟨g, j, none⟩ = some cs[j] := by
  unfold CAt at h
  simp [World.cell?, h, hj]
theorem CAt.frozen {w : World} {g : Nat} {e : TypeId} {cs : List Value} (h : CAt w g e cs) (j : Nat) : w.frozen? ⟨g, j, none⟩ = false := by
  unfold CAt at h
  simp [World.frozen?, h]
theorem CAt.set {w : World} {g : Nat} {e : TypeId} {cs : List Value} (h : CAt w g e cs) (j : Nat) (u : Value) : CAt (w.setCell ⟨g, j, none⟩ u) g e (cs.set j u) := by
  unfold CAt at h ⊢
  simp only [World.setCell, Array.getElem?_modify, h]
  simp
theorem CAt.other {w : World} {g : Nat} {e : TypeId} {cs : List Value} (h : CAt w g e cs) {p : Addr} (hp : g ≠ p.block) (u : Value) : CAt (w.setCell p u) g e cs := (Below.heap_setCell w p u g hp).trans h
/-- cells that lie -/
def CLies (w : World) (B : Nat) (A : Option Addr) (vs : List Value) : Prop := 0 < vs.length → ∃ g o, A = some ⟨g, o, none⟩ ∧ g < B ∧ ∀ j (h : j < vs.length), w.cell? ⟨g, o + j, none⟩ = some vs[j]
theorem CLies.below {w w' : World} {B : Nat} {A : Option Addr} {l : List Value} (h : CLies w B A l) (hb : Below B w w') : CLies w' B A l := fun hl => by
  obtain ⟨g, o, e, hg, hc⟩ := h hl
  exact ⟨g, o, e, hg, fun j hj => (hb.cell hg).trans (hc j hj)⟩
theorem CLies.more {w : World} {B B' : Nat} {A : Option Addr} {l : List Value} (h : CLies w B A l) (hB : B ≤ B') : CLies w B' A l := fun hl => by
  obtain ⟨g, o, e, hg, hc⟩ := h hl
  exact ⟨g, o, e, by omega, hc⟩
theorem CLies.at_ {w : World} {B : Nat} {A : Option Addr} {l : List Value} (h : CLies w B A l) {j : Nat} (hj : j < l.length) : ∃ g o, A = some ⟨g, o, none⟩ ∧ g < B ∧ w.cell? ⟨g, o + j, none⟩ = some l[j] := by
  obtain ⟨g, o, e, hg, hc⟩ := h (by omega)
  exact ⟨g, o, e, hg, hc j hj⟩
theorem CAt.lies {w : World} {g : Nat} {e : TypeId} {cs : List Value} (h : CAt w g e cs) : CLies w w.heap.size (some ⟨g, 0, none⟩) cs := fun _ => ⟨g, 0, rfl, h.lt, fun j hj => by rw [Nat.zero_add]; exact h.cell hj⟩
def OwnR (w : World) (e : TypeId) (n : Nat) (cs : List Value) (r : Ending) (w' : World) : Prop := r = .returned (.slice (some ⟨w.heap.size, 0, none⟩) n n) ∧ CAt w' w.heap.size e cs ∧ Below w.heap.size w w'
def bV (x : Bool) : Value := .bool x
theorem bool_info : (Try.prog.info? 4).map (fun i => (i.zero, i.size, i.bytes)) = some (some (.bool false), 1, 1) := by kernel_rfl
theorem i64_info : (Try.prog.info? 2).map (fun i => (i.zero, i.size, i.bytes)) = some (some (.int .i64 0), 1, 8) := by kernel_rfl
theorem bool_size : (Try.prog.info? 4).map (·.size) = some 1 := by kernel_rfl
theorem i64_size : (Try.prog.info? 2).map (·.size) = some 1 := by kernel_rfl
theorem saved_size : (Try.prog.info? 31).map (·.size) = some 2 := by kernel_rfl
section
variable {ops : Array Oper} {rest : List Oper} {o : Oper} {a : Act} {K : Act → World → Prop} {Q : Exit → Act → World → Prop}
theorem make_row (w : World) (hgd : o.guard = none) (t e : TypeId) (x y : Operand) (ho : o.op = Op.makeSlice t x y) (z : Value) (sz by_ : Nat) (ht : Try.prog.underlying t = some (.slice e)) (hi : (Try.prog.info? e).map (fun i => (i.zero, i.size, i.bytes)) = some (some z, sz, by_)) (n : Nat) (N C : Int)
    (hx : a.eval x = .int .i64 N) (hy : a.eval y = .int .i64 C) (hN : N = (n : Int)) (hC : C = (n : Int)) (hn : n ≤ 1099511627776) (hby : by_ ≤ 256)
    (hK : ∀ w', CAt w' w.heap.size e (madeCells z.cells (n * sz)).toList → Below w.heap.size w w' → w.heap.size < w'.heap.size → wpList Try.prog ops Q rest (a.put o.dst (.slice (some ⟨w.heap.size, 0, none⟩) n n)) w') :
    wpList Try.prog ops Q (o :: rest) a w := by
  obtain ⟨i0, hi0, hz0, hz1, hz2⟩ := info_parts hi
  subst hC hN
  refine wpList_plain hgd fun K hK' => ?_
  have hbn : (by_ : Int) * (n : Int) ≤ 281474976710656 := by
    have h1 : by_ * n ≤ 256 * 1099511627776 := Nat.mul_le_mul hby hn
    have h2 : ((by_ * n : Nat) : Int) ≤ 281474976710656 := by omega
    rwa [Int.natCast_mul] at h2
  have hrun := run_make (P := Try.prog) w t e i0 _ ht hi0 hz0 .i64 .i64 n n (by omega) (by omega) (by rw [hz2]; exact hbn) (by omega)
  simp only [Int.toNat_natCast] at hrun
  unfold Oper.wp
  simp [execOp, ho, hx, hy, hrun, Result.andThen]
  refine hK' _ _ (hK _ ?_ ((Below.refl _ _).alloc (Nat.le_refl _) _) (by simp))
  have := heap_alloc_new w (.cells (madeCells z.cells (n * sz)) e)
  unfold CAt
  rw [hz1]
  simpa using this
theorem run_copy_all (w : World) (dT sT ty e : TypeId) (sz : Nat) (hu : Try.prog.underlying dT = some (.slice e)) (hs : (Try.prog.info? e).map (·.size) = some sz) (g n dCap sCap : Nat) (A : Option Addr) (cs cur : List Value) (hl : cs.length = n * sz) (hcur : cur.length = n * sz)
    (hsrc : CLies w w.heap.size A cs) (hA : A = none → n = 0) (hg : CAt w g e cur) (h1 : ∀ v ∈ cs, v.oneCell' = true) :
    ∃ w', (Builtin.copy_ #[dT, sT] ty #[.slice (some ⟨g, 0, none⟩) n dCap, .slice A n sCap]).run Try.prog w = .ok (goInt n) w' ∧ CAt w' g e cs ∧ w.grownBy w' (some g) := by
  cases hq : Try.prog.info? e with
  | none => simp [hq] at hs
  | some i =>
    have hi : i.size = sz := by simpa [hq] using hs
    by_cases h0 : cs.length = 0
    · have hcs : cs = [] := List.eq_nil_of_length_eq_zero h0
      have hcr : cur = [] := List.eq_nil_of_length_eq_zero (by omega)
      subst hcs
      subst hcr
      have hnz : n * sz = 0 := by simpa using hl.symm
      have hll : ∀ (x : Addr), (loadCells x 0).run Try.prog w = .ok #[] w := fun x => by simpa using run_loadCells_list (P := Try.prog) w x [] (by simp)
      refine ⟨w, ?_, hg, World.grownBy.refl _ _⟩
      cases A with
      | none =>
        have hn0 := hA rfl
        subst hn0
        simp [Builtin.copy_, run_underlying hu, Builtin.lenOf, Builtin.firstCells, sizeOf, typeInfo, hq, storeCells]
      | some x => simp [Builtin.copy_, run_underlying hu, Builtin.lenOf, Builtin.firstCells, sizeOf, typeInfo, hq, hi, hnz, storeCells, hll]
    · obtain ⟨sg, so, rfl, _, hc⟩ := hsrc (by omega)
      have hload := run_loadCells_list (P := Try.prog) w ⟨sg, so, none⟩ cs (fun j v hj => by
        obtain ⟨hjl, rfl⟩ := List.getElem?_eq_some_iff.1 hj
        rw [add_zero_off]
        exact hc j hjl)
      have hst := run_storeCells_at Try.prog g 0 e cs 0 cur.toArray w hg (by simp; omega) h1
      refine ⟨w.setRow g cs.toArray, ?_, ?_, ?_⟩
      · have e1 : cur.toArray.toList.take (0 + 0) ++ cs ++ cur.toArray.toList.drop (0 + 0 + cs.length) = cs := by simp [show cur.length ≤ cs.length by omega]
        rw [e1] at hst
        simp [Builtin.copy_, run_underlying hu, Builtin.lenOf, Builtin.firstCells, sizeOf, typeInfo, hq, hi, ← hl, hload, hst]
      · exact setRow_heap w g _ _ _ _ hg
      · exact ⟨rfl, rfl, rfl, by simp [World.setRow], fun k _ hk => setRow_other w g k _ (fun e => hk (by rw [e]))⟩
theorem copy_row (w : World) (hgd : o.guard = none) (d s : Operand) (t : TypeId) (ho : o.op = .call { callee := .builtin .copy, args := #[d, s], argTypes := #[t, t] })
    (e : TypeId) (sz : Nat) (hu : Try.prog.underlying t = some (.slice e)) (hs : (Try.prog.info? e).map (·.size) = some sz) (g n dCap sCap : Nat) (A : Option Addr) (hd : a.eval d = .slice (some ⟨g, 0, none⟩) n dCap) (hse : a.eval s = .slice A n sCap)
    (cs cur : List Value) (hl : cs.length = n * sz) (hcur : cur.length = n * sz) (hsrc : CLies w w.heap.size A cs) (hA : A = none → n = 0) (hg : CAt w g e cur) (h1 : ∀ v ∈ cs, v.oneCell' = true)
    (h : ∀ w', CAt w' g e cs → w.grownBy w' (some g) → wpList Try.prog ops Q rest (a.put o.dst (goInt n)) w') : wpList Try.prog ops Q (o :: rest) a w := by
  obtain ⟨w', hrun, r1, r2⟩ := run_copy_all w t t o.type e sz hu hs g n dCap sCap A cs cur hl hcur hsrc hA hg h1
  refine wpList_plain hgd fun K hK' => ?_
  unfold Oper.wp execOp
  simp only [ho, resolve, invoke, builtin, Sem.run_bind, Sem.run_pure, Result.andThen_ok, List.map_toArray, List.map_cons, List.map_nil, hd, hse, hrun]
  exact hK' _ _ (h w' r1 r2)
end
theorem made_len (z : Array Value) (n : Nat) : (madeCells z n).toList.length = n := by rw [Array.length_toList, size_madeCells]
theorem bV_one (l : List Bool) : ∀ v ∈ l.map bV, v.oneCell' = true := by
  intro v hv
  obtain ⟨x, _, rfl⟩ := List.mem_map.1 hv
  rfl
set_option maxRecDepth 100000 in
set_option maxHeartbeats 1000000 in
theorem ownB_any (A : Option Addr) (c : Nat) (l : List Bool) (w : World) (hc : A = none → l.length = 0) (hn : l.length ≤ 1000000000) (h : CLies w w.heap.size A (l.map bV)) :
    Calls Try.prog 12 #[.slice A l.length c] w (OwnR w 4 l.length (l.map bV)) := by
  have HL := Lib.hid h
  have HC := Lib.hid hc
  clear h hc
  go_enter Try.func12, Try.ntmps12
  go_wp2_with (first
    | (at_make
       refine make_row _ rfl 32 4 (.tmp 5) (.tmp 5) rfl _ 1 1 Try.underlying32 bool_info l.length _ _ rfl rfl rfl rfl (by omega) (by omega) ?_
       intro w1 hk1 hb1 hs1
       have HK1 := Lib.hid hk1
       have HB1 := Lib.hid hb1
       clear hk1 hb1)
    | (with_reducible refine copy_row _ rfl (.tmp 7) (.tmp 8) 32 rfl 4 1 Try.underlying32 bool_size w.heap.size l.length _ c A rfl rfl (l.map bV) _ (by simp) (by rw [made_len]) ((HL.out.below HB1.out).more (by omega)) HC.out HK1.out (bV_one l) ?_
       intro w2 hk2 hg2
       have HB2 := Lib.hid (HB1.out.grown hg2 (by omega) (fun j e => by cases e; exact Nat.le_refl _))
       have HK2 := Lib.hid hk2
       clear hk2 hg2))
  go_ret
  exact ⟨rfl, HK2.out, HB2.out⟩
set_option maxRecDepth 100000 in
set_option maxHeartbeats 1000000 in
theorem ownN_any (A : Option Addr) (c : Nat) (l : List Int) (w : World) (hc : A = none → l.length = 0) (hn : l.length ≤ 1000000000) (h : CLies w w.heap.size A (l.map n7)) :
    Calls Try.prog 13 #[.slice A l.length c] w (OwnR w 2 l.length (l.map n7)) := by
  have HL := Lib.hid h
  have HC := Lib.hid hc
  clear h hc
  go_enter Try.func13, Try.ntmps13
  go_wp2_with (first
    | (at_make
       refine make_row _ rfl 23 2 (.tmp 5) (.tmp 5) rfl _ 1 8 Try.underlying23 i64_info l.length _ _ rfl rfl rfl rfl (by omega) (by omega) ?_
       intro w1 hk1 hb1 hs1
       have HK1 := Lib.hid hk1
       have HB1 := Lib.hid hb1
       clear hk1 hb1)
    | (with_reducible refine copy_row _ rfl (.tmp 7) (.tmp 8) 23 rfl 2 1 Try.underlying23 i64_size w.heap.size l.length _ c A rfl rfl (l.map n7) _ (by simp) (by rw [made_len]) ((HL.out.below HB1.out).more (by omega)) HC.out HK1.out (n7_one l) ?_
       intro w2 hk2 hg2
       have HB2 := Lib.hid (HB1.out.grown hg2 (by omega) (fun j e => by cases e; exact Nat.le_refl _))
       have HK2 := Lib.hid hk2
       clear hk2 hg2))
  go_ret
  exact ⟨rfl, HK2.out, HB2.out⟩
theorem LLies.cells {w : World} {B : Nat} {A : Option Addr} {l : List Lc} (h : LLies w B A l) : CLies w B A (l.flatMap cC) := fun hl => by
  have hl' : 0 < l.length := by rw [lflat_len] at hl; omega
  obtain ⟨g, o, e, hg, hc⟩ := h hl'
  refine ⟨g, o, e, hg, fun j hj => ?_⟩
  have hj2 : j < l.length * 2 := by rwa [lflat_len] at hj
  have hj3 : j / 2 < l.length := by omega
  have := lflat_get l (j / 2) (j % 2) hj3 (by omega)
  rw [show j / 2 * 2 + j % 2 = j by omega, List.getElem?_eq_getElem hj] at this
  have q := hc (j / 2) hj3 (j % 2) _ this.symm
  rwa [show o + (j / 2 * 2 + j % 2) = o + j by omega] at q
theorem CAt.lown {w : World} {g B : Nat} {l : List Lc} (h : CAt w g 31 (l.flatMap cC)) (hB : B ≤ g) (hl : l.length ≤ 1000000000) : LOwn w B (.slice (some ⟨g, 0, none⟩) l.length l.length) l := by
  refine ⟨by rw [lflat_len], .inr ⟨g, l.length, _, rfl, hB, h, Nat.le_refl _, by simp [maxLen]; omega, ?_, ?_⟩⟩
  · rw [List.size_toArray, lflat_len]
  · exact List.take_of_length_le (by simp only [lflat_len]; omega)
set_option maxRecDepth 100000 in
set_option maxHeartbeats 1000000 in
theorem ownL_any (A : Option Addr) (c : Nat) (l : List Lc) (w : World) (hc : A = none → l.length = 0) (hn : l.length ≤ 1000000000) (h : LLies w w.heap.size A l) :
    Calls Try.prog 31 #[.slice A l.length c] w (OwnR w 31 l.length (l.flatMap cC)) := by
  have HL := Lib.hid h.cells
  have HC := Lib.hid hc
  clear h hc
  go_enter Try.func31, Try.ntmps31
  go_wp2_with (first
    | (at_make
       refine make_row _ rfl 27 31 (.tmp 5) (.tmp 5) rfl _ 2 16 Try.underlying27 loc_info l.length _ _ rfl rfl rfl rfl (by omega) (by omega) ?_
       intro w1 hk1 hb1 hs1
       have HK1 := Lib.hid hk1
       have HB1 := Lib.hid hb1
       clear hk1 hb1)
    | (with_reducible refine copy_row _ rfl (.tmp 7) (.tmp 8) 27 rfl 31 2 Try.underlying27 saved_size w.heap.size l.length _ c A rfl rfl (l.flatMap cC) _ (by rw [lflat_len]) (by rw [made_len]) ((HL.out.below HB1.out).more (by omega)) HC.out HK1.out (lflat_one l) ?_
       intro w2 hk2 hg2
       have HB2 := Lib.hid (HB1.out.grown hg2 (by omega) (fun j e => by cases e; exact Nat.le_refl _))
       have HK2 := Lib.hid hk2
       clear hk2 hg2))
  go_ret
  exact ⟨rfl, HK2.out, HB2.out⟩
end Go.Proofs.Ytpbopehhalicjaa
