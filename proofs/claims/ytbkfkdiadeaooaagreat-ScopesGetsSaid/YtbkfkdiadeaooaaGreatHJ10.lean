/-
  Merged for a claim: L7C, S9B, L7D, L7E, L7F, L7G, L7H, L7I.
-/
import Derived.Test.YtbkfkdiadeaooaaGreatHJ2
import Derived.Test.YtbkfkdiadeaooaaGreatHJ9
import Derived.Test.YtbkfkdiadeaooaaGreatHS9A
import Derived.WalkSpells
import Derived.Lib.MinMax
namespace Go.Proofs.YtbkfkdiadeaooaaGreat
open Go Go.RowKit

/-- a span behind where the one ahead ends -/
def okS (q : Int × Sp) : Bool := decide (q.1 ≤ q.2.f) && (decide (q.2.f < q.2.t) && (decide (q.2.t ≤ 16777216) && (decide (0 < q.2.a.length) && rightC q.2.a)))
def prS (xs : List Sp) : List (Int × Sp) := (0 :: xs.map Sp.t).zip xs
def rightL (xs : List Sp) : Bool := decide (xs.length ≤ 4000) && (prS xs).all okS
def spQ (q : Int × Ps) : Int × Sp := (q.1, q.2.sp)
theorem prS_map (ps : List Ps) : prS (ps.map Ps.sp) = (prs ps).map spQ := by
  unfold prS prs
  have h1 : ((0 : Int) :: (ps.map Ps.sp).map Sp.t) = 0 :: ps.map Ps.t := by simp [Ps.sp]
  rw [h1, List.zip_map_right]
  rfl
def okP (q : Int × Ps) : Bool := okS (spQ q)
theorem rightL_map (ps : List Ps) : rightL (ps.map Ps.sp) = (decide (ps.length ≤ 4000) && (prs ps).all okP) := by
  unfold rightL
  rw [prS_map, List.all_map, List.length_map]
  rfl
theorem okP_iff {q : Int × Ps} : okP q = true ↔ q.1 ≤ q.2.f ∧ q.2.f < q.2.t ∧ q.2.t ≤ 16777216 ∧ 0 < q.2.a.length ∧ rightC q.2.a = true := by
  unfold okP okS spQ Ps.sp
  rw [Bool.and_eq_true, Bool.and_eq_true, Bool.and_eq_true, Bool.and_eq_true]
  exact ⟨fun ⟨a, b, c, d, e⟩ => ⟨of_decide_eq_true a, of_decide_eq_true b, of_decide_eq_true c, of_decide_eq_true d, e⟩, fun ⟨a, b, c, d, e⟩ => ⟨decide_eq_true a, decide_eq_true b, decide_eq_true c, decide_eq_true d, e⟩⟩
theorem okP_no {q : Int × Ps} (h : ¬ (q.1 ≤ q.2.f ∧ q.2.f < q.2.t ∧ q.2.t ≤ 16777216 ∧ 0 < q.2.a.length ∧ rightC q.2.a = true)) : okP q = false := by
  rw [← okP_iff] at h
  simpa using h
/-- few enough for the model's numbers -/
def Sm (ps : List Ps) : Prop := ps.length ≤ 1099511627776 ∧ ∀ p ∈ ps, p.a.length ≤ 1099511627776

theorem Same.of_all {K : Nat → Prop} {A C : World} (h : Below A.heap.size A C) : Same K A C := ⟨h.os, h.tape, h.output, h.size, fun k _ hk _ => (h.block k (Array.getElem?_eq_some_iff.1 hk).1).trans hk⟩
theorem same_set {K : Nat → Prop} (A : World) (p : Addr) (v : Value) (h : ¬ K p.block) : Same K A (A.setCell p v) :=
  ⟨rfl, rfl, rfl, (KeepsOthers.setCell A p v).size, fun k _ hk hK => (Below.heap_setCell A p v k (fun e => by subst e; exact h hK)).trans hk⟩
theorem Boxed.lets {E : Nat → Prop} {B : Nat} {A C : World} {b : Nat} {t : TypeId} {v : Value} (h : Boxed A b t v) (hl : Lets E B A C) (hE : ¬ E b) : Boxed C b t v := hl.blk _ _ h hE (.inr rfl)
theorem stays_boxed {E : Nat → Prop} {B : Nat} {b : Nat} {t : TypeId} {v : Value} (hE : ¬ E b) : Stays E B (fun W => Boxed W b t v) := fun _ _ hl h => Boxed.lets h hl hE
theorem Boxed.below {B : Nat} {A C : World} {b : Nat} {t : TypeId} {v : Value} (h : Boxed A b t v) (hb : Below B A C) (hB : b < B) : Boxed C b t v := (hb.block b hB).trans h
theorem Boxed.put {W : World} {b D : Nat} {t : TypeId} {v : Value} {o : Obj} (h : Boxed W b t v) (o' : Obj) (hD : W.heap[D]? = some o) (ho : o.isCells = false) : Boxed (W.putObj D o') b t v := by
  have hne : b ≠ D := fun e => by subst e; rw [show W.heap[b]? = _ from h] at hD; cases hD; cases ho
  exact (World.putObj_heap_other hne).trans h
theorem below_put {W : World} {n D : Nat} {w : World} (h : Below n w W) (o' : Obj) (hn : n ≤ D) : Below n w (W.putObj D o') :=
  h.trans ⟨rfl, rfl, rfl, by simp [World.putObj], fun k hk => World.putObj_heap_other (by omega)⟩
theorem run_loadVar_bool {P : Program} {t : TypeId} (hu : P.underlying t = some .bool) {w : World} {a : Addr} {x : Value} (hc : w.cell? a = some x) : (loadVar t a).run P w = .ok x w := by
  have hagg : (isAgg t).run P w = .ok false w := by
    unfold isAgg
    rw [Sem.run_bind, run_underlying hu w]
    rfl
  simp [loadVar, Sem.run_bind, hagg, run_load, hc]
theorem run_loadVar_slice {P : Program} {t e : TypeId} (hu : P.underlying t = some (.slice e)) {w : World} {a : Addr} {x : Value} (hc : w.cell? a = some x) : (loadVar t a).run P w = .ok x w := by
  have hagg : (isAgg t).run P w = .ok false w := by
    unfold isAgg
    rw [Sem.run_bind, run_underlying hu w]
    rfl
  simp [loadVar, Sem.run_bind, hagg, run_load, hc]
theorem res_bool {fn : Func} {p : Tmp} {t : TypeId} (h : fn.results = #[.cell p t]) (hu : Tryz.prog.underlying t = some .bool) (tmps : Array Value) (w : World) (g : Nat) (x : Value) (hp : tmps.getD p undef = .pointer (some ⟨g, 0, none⟩)) (hc : Boxed w g t x) : (results fn tmps).run Tryz.prog w = .ok x w := by
  have hp' : tmps[p]?.getD undef = .pointer (some ⟨g, 0, none⟩) := by simpa using hp
  simp [results, h, hp', asAddr, run_loadVar_bool hu hc.cell]
attribute [local go_sem] Oper.semAt_some wideFn wideDepth

def AllOk (l : List (Int × Ps)) : Prop := ∀ q ∈ l, okP q = true
def SomeNo (l : List (Int × Ps)) : Prop := ∃ q ∈ l, okP q = false
def BoolR (b : Bool) (w : World) (e : Ending) (w' : World) : Prop := e = .returned (.bool b) ∧ Below w.heap.size w w'
set_option maxRecDepth 100000 in
set_option maxHeartbeats 4000000 in
theorem right7_any (A : Option Addr) (c : Nat) (ps : List Ps) (w : World) (hs : Sm ps) (h : SLies w w.heap.size A ps) :
    Calls Tryz.prog 65 #[.slice A ps.length c] w (BoolR (rightL (ps.map Ps.sp)) w) := by
  rw [rightL_map]
  refine calls_loop Tryz.func65 rfl ?_
  simp only [Tryz.ntmps65, List.size_toArray, List.length_cons, List.length_nil, Nat.reduceAdd, Nat.reduceSub, Array.replicate_succ, Array.replicate_zero, List.push_toArray, List.append_toArray, List.nil_append, List.cons_append]
  by_cases hbig : 4000 < ps.length
  · have hb2 : (4000 : Int) < ps.length := by omega
    have HR := Lib.hid (show (decide (ps.length ≤ 4000) && (prs ps).all okP) = false by rw [decide_eq_false (by omega)]; rfl)
    rw [HR.out]
    go_wp2_with fail
    exact ret_plain rfl (res_bool rfl Tryz.underlying4 _ _ w.heap.size _ rfl (Boxed.new w 4 (.bool false))) ⟨rfl, (Below.refl _ w).alloc (Nat.le_refl _) _⟩
  · have hb2 : (ps.length : Int) ≤ 4000 := by omega
    have HR := Lib.hid (show (decide (ps.length ≤ 4000) && (prs ps).all okP) = (prs ps).all okP by rw [decide_eq_true (by omega)]; rfl)
    rw [HR.out]
    clear HR hbig
    go_wp2_with fail
    refine (inOrder_any A _ c _).mono ?_
    rintro e w1 ⟨rfl, rfl⟩
    have bR := (Boxed.new w 4 (.bool false)).alloc (.cells #[.slice A ps.length c] 69)
    have bS := Boxed.new (w.alloc (.cells #[.bool false] 4)) 69 (.slice A ps.length c)
    have hB := ((Below.refl _ w).alloc (Nat.le_refl _) (.cells #[.bool false] 4)).alloc (by simp) (.cells #[.slice A ps.length c] 69)
    have hz : ((w.alloc (.cells #[.bool false] 4)).alloc (.cells #[.slice A ps.length c] 69)).heap.size = w.heap.size + 2 := by simp
    simp only [World.size_alloc] at bS
    generalize hW0 : (w.alloc (.cells #[.bool false] 4)).alloc (.cells #[.slice A ps.length c] 69) = W0 at *
    clear hW0
    have HL := Lib.hid (h.below hB)
    have HW := Lib.hid h
    have HB := Lib.hid hB
    have HBR := Lib.hid bR
    have HSm := Lib.hid hs
    have hls : ps.length ≤ 1099511627776 := hs.1
    have hcS := bS.cell
    clear h hB bR bS hs
    go_wp2_with fail
    refine range_wp (gf := 99) (lb := #[.pointer (some ⟨w.heap.size + 1, 0, none⟩)]) rfl (run_enterC Tryz.func99 (by kernel_rfl) (by kernel_rfl))
      (inOrder_seq (w.heap.size + 1) w.heap.size c A ps W0 (by omega) hcS HL.out.1 (by omega) hls) (fun _ => rfl) (fun _ q => q.elim) (fun k q => .inl (by omega))
      (fun pre W => (Boxed W w.heap.size 4 (.bool false) ∧ Below w.heap.size w W) ∧ AllOk pre)
      (fun c pre W => ((Boxed W w.heap.size 4 (.bool false) ∧ Below w.heap.size w W) ∧ c = .ret) ∧ SomeNo (prs ps))
      (fun s => ((stays_boxed (fun q => q)).and (stays_below (Nat.le_refl _) (fun _ q => q.elim) (by omega))).and (stays_pure _))
      (fun c s => (((stays_boxed (fun q => q)).and (stays_below (Nat.le_refl _) (fun _ q => q.elim) (by omega))).and (stays_pure _)).and (stays_pure _))
      ⟨⟨HBR.out, HB.out⟩, fun _ q => absurd q (by simp)⟩ ?round ?done ?stop
    case round =>
      rintro l pre q Wr W hzr ⟨⟨hbr, hbel⟩, hall⟩ hle ⟨⟨hbx, hbel2⟩, _⟩ hnx
      have hq := hnx.mem
      have hp := prs_mem hq
      have hmn := Lib.hid (HW.out.2 _ hp)
      have hla := HSm.out.2 _ hp
      have hzw := hle.size
      have hb1 := Lib.hid (hbx.alloc (.cells (pK q.2) 77))
      have hB1 := Lib.hid (hbel2.alloc (by omega) (.cells (pK q.2) 77))
      have hX1 := Lib.hid (spAt_new W q.2)
      have hS1 := Lib.hid (Same.of_all (K := fun k => k < w.heap.size ∨ Wr.heap.size ≤ k) (below_lnew W (.cells (pK q.2) 77)))
      have HNO := Lib.hid (okP_no (q := q))
      have HYE := Lib.hid (okP_iff (q := q))
      clear hbr hbel hbx hbel2 hnx hp hle
      obtain ⟨al, f, t, a, A', c'⟩ := q
      simp only [pK] at hb1 hB1 hX1 hS1 hmn hla
      dsimp only at HNO HYE
      obtain ⟨_, _, hLL⟩ := hmn.out
      have HLL := Lib.hid hLL
      clear hLL hmn
      unfold pK
      gi_wp2
      refine ⟨nocs_alloc _ _, hS1.out, fun W2 hl2 hs2 hz2 => ?_⟩
      have hX2 : SpAt W2 W.heap.size ⟨f, t, a, A', c'⟩ := (hl2 (fun _ => False)).blk _ _ hX1.out (fun q => q) (.inr rfl)
      have hb2' := Boxed.lets hb1.out (hl2 (fun _ => False)) (fun q => q)
      have hB2' := (hl2 (fun _ => False)).below hB1.out (Nat.le_refl _) (fun _ q => q.elim) (by omega)
      have x0 := hX2.fr
      have x1 := hX2.to
      have x2 := hX2.at_
      have hb2c := hb2'.cell
      have hb2f := hb2'.frozen
      have HB2 := Lib.hid hb2'
      have HBL2 := Lib.hid hB2'
      have hz3 := hB2'.size
      clear hl2 hX2 hb2' hB2' hb1 hB1 hX1 hS1
      dsimp only at x0 x1 x2
      by_cases h1 : f < al
      · have HN := HNO.out (fun q => by omega)
        clear HNO HYE
        gi_wp2
        exact ⟨nocs_set _ _ _, ⟨⟨Boxed.set _ HB2.out, HBL2.out.setCell (p := ⟨w.heap.size, 0, none⟩) (Nat.le_refl _) _⟩, rfl⟩, ⟨_, hq, HN⟩⟩
      by_cases h2 : t ≤ f
      · have HN := HNO.out (fun q => by omega)
        clear HNO HYE
        gi_wp2
        exact ⟨nocs_set _ _ _, ⟨⟨Boxed.set _ HB2.out, HBL2.out.setCell (p := ⟨w.heap.size, 0, none⟩) (Nat.le_refl _) _⟩, rfl⟩, ⟨_, hq, HN⟩⟩
      by_cases h3 : 16777216 < t
      · have HN := HNO.out (fun q => by omega)
        clear HNO HYE
        gi_wp2
        exact ⟨nocs_set _ _ _, ⟨⟨Boxed.set _ HB2.out, HBL2.out.setCell (p := ⟨w.heap.size, 0, none⟩) (Nat.le_refl _) _⟩, rfl⟩, ⟨_, hq, HN⟩⟩
      by_cases h4 : a.length = 0
      · have HN := HNO.out (fun q => by omega)
        have h4i : (a.length : Int) = 0 := by omega
        have h4h := Lib.hid h4
        clear HNO HYE h4
        gi_wp2
        exact ⟨nocs_set _ _ _, ⟨⟨Boxed.set _ HB2.out, HBL2.out.setCell (p := ⟨w.heap.size, 0, none⟩) (Nat.le_refl _) _⟩, rfl⟩, ⟨_, hq, HN⟩⟩
      have h4i : ¬ (a.length : Int) = 0 := by omega
      have HC := Lib.hid (right6_any A' c' a W2 hla ((HLL.out.below (HBL2.out)).more (by omega)))
      unfold RightR6 at HC
      cases hr : rightC a
      · have HN := HNO.out (fun q => by have := q.2.2.2.2; rw [hr] at this; cases this)
        rw [hr] at HC
        clear HNO HYE hr
        gi_wp2_with (gi_at_call 89; refine (CallsIn.inRound l (callsIn_wide.2 HC.out)).mono ?_; rintro e W3 ⟨rfl, hb3⟩; have hb3c := (hb3.cell (p := ⟨w.heap.size, 0, none⟩) (by dsimp only; omega)).trans hb2c; have hb3f := (Boxed.below HB2.out hb3 (by omega)).frozen)
        exact ⟨(Nocs.of_below hb3).trans (nocs_set _ _ _), ⟨⟨Boxed.set _ (Boxed.below HB2.out hb3 (by omega)), (HBL2.out.trans (hb3.mono hz3)).setCell (p := ⟨w.heap.size, 0, none⟩) (Nat.le_refl _) _⟩, rfl⟩, ⟨_, hq, HN⟩⟩
      · have HN := HYE.out.2 ⟨by omega, by omega, by omega, by omega, hr⟩
        rw [hr] at HC
        clear HNO HYE hr
        gi_wp2_with (gi_at_call 89; refine (CallsIn.inRound l (callsIn_wide.2 HC.out)).mono ?_; rintro e W3 ⟨rfl, hb3⟩)
        exact ⟨Nocs.of_below hb3, hs2.trans (Same.of_all hb3), ⟨Boxed.below HB2.out hb3 (by omega), HBL2.out.trans (hb3.mono hz3)⟩, fun q hq => (List.mem_append.1 hq).elim (hall q) (fun e => by rw [List.mem_singleton] at e; rw [e]; exact HN)⟩
    case done =>
      rintro D xs W hD rfl ⟨⟨hbr, hbel⟩, hall⟩ hK
      have hc := hbr.cell
      have hf := hbr.frozen
      have hK2 : (W.setCell ⟨w.heap.size, 0, none⟩ (.bool true)).heap[D]? = some (.deferred (some [])) := (Below.heap_setCell W ⟨w.heap.size, 0, none⟩ (.bool true) D (by dsimp only; omega)).trans hK
      have hb2 := Boxed.put (Boxed.set (.bool true) hbr) (.deferred none) hK2 rfl
      have hall' : (prs ps).all okP = true := List.all_eq_true.2 hall
      go_wp2_with fail
      exact ret_mark hK2 (res_bool rfl Tryz.underlying4 _ _ w.heap.size _ rfl hb2) ⟨by rw [hall'], below_put (hbel.setCell (p := ⟨w.heap.size, 0, none⟩) (Nat.le_refl _) _) _ (by omega)⟩
    case stop =>
      rintro D c pre W hD ⟨⟨⟨hbr, hbel⟩, rfl⟩, q, hq, hno⟩ hK
      have hall' : (prs ps).all okP = false := by
        cases h : (prs ps).all okP with
        | false => rfl
        | true => have := List.all_eq_true.1 h q hq; rw [hno] at this; cases this
      rw [hall']
      go_wp2_with fail
      exact ret_mark hK (res_bool rfl Tryz.underlying4 _ _ w.heap.size _ rfl (Boxed.put hbr (.deferred none) hK rfl)) ⟨rfl, below_put hbel _ (by omega)⟩
end Go.Proofs.YtbkfkdiadeaooaaGreat

namespace Go.Proofs.YtbkfkdiadeaooaaGreat
open Go Go.RowKit

theorem str_sz (l : List UInt8) : (str l).size = l.length := by simp [str, ByteArray.size]
theorem str_getI (l : List UInt8) (k : Nat) (_h : k < l.length) (h2 : ((k : Int)).toNat < (str l).size) : (str l)[((k : Int)).toNat]'h2 = l[k] := by
  simp [str, ByteArray.getElem_eq_getElem_data]
  rfl
theorem str_toList (l : List UInt8) : (str l).toList = l := ByteArray.toList_mk l
theorem run_idx_str (w : World) (l : List UInt8) (k : Nat) (h : k < l.length) : (Instr.index 9 (.string (str l)) (.int .i64 k)).run Tryz.prog w = .ok (.int .u8 (l[k].toNat : Int)) w := by
  rw [run_index_string _ _ _ _ _ Tryz.underlying9, dif_pos ⟨by omega, by rw [str_sz]; omega⟩, str_getI l k h]
  rfl

def signB (x : Int) : Bool := decide (97 ≤ x ∧ x ≤ 122 ∨ 65 ≤ x ∧ x ≤ 90 ∨ 48 ≤ x ∧ x ≤ 57 ∨ x = 95)
def sgB (c : UInt8) : Bool := signB c.toNat
def nameB (s : List UInt8) : Bool := decide (1 ≤ s.length ∧ s.length ≤ 24) && s.all sgB
set_option maxRecDepth 100000 in
set_option maxHeartbeats 1000000 in
theorem isSign_any (x : Int) (w : World) :
    Calls Tryz.prog 66 #[.int .u8 x] w fun e w' => e = .returned (.bool (signB x)) ∧ w = w' := by
  by_cases h7 : x = 95
  · subst h7
    go_enter Tryz.func66, Tryz.ntmps66
    go_wp2
    go_ret
    exact ⟨rfl, rfl⟩
  have hq : (x == 95) = false := by simpa using h7
  by_cases h1 : 97 ≤ x <;> by_cases h2 : x ≤ 122 <;> by_cases h3 : 65 ≤ x <;> by_cases h4 : x ≤ 90 <;> by_cases h5 : 48 ≤ x <;> by_cases h6 : x ≤ 57
  all_goals first
    | (exfalso; omega)
    | (have hb : signB x = true := decide_eq_true (by omega)
       rw [hb]
       clear hb
       go_enter Tryz.func66, Tryz.ntmps66
       go_wp2
       go_ret
       exact ⟨rfl, rfl⟩)
    | (have hb : signB x = false := decide_eq_false (by omega)
       rw [hb]
       clear hb
       go_enter Tryz.func66, Tryz.ntmps66
       go_wp2
       go_ret
       exact ⟨rfl, rfl⟩)

theorem name_long {s : List UInt8} (h : ¬ (1 ≤ s.length ∧ s.length ≤ 24)) : nameB s = false := by
  unfold nameB; rw [decide_eq_false h]; rfl
theorem name_start {s : List UInt8} (h : 1 ≤ s.length ∧ s.length ≤ 24) : nameB s = (s.drop 0).all sgB := by
  unfold nameB; rw [decide_eq_true h]; rfl
theorem all_step {α : Type} {P : α → Bool} {s : List α} {k : Nat} {b : Bool} (h : k < s.length) (e : b = (s.drop k).all P) (hp : P s[k] = true) : b = (s.drop (k + 1)).all P := by
  rw [e, List.drop_eq_getElem_cons h, List.all_cons, hp, Bool.true_and]
theorem all_stop {α : Type} {P : α → Bool} {s : List α} {k : Nat} {b : Bool} (h : k < s.length) (e : b = (s.drop k).all P) (hp : P s[k] = false) : b = false := by
  rw [e, List.drop_eq_getElem_cons h, List.all_cons, hp, Bool.false_and]
theorem all_end {α : Type} {P : α → Bool} {s : List α} {b : Bool} (e : b = (s.drop s.length).all P) : b = true := by
  rw [e, List.drop_length]; rfl
set_option maxRecDepth 100000 in
set_option maxHeartbeats 1000000 in
theorem isName_any (s : List UInt8) (w : World) :
    Calls Tryz.prog 41 #[.string (str s)] w fun e w' => e = .returned (.bool (nameB s)) ∧ w = w' := by
  have hsz := str_sz s
  by_cases h1 : s.length < 1
  · rw [name_long (by omega)]
    have h1i : (s.length : Int) < 1 := by omega
    go_enter Tryz.func41, Tryz.ntmps41
    go_wp2
    go_ret
    exact ⟨rfl, rfl⟩
  by_cases h2 : 24 < s.length
  · rw [name_long (by omega)]
    have h1i : (1 : Int) ≤ (s.length : Int) := by omega
    have h2i : (24 : Int) < (s.length : Int) := by omega
    go_enter Tryz.func41, Tryz.ntmps41
    go_wp2
    go_ret
    exact ⟨rfl, rfl⟩
  have h1i : (1 : Int) ≤ (s.length : Int) := by omega
  have h2i : (s.length : Int) ≤ 24 := by omega
  have H0 := Lib.hid (name_start (s := s) ⟨by omega, by omega⟩)
  obtain ⟨b, hb⟩ : ∃ b, nameB s = b := ⟨_, rfl⟩
  rw [hb]
  rw [hb] at H0
  clear hb
  go_enter Tryz.func41, Tryz.ntmps41
  go_wp2
  go_loop [14] (fun i => ∃ k : Nat, k ≤ s.length ∧ i = .int .i64 k ∧ Hid (b = (s.drop k).all sgB)) (fun i => s.length - (intOf i).toNat)
  case atStart => exact ⟨0, by omega, rfl, H0⟩
  case round =>
    obtain ⟨k, hk, rfl, hr⟩ := hrel
    clear H0
    by_cases hlt : k < s.length
    · have hix := run_idx_str w s k hlt
      have HN := Lib.hid (fun hp => all_step hlt hr.out hp)
      have HF := Lib.hid (fun hp => all_stop hlt hr.out hp)
      clear hr
      generalize s[k] = x at *
      have HX := Lib.hid (show signB x.toNat = sgB x from rfl)
      cases hp : sgB x
      · have HR := Lib.hid (HF.out hp)
        rw [hp] at HX
        clear HN HF hp
        go_wp2_with (first | (go_at_call 66; refine (isSign_any x.toNat w).mono ?_; rintro e w' ⟨rfl, rfl⟩; rw [HX.out]))
        go_ret
        exact ⟨by rw [HR.out]; rfl, rfl⟩
      · have HR := Lib.hid (HN.out hp)
        rw [hp] at HX
        clear HN HF hp
        go_wp2_with (first | (go_at_call 66; refine (isSign_any x.toNat w).mono ?_; rintro e w' ⟨rfl, rfl⟩; rw [HX.out]))
        go_round
        case rel => exact ⟨k + 1, by omega, by go_num, HR⟩
        case measure => simp [intOf]; omega
    · obtain rfl : k = s.length := by omega
      have HR := Lib.hid (all_end hr.out)
      clear hr
      go_wp2
      go_ret
      exact ⟨by rw [HR.out]; rfl, rfl⟩
end Go.Proofs.YtbkfkdiadeaooaaGreat

namespace Go.Proofs.YtbkfkdiadeaooaaGreat
open Go Go.RowKit

theorem LOwn.lets {E : Nat → Prop} {B B' : Nat} {A C : World} {v : Value} {l : List Lc} (h : LOwn A B v l) (hl : Lets E B' A C) (hE : ∀ k, E k → k < B) : LOwn C B v l := by
  refine ⟨h.1, ?_⟩
  rcases h.2 with h0 | ⟨g, cap, cur, rfl, hg, hh, r⟩
  · exact .inl h0
  · exact .inr ⟨g, cap, cur, rfl, hg, hl.blk _ _ hh (fun q => by have := hE _ q; omega) (.inr rfl), r⟩
theorem LOwn.put {B : Nat} {W : World} {v : Value} {l : List Lc} {D : Nat} {o : Obj} (h : LOwn W B v l) (o' : Obj) (hD : W.heap[D]? = some o) (ho : o.isCells = false) : LOwn (W.putObj D o') B v l :=
  LOwn.lets (E := fun _ => False) (B' := 0) h (lets_put o' hD ho (Nat.zero_le _)) (fun _ q => q.elim)
theorem LOwn.set {B : Nat} {W : World} {v : Value} {l : List Lc} {p : Addr} (h : LOwn W B v l) (u : Value) (hp : p.block < B) : LOwn (W.setCell p u) B v l :=
  h.kept fun k e => Below.heap_setCell W p u k (fun q => by have := (h.lt k e).1; omega)

theorem prs_snd (ps : List Ps) : (prs ps).map Prod.snd = ps := by
  unfold prs
  rw [List.map_snd_zip]
  simp
attribute [local go_sem] Oper.semAt_some wideFn wideDepth
end Go.Proofs.YtbkfkdiadeaooaaGreat

namespace Go.Proofs.YtbkfkdiadeaooaaGreat
open Go Go.RowKit

attribute [local go_sem] Oper.semAt_some wideFn wideDepth
end Go.Proofs.YtbkfkdiadeaooaaGreat

namespace Go.Proofs.YtbkfkdiadeaooaaGreat
open Go Go.RowKit

attribute [local go_sem] Oper.semAt_some wideFn wideDepth
end Go.Proofs.YtbkfkdiadeaooaaGreat

namespace Go.Proofs.YtbkfkdiadeaooaaGreat
open Go Go.RowKit

theorem lets_set {E : Nat → Prop} {B : Nat} (A : World) (p : Addr) (v : Value) (h : E p.block) : Lets E B A (A.setCell p v) :=
  ⟨rfl, rfl, rfl, (KeepsOthers.setCell A p v).size, fun k _ hk hE _ => (Below.heap_setCell A p v k (fun e => by subst e; exact hE h)).trans hk⟩
theorem lets_below {E : Nat → Prop} {B : Nat} {A C : World} (h : Below A.heap.size A C) : Lets E B A C := ⟨h.os, h.tape, h.output, h.size, fun k _ hk _ _ => (h.block k (Array.getElem?_eq_some_iff.1 hk).1).trans hk⟩
theorem Lets.trans {E : Nat → Prop} {B : Nat} {A C D : World} (h : Lets E B A C) (k : Lets E B C D) : Lets E B A D := ⟨k.os.trans h.os, k.tape.trans h.tape, k.output.trans h.output, Nat.le_trans h.size k.size, fun i o hi hE hB => k.blk i o (h.blk i o hi hE hB) hE hB⟩
attribute [local go_sem] Oper.semAt_some wideFn wideDepth
end Go.Proofs.YtbkfkdiadeaooaaGreat

namespace Go.Proofs.YtbkfkdiadeaooaaGreat
open Go Go.RowKit

theorem POwn.lets {E : Nat → Prop} {B B' : Nat} {A C : World} {v : Value} {l : List Ps} (h : POwn A B v l) (hl : Lets E B' A C) (hE : ∀ k, E k → k < B) : POwn C B v l := by
  refine ⟨h.1, ?_⟩
  rcases h.2 with h0 | ⟨g, cap, cur, rfl, hg, hh, r⟩
  · exact .inl h0
  · exact .inr ⟨g, cap, cur, rfl, hg, hl.blk _ _ hh (fun q => by have := hE _ q; omega) (.inr rfl), r⟩
theorem SpOwn.lets {E : Nat → Prop} {B B' : Nat} {A C : World} {v : Value} {l : List Sp} (h : SpOwn A B v l) (hl : Lets E B' A C) (hE : ∀ k, E k → k < B) : SpOwn C B v l := by
  obtain ⟨ps, e, ho, hm⟩ := h
  exact ⟨ps, e, ho.lets hl hE, fun p hp => (hm p hp).lets hl hE⟩
theorem SpOwn.put {B : Nat} {W : World} {v : Value} {l : List Sp} {D : Nat} {o : Obj} (h : SpOwn W B v l) (o' : Obj) (hD : W.heap[D]? = some o) (ho : o.isCells = false) : SpOwn (W.putObj D o') B v l :=
  SpOwn.lets (E := fun _ => False) (B' := 0) h (lets_put o' hD ho (Nat.zero_le _)) (fun _ q => q.elim)
/-- steps of the call's own are no spans -/
theorem LOwn.grown {B B' : Nat} {A C : World} {v u : Value} {l : List Lc} {ps : List Ps} (h : LOwn A B v l) (ho : POwn A B' u ps) (hg : A.grownBy C u.ownBlock) : LOwn C B v l := by
  refine h.kept fun k e => hg.block k (h.lt k e).2 fun q => ?_
  rcases h.2 with ⟨rfl, _⟩ | ⟨g, cap, cur, rfl, _, hh, _⟩
  · cases e
  · rcases ho.2 with ⟨rfl, _⟩ | ⟨g', cap', cur', rfl, _, hh', _⟩
    · cases q
    · simp only [Value.ownBlock, Option.some.injEq] at e q
      subst e
      subst q
      rw [hh] at hh'
      injection hh' with e1
      injection e1 with _ e2
      exact absurd e2 (by decide)
theorem POwn.cells {B : Nat} {A : World} {u : Value} {ps : List Ps} (h : POwn A B u ps) : ∀ k, u.ownBlock = some k → ∃ o : Obj, A.heap[k]? = some o ∧ o.isCells = true := by
  intro k e
  rcases h.2 with ⟨rfl, _⟩ | ⟨g, cap, cur, rfl, _, hh, _⟩
  · cases e
  · simp only [Value.ownBlock, Option.some.injEq] at e
    subst e
    exact ⟨_, hh, rfl⟩
theorem same_grown {K : Nat → Prop} {A C : World} {row : Option Nat} (h : A.grownBy C row) (hK : ∀ k, row = some k → ¬ K k) : Same K A C :=
  ⟨h.os, h.tape, h.output, h.size, fun k _ hk hk' => (h.block k (Array.getElem?_eq_some_iff.1 hk).1 (fun e => hK k e.symm hk')).trans hk⟩

section
variable {F : Fence} {n : Nat} {ops : Array Oper} {rest : List Oper} {o : Oper} {a : Act} {Q : Exit → Act → World → Prop}
/-- append of one span onto a row of the call's own, in a round -/
theorem app_spanIn (w : World) (hgd : o.guard = none) (s x : Operand) (ho : o.op = .call { callee := .builtin .append, args := #[s, x], argTypes := #[69, 69] })
    (B : Nat) (v : Value) (xs : List Ps) (hs : a.eval s = v) (hown : POwn w B v xs) (g c : Nat) (y : Ps) (hx : a.eval x = .slice (some ⟨g, 0, none⟩) 1 c) (hy : SpAt w g y)
    (hn : xs.length ≤ 1000000) (hB : B ≤ w.heap.size) (h : ∀ v' w', POwn w' B v' (xs ++ [y]) → w.grownBy w' v.ownBlock → wpListIn F n Tryz.prog ops Q rest (a.put o.dst v') w') : wpListIn F n Tryz.prog ops Q (o :: rest) a w := by
  obtain ⟨i0, hi0, hz0, hz1, hz2⟩ := info_parts span_info
  refine wpListIn_append_own w hgd s x 69 ho B 77 i0 _ 3 40 Tryz.underlying69 hi0 hz0 hz1 hz2 rfl (by omega) v xs.length (xs.flatMap pC) hs hown ⟨g, 0, none⟩ 1 c (pC y) hx rfl ?_ (pC_one y)
    (by simp only [maxLen]; omega) (by omega) hB fun v' w' h1 h2 _ => h v' w' ?_ h2
  · intro j u hu
    unfold SpAt at hy
    rw [add_zero_off]
    simp only [World.cell?, hy, Nat.zero_add]
    simpa [pC] using hu
  · show w'.ownsRow B _ 3 v' (xs ++ [y]).length ((xs ++ [y]).flatMap pC)
    rw [List.flatMap_append, List.length_append]
    simpa using h1
end

attribute [local go_sem] Oper.semAt_some wideFn wideDepth
end Go.Proofs.YtbkfkdiadeaooaaGreat

namespace Go.Proofs.YtbkfkdiadeaooaaGreat
open Go Go.RowKit

theorem below_lnew3 (w : World) (o o2 o3 : Obj) : Below w.heap.size w (((w.alloc o).alloc o2).alloc o3) := (below_lnew2 w o o2).alloc (by simp; omega) _
end Go.Proofs.YtbkfkdiadeaooaaGreat
