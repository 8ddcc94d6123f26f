/-
  Merged for a claim: I3HA, I3IA, KS, I3J, I3N, I3P.
-/
import Derived.Test.YtdnpoeegefkoiaaGreatFI3G
import Derived.Laws.StructEq
import Derived.Test.YtdnpoeegefkoiaaGreatFJ0
namespace Go.Proofs.YtdnpoeegefkoiaaGreat
open Go.RowKit

theorem ins_equal (a b : Ins) (w : World) : (Op.equal 53 (.agg (ic a)) (.agg (ic b))).run Tryz.prog w = .ok (decide (a = b)) w := by
  show (Op.equalIn (9998 + 1 + 1) 53 (.agg (ic a)) (.agg (ic b))).run Tryz.prog w = _
  rw [run_equalIn_struct _ _ _ _ _ (by simp [Program.fieldsOf, Tryz.underlying53]) (by kernel_rfl)]
  simp [Program.fieldsOf, Tryz.underlying53, Op.eqFields, part, ic, go_sem]
  obtain ⟨k, o, r, s, t, n, m⟩ := a
  obtain ⟨k', o', r', s', t', n', m'⟩ := b
  simp only [Ins.mk.injEq]
  repeat' split
  all_goals simp [*]
theorem ins_eql (a b : Ins) (w : World) : (binOp .eql 53 (.agg (ic a)) (.agg (ic b))).run Tryz.prog w = .ok (.bool (decide (a = b))) w := by
  simp [binOp, go_sem, ins_equal]

/-- an instruction lies in a block -/
def InsAt (w : World) (g : Nat) (i : Ins) : Prop := w.heap[g]? = some (.cells (ic i) 53 (0, 0))
theorem InsAt.lt {w : World} {g : Nat} {i : Ins} (h : InsAt w g i) : g < w.heap.size := by
  rcases Nat.lt_or_ge g w.heap.size with h' | h'
  · exact h'
  · unfold InsAt at h; rw [Array.getElem?_eq_none h'] at h; cases h
theorem InsAt.below {w w' : World} {g B : Nat} {i : Ins} (h : InsAt w g i) (hb : Below B w w') (hg : g < B) : InsAt w' g i := (hb.block g hg).trans h
theorem InsAt.kept {w w' : World} {g : Nat} {i : Ins} {row : Option Nat} (h : InsAt w g i) (hg : w.grownBy w' row) (hne : some g ≠ row) : InsAt w' g i := (hg.block g h.lt hne).trans h

/-- what a world is left as by seven stores into a block -/
def put7 (w : World) (g : Nat) (i : Ins) : World :=
  (((((((w.setCell ⟨g, 0, none⟩ (.int .u8 i.k)).setCell ⟨g, 1, none⟩ (.int .u8 i.o)).setCell ⟨g, 2, none⟩ (.int .i64 i.r)).setCell ⟨g, 3, none⟩ (.int .i64 i.s)).setCell ⟨g, 4, none⟩ (.int .i64 i.t)).setCell ⟨g, 5, none⟩ (.int .i64 i.n)).setCell ⟨g, 6, none⟩ (.int .i64 i.m))
theorem grown_set (w : World) (g j : Nat) (v : Value) : w.grownBy (w.setCell ⟨g, j, none⟩ v) (some g) :=
  ⟨rfl, rfl, rfl, by simp [World.setCell], fun k _ hk => Below.heap_setCell w ⟨g, j, none⟩ v k (fun e => hk (by rw [e]))⟩
theorem put7_grown (w : World) (g : Nat) (i : Ins) : w.grownBy (put7 w g i) (some g) :=
  ((((((grown_set w g 0 _).trans (grown_set _ g 1 _)).trans (grown_set _ g 2 _)).trans (grown_set _ g 3 _)).trans (grown_set _ g 4 _)).trans (grown_set _ g 5 _)).trans (grown_set _ g 6 _)
theorem put7_at {w : World} {g : Nat} {l : Ins} (h : InsAt w g l) (i : Ins) : InsAt (put7 w g i) g i := ins_store h _ _ _ _ _ _ _

/-- the cells of a part that lies in a block -/
theorem part_cells {w : World} {g : Nat} {a b c d : Value} (h : w.heap[g]? = some (.cells #[a, b, c, d] 96 (0, 0))) :
    w.cell? ⟨g, 0, none⟩ = some a ∧ w.cell? ⟨g, 1, none⟩ = some b ∧ w.cell? ⟨g, 2, none⟩ = some c ∧ w.cell? ⟨g, 3, none⟩ = some d := by
  simp [World.cell?, h]
def dropAll (L : List Pt) (i : Ins) : Ins := L.foldl (fun a p => dropP p a) i
theorem dropAll_snoc (L : List Pt) (p : Pt) (i : Ins) : dropAll (L ++ [p]) i = dropP p (dropAll L i) := by simp [dropAll]
/-- may an instruction be? -/
def rightB (i : Ins) : Bool := isK i.k && ((ptsOf i.k).all fun p => fitsP p i) && decide (dropAll (ptsOf i.k) i = ⟨i.k, 0, 0, 0, 0, 0, 0⟩)

theorem take_snoc {L : List Pt} {j : Nat} {p : Pt} (h : L[j]? = some p) : L.take (j + 1) = L.take j ++ [p] := by
  obtain ⟨hj, e⟩ := List.getElem?_eq_some_iff.1 h
  rw [List.take_succ_eq_append_getElem hj, e]

end Go.Proofs.YtdnpoeegefkoiaaGreat

namespace Go.Proofs.YtdnpoeegefkoiaaGreat
open Go.RowKit

def ownB (i : Ins) : List UInt8 := if rightB i = true then UInt8.ofNat i.k.toNat :: (ptsOf i.k).flatMap (fun p => bytesP p i) else []
def ownP (i : Ins) (L : List Pt) : List UInt8 := UInt8.ofNat i.k.toNat :: L.flatMap (fun p => bytesP p i)
theorem ownP_len (i : Ins) (L : List Pt) : (ownP i L).length ≤ 1 + 10 * L.length := by
  induction L with
  | nil => simp [ownP]
  | cons p L ih =>
    have := bytesP_len p i
    simp only [ownP, List.flatMap_cons, List.length_cons, List.length_append] at *
    omega
theorem ownP_snoc (i : Ins) (L : List Pt) (p : Pt) : ownP i (L ++ [p]) = ownP i L ++ bytesP p i := by simp [ownP]

/-- a slice's value lies in a block -/
def SlAt (w : World) (g : Nat) (v : Value) : Prop := w.heap[g]? = some (.cells #[v] 23 (0, 0))
theorem SlAt.lt {w : World} {g : Nat} {v : Value} (h : SlAt w g v) : g < w.heap.size := by
  rcases Nat.lt_or_ge g w.heap.size with h' | h'
  · exact h'
  · unfold SlAt at h; rw [Array.getElem?_eq_none h'] at h; cases h
theorem SlAt.below {w w' : World} {g B : Nat} {v : Value} (h : SlAt w g v) (hb : Below B w w') (hg : g < B) : SlAt w' g v := (hb.block g hg).trans h
theorem SlAt.kept {w w' : World} {g : Nat} {v : Value} {row : Option Nat} (h : SlAt w g v) (hg : w.grownBy w' row) (hne : some g ≠ row) : SlAt w' g v := (hg.block g h.lt hne).trans h
theorem SlAt.cell {w : World} {g : Nat} {v : Value} (h : SlAt w g v) : w.cell? ⟨g, 0, none⟩ = some v ∧ w.frozen? ⟨g, 0, none⟩ = false := by
  unfold SlAt at h
  simp [World.cell?, World.frozen?, h]
theorem SlAt.store {w : World} {g : Nat} {v : Value} (h : SlAt w g v) (v' : Value) : SlAt (w.setCell ⟨g, 0, none⟩ v') g v' := by
  unfold SlAt at *
  simp [World.setCell, Array.getElem?_modify, h]
theorem own_ne {w : World} {B g t : Nat} {v : Value} {l : List UInt8} {cs : Array Value} {x : Nat × Nat} (ho : Own w B v l) (h : w.heap[g]? = some (.cells cs t x)) (ht : t ≠ 5) : some g ≠ v.ownBlock := by
  intro e
  rcases ho with ⟨rfl, _⟩ | ⟨g', r, rfl, _, _, hb⟩
  · cases e
  · simp only [Value.ownBlock, Option.some.injEq] at e
    subst e
    unfold Blk at hb
    rw [hb] at h
    simp only [Option.some.injEq, Obj.cells.injEq] at h
    exact ht h.2.1.symm

theorem right_parts {i : Ins} (h : rightB i = true) : isK i.k = true ∧ (∀ p ∈ ptsOf i.k, fitsP p i = true) ∧ dropAll (ptsOf i.k) i = ⟨i.k, 0, 0, 0, 0, 0, 0⟩ := by
  simp only [rightB, Bool.and_eq_true, List.all_eq_true, decide_eq_true_eq] at h
  exact ⟨h.1.1, h.1.2, h.2⟩
theorem kind_own (w : World) (z : Int) (h0 : 0 ≤ z) (h1 : z < 256) : Own (w.alloc (.cells #[.int .u8 z] 5)) w.heap.size (.slice (some ⟨w.heap.size, 0, none⟩) 1 1) [UInt8.ofNat z.toNat] := by
  have h := blk_lit w [UInt8.ofNat z.toNat] #[.int .u8 z] (by
    have h : ((UInt8.ofNat z.toNat).toNat : Int) = z := by simp; omega
    simp only [List.map_cons, List.map_nil, b8, h])
  have := Own.of h (Nat.le_refl _) 1 (by simp) (by simp [maxLen])
  simpa using this

end Go.Proofs.YtdnpoeegefkoiaaGreat

namespace Go.Proofs.YtdnpoeegefkoiaaGreat
open Go

section
variable {P : Program} {fn : Func} {p u v : Tmp} {ty : TypeId}
theorem run_loadVar_int {k : IntKind} {t : TypeId} (hu : P.underlying t = some (.int k)) {w : World} {a : Addr} {x : Value} (hc : w.cell? a = some x) : (loadVar t a).run P w = .ok x w := by
  have hagg : (isAgg t).run P w = .ok false w := by
    unfold isAgg
    rw [Sem.run_bind, run_underlying hu w]
    rfl
  simp [loadVar, Sem.run_bind, hagg, run_load, hc]
theorem res_row_cell2 {t1 t2 : TypeId} {k1 k2 : IntKind} (h : fn.results = #[.cell p ty, .cell u t1, .cell v t2]) (tmps : Array Value) (w : World) (g g1 g2 : Nat) (t : TypeId) (cs : Array Value) (fr : Nat × Nat) (d : TypeDesc) (x1 x2 : Value)
    (hp : tmps.getD p undef = .pointer (some ⟨g, 0, none⟩)) (hp1 : tmps.getD u undef = .pointer (some ⟨g1, 0, none⟩)) (hp2 : tmps.getD v undef = .pointer (some ⟨g2, 0, none⟩)) (hg : w.heap[g]? = some (.cells cs t fr))
    (hu : P.underlying ty = some d) (hd : (match d with | .struct _ | .array _ _ => true | _ => false) = true) (hi : (P.info? ty).map (·.size) = some cs.size)
    (h1 : P.underlying t1 = some (.int k1)) (h2 : P.underlying t2 = some (.int k2)) (c1 : w.cell? ⟨g1, 0, none⟩ = some x1) (c2 : w.cell? ⟨g2, 0, none⟩ = some x2) :
    (results fn tmps).run P w = .ok (.tuple #[.agg cs, x1, x2]) w := by
  have hp' : tmps[p]?.getD undef = .pointer (some ⟨g, 0, none⟩) := by simpa using hp
  have hp1' : tmps[u]?.getD undef = .pointer (some ⟨g1, 0, none⟩) := by simpa using hp1
  have hp2' : tmps[v]?.getD undef = .pointer (some ⟨g2, 0, none⟩) := by simpa using hp2
  simp [results, h, hp', hp1', hp2', asAddr, run_loadVar_row w g t ty cs fr d hg hu hd hi, run_loadVar_int h1 c1, run_loadVar_int h2 c2]
end

end Go.Proofs.YtdnpoeegefkoiaaGreat

namespace Go.Proofs.YtdnpoeegefkoiaaGreat
open Go.RowKit

/-- a number lies in a block -/
def IntAt (w : World) (g t : Nat) (n : Int) : Prop := w.heap[g]? = some (.cells #[.int .i64 n] t (0, 0))
section
variable {w w' : World} {g t : Nat} {n : Int}
theorem IntAt.lt (h : IntAt w g t n) : g < w.heap.size := by
  rcases Nat.lt_or_ge g w.heap.size with h' | h'
  · exact h'
  · unfold IntAt at h; rw [Array.getElem?_eq_none h'] at h; cases h
theorem IntAt.below {B : Nat} (h : IntAt w g t n) (hb : Below B w w') (hg : g < B) : IntAt w' g t n := (hb.block g hg).trans h
theorem IntAt.kept {row : Option Nat} (h : IntAt w g t n) (hg : w.grownBy w' row) (hne : some g ≠ row) : IntAt w' g t n := (hg.block g h.lt hne).trans h
theorem IntAt.cell (h : IntAt w g t n) : w.cell? ⟨g, 0, none⟩ = some (.int .i64 n) ∧ w.frozen? ⟨g, 0, none⟩ = false := by
  unfold IntAt at h
  simp [World.cell?, World.frozen?, h]
theorem IntAt.store (h : IntAt w g t n) (m : Int) : IntAt (w.setCell ⟨g, 0, none⟩ (.int .i64 m)) g t m := by
  unfold IntAt at *
  simp [World.setCell, Array.getElem?_modify, h]
end

/-- what Get holds while it reads: the bytes, the instruction, the place, the error -/
structure Holds (w : World) (b : Nat) (A : Option Addr) (c : Nat) (l : List UInt8) (i : Ins) (x er : Int) : Prop where
  sl : SlAt w b (.slice A l.length c)
  ins : InsAt w (b + 1) i
  at_ : IntAt w (b + 2) 3 x
  err : IntAt w (b + 3) 32 er
theorem Holds.below {w w' : World} {b B : Nat} {A : Option Addr} {c : Nat} {l : List UInt8} {i : Ins} {x er : Int} (h : Holds w b A c l i x er) (hb : Below B w w') (hB : b + 3 < B) : Holds w' b A c l i x er :=
  ⟨h.sl.below hb (by omega), h.ins.below hb (by omega), h.at_.below hb (by omega), h.err.below hb (by omega)⟩
def setAll (w : World) (b : Nat) (i : Ins) (x er : Int) : World := ((put7 w (b + 1) i).setCell ⟨b + 2, 0, none⟩ (.int .i64 x)).setCell ⟨b + 3, 0, none⟩ (.int .i64 er)
theorem setAll_below {w0 w : World} {B b : Nat} (h : Below B w0 w) (hB : B ≤ b) (i : Ins) (x er : Int) : Below B w0 (setAll w b i x er) :=
  ((below_ins h (by omega) _ _ _ _ _ _ _).setCell (p := ⟨b + 2, 0, none⟩) (by simp; omega) _).setCell (p := ⟨b + 3, 0, none⟩) (by simp; omega) _
theorem setAll_size (w : World) (b : Nat) (i : Ins) (x er : Int) : (setAll w b i x er).heap.size = w.heap.size := by simp [setAll, put7, World.setCell]
theorem Holds.set {w : World} {b : Nat} {A : Option Addr} {c : Nat} {l : List UInt8} {i : Ins} {x er : Int} (h : Holds w b A c l i x er) (i' : Ins) (x' er' : Int) : Holds (setAll w b i' x' er') b A c l i' x' er' := by
  have g1 := put7_grown w (b + 1) i'
  have g2 := grown_set (put7 w (b + 1) i') (b + 2) 0 (.int .i64 x')
  have g3 := grown_set ((put7 w (b + 1) i').setCell ⟨b + 2, 0, none⟩ (.int .i64 x')) (b + 3) 0 (.int .i64 er')
  exact ⟨((h.sl.kept g1 (by simp)).kept g2 (by simp)).kept g3 (by simp), ((put7_at h.ins i').kept g2 (by simp)).kept g3 (by simp),
    ((h.at_.kept g1 (by simp)).store x').kept g3 (by simp), ((h.err.kept g1 (by simp)).kept g2 (by simp)).store er'⟩

def Get1R (p : Pt) (b : Nat) (A : Option Addr) (c : Nat) (l : List UInt8) (i : Ins) (x : Int) (w : World) (e : Ending) (w' : World) : Prop :=
  e = .returned (.bool (decide (getE p l x = 0) && fitsP p (getI p i l x))) ∧ Holds w' b A c l (getI p i l x) (getN p l x) (getE p l x) ∧ Below b w w'

set_option maxRecDepth 100000 in
set_option maxHeartbeats 400000 in
theorem get1_any (p : Pt) (b : Nat) (A : Option Addr) (c : Nat) (l : List UInt8) (i : Ins) (x er : Int) (w : World) (hh : Holds w b A c l i x er) (hcap : l.length ≤ c) (hn : l.length ≤ 1099511627776) (h : Lies w b A l) :
    Calls Tryz.prog 54 #[pv p, .pointer (some ⟨b + 1, 0, none⟩), .pointer (some ⟨b, 0, none⟩), .pointer (some ⟨b + 2, 0, none⟩), .pointer (some ⟨b + 3, 0, none⟩)] w (Get1R p b A c l i x w) := by
  have hg := enter_g p
  have hf := enter_f p
  have hlt := hh.err.lt
  have hb0 := below_box w (.cells (pc p) 96)
  have hh0 := hh.below hb0 (by omega)
  have HP := Lib.hid (heap_alloc_new w (.cells (pc p) 96))
  have HG := Lib.hid (get_any p i A c l x (w.alloc (.cells (pc p) 96)) hcap hn ((h.below (hb0.mono (by omega))).more (by simp; omega)))
  have HF := Lib.hid (fun w => fits_any p (getI p i l x) w)
  obtain ⟨⟨c0, c1, c2, c3, c4, c5, c6⟩, _⟩ := ins_cells hh0.ins
  have c7 := hh0.sl.cell.1
  have c8 := hh0.at_.cell.1
  have HB := Lib.hid hb0
  have HH := Lib.hid hh0
  clear hh hb0 hh0 h
  unfold pc at HP HG HB HH c0 c1 c2 c3 c4 c5 c6 c7 c8
  unfold iv ic at HG HF
  unfold pv pc
  go_enter Tryz.func54, Tryz.ntmps54
  go_wp2_with fail
  refine HG.out.mono ?_
  rintro e w1 ⟨rfl, hb1⟩
  have HB1 := Lib.hid hb1
  have hp1 := (hb1.block w.heap.size (by simp)).trans HP.out
  have hh1 := HH.out.below hb1 (by simp; omega)
  obtain ⟨p0, _, _, _⟩ := part_cells hp1
  obtain ⟨⟨d0, d1, d2, d3, d4, d5, d6⟩, df⟩ := ins_cells hh1.ins
  obtain ⟨d8, df8⟩ := hh1.at_.cell
  obtain ⟨d9, df9⟩ := hh1.err.cell
  have HH1 := Lib.hid hh1
  clear c0 c1 c2 c3 c4 c5 c6 c7 c8 HP HH HG hb1 hp1 hh1 hg
  have n1 : ¬ (w.heap.size = b + 1) := by omega
  have n2 : ¬ (w.heap.size = b + 2) := by omega
  have n3 : ¬ (w.heap.size = b + 3) := by omega
  have m1 : ¬ (b + 1 = w.heap.size) := by omega
  have m2 : ¬ (b + 2 = w.heap.size) := by omega
  have m3 : ¬ (b + 3 = w.heap.size) := by omega
  obtain ⟨i', hi'⟩ : ∃ i', i' = getI p i l x := ⟨_, rfl⟩
  obtain ⟨x', hx'⟩ : ∃ x', x' = getN p l x := ⟨_, rfl⟩
  obtain ⟨er', he'⟩ : ∃ er', er' = getE p l x := ⟨_, rfl⟩
  rw [← hi', ← hx', ← he']
  rw [← hi'] at HF
  have HQ := Lib.hid (And.intro hi' (And.intro hx' he'))
  clear hi' hx' he'
  have HW : Hid (Below b w (setAll w1 b i' x' er')) := setAll_below ((HB.out.mono (by omega)).trans (HB1.out.mono (by simp; omega))) (Nat.le_refl _) _ _ _
  have HS := Lib.hid (HH1.out.set i' x' er')
  unfold iv ic
  by_cases h0 : er' = 0
  · have b0 := beq_of h0
    have HE := Lib.hid (show (decide (er' = 0) && fitsP p i') = fitsP p i' by simp [h0])
    clear h0
    go_wp2_with fail
    refine (HF.out _).mono ?_
    rintro e w2 ⟨rfl, hb2⟩
    have HB2 : Hid (Below (setAll w1 b i' x' er').heap.size (setAll w1 b i' x' er') w2) := hb2
    clear hb2
    go_wp2_with fail
    go_ret
    have hsz := setAll_size w1 b i' x' er'
    have hlt2 := HS.out.err.lt
    unfold Get1R
    rw [← HQ.out.1, ← HQ.out.2.1, ← HQ.out.2.2, HE.out]
    exact ⟨rfl, HS.out.below HB2.out hlt2, HW.out.trans (HB2.out.mono (by omega))⟩
  · have b0 := nbeq_of h0
    have HE := Lib.hid (show (decide (er' = 0) && fitsP p i') = false by simp [h0])
    clear h0
    go_wp2_with fail
    go_ret
    unfold Get1R
    rw [← HQ.out.1, ← HQ.out.2.1, ← HQ.out.2.2, HE.out]
    exact ⟨rfl, HS.out, HW.out⟩

/-- one part is read -/
def stepP (l : List UInt8) (p : Pt) (s : Ins × Int) : Option (Ins × Int) :=
  if getE p l s.2 = 0 ∧ fitsP p (getI p s.1 l s.2) = true then some (getI p s.1 l s.2, getN p l s.2) else none
def runP (l : List UInt8) : List Pt → Ins × Int → Option (Ins × Int)
  | [], s => some s
  | p :: L, s => (stepP l p s).bind (runP l L)
theorem runP_append (l : List UInt8) : ∀ (L M : List Pt) (s : Ins × Int), runP l (L ++ M) s = (runP l L s).bind (runP l M)
  | [], M, s => rfl
  | p :: L, M, s => by
    simp only [List.cons_append, runP]
    cases stepP l p s with
    | none => rfl
    | some z => exact runP_append l L M z
theorem runP_take {l : List UInt8} {L : List Pt} {j : Nat} {p : Pt} {s0 s : Ins × Int} (h : L[j]? = some p) (hs : runP l (L.take j) s0 = some s) : runP l (L.take (j + 1)) s0 = stepP l p s := by
  rw [take_snoc h, runP_append, hs]
  show (stepP l p s).bind (runP l []) = _
  cases stepP l p s <;> rfl
theorem runP_none {l : List UInt8} {L : List Pt} {k : Nat} {s0 : Ins × Int} (h : runP l (L.take k) s0 = none) : runP l L s0 = none := by
  rw [← List.take_append_drop k L, runP_append, h]
  rfl

def GetJ (b : Nat) (A : Option Addr) (c : Nat) (l : List UInt8) (L : List Pt) (s0 : Ins × Int) (w : World) (j : Nat) (w' : World) : Prop :=
  ∃ s er, runP l (L.take j) s0 = some s ∧ Holds w' b A c l s.1 s.2 er ∧ Below b w w' ∧ b ≤ w.heap.size
def GetF (b : Nat) (A : Option Addr) (c : Nat) (l : List UInt8) (L : List Pt) (s0 : Ins × Int) (w w' : World) : Prop :=
  (∃ i x er, Holds w' b A c l i x er) ∧ Below b w w' ∧ runP l L s0 = none
theorem enter_get (args : Array Value) (w : World) : (callFunc 54 args).run Tryz.prog w = .ok (.enter 54 args) w := run_enter Tryz.func54 (by kernel_rfl) (by kernel_rfl) args w
theorem get_each (k : Int) (b : Nat) (A : Option Addr) (c : Nat) (l : List UInt8) (s0 : Ins × Int) (w w0 : World) (hcap : l.length ≤ c) (hn : l.length ≤ 1099511627776) (h : Lies w b A l) (h0 : GetJ b A c l (ptsOf k) s0 w 0 w0) :
    Calls Tryz.prog 53 #[.int .u8 k, .func (.func 54) #[] #[.pointer (some ⟨b + 1, 0, none⟩), .pointer (some ⟨b, 0, none⟩), .pointer (some ⟨b + 2, 0, none⟩), .pointer (some ⟨b + 3, 0, none⟩)]] w0
      fun e w' => (e = .returned (.bool (isK k)) ∧ GetJ b A c l (ptsOf k) s0 w (ptsOf k).length w') ∨ (e = .returned (.bool false) ∧ GetF b A c l (ptsOf k) s0 w w') := by
  refine each_any k 54 _ w0 (GetJ b A c l (ptsOf k) s0 w) (GetF b A c l (ptsOf k) s0 w) enter_get ?_ h0 ?_
  · rintro j w1 w2 ⟨s, er, h1, h2, h3, h4⟩ hb
    exact ⟨s, er, h1, h2.below hb h2.err.lt, h3.trans (hb.mono (Nat.le_trans h4 h3.size)), h4⟩
  · rintro j p hp w1 ⟨s, er, h1, h2, h3, h4⟩
    refine (get1_any p b A c l s.1 s.2 er w1 h2 hcap hn (h.below h3)).mono ?_
    rintro e w2 ⟨rfl, a1, a2⟩
    by_cases hs : getE p l s.2 = 0 ∧ fitsP p (getI p s.1 l s.2) = true
    · refine .inl ⟨by simp [hs.1, hs.2], (getI p s.1 l s.2, getN p l s.2), _, ?_, a1, h3.trans a2, h4⟩
      rw [runP_take hp h1, stepP, if_pos hs]
    · refine .inr ⟨?_, ⟨_, _, _, a1⟩, h3.trans a2, runP_none (k := j + 1) ?_⟩
      · congr 2
        rw [Bool.eq_false_iff]
        intro h
        simp only [Bool.and_eq_true, decide_eq_true_eq] at h
        exact hs h
      · rw [runP_take hp h1, stepP, if_neg hs]

/-- what is got at a place -/
def insOf (k : Int) : Ins := ⟨k, 0, 0, 0, 0, 0, 0⟩
def gR (l : List UInt8) (x : Int) : Option (Ins × Int) :=
  if stV l.length x 1 = 0 ∧ isK (oneX l x) = true then runP l (ptsOf (oneX l x)) (insOf (oneX l x), oneN l x) else none
def gE (l : List UInt8) (x : Int) : Int := if stV l.length x 1 = 0 then (if (gR l x).isSome then 0 else 5) else stV l.length x 1
def gI (l : List UInt8) (x : Int) : Ins := ((gR l x).getD (insOf 0, 0)).1
def gN (l : List UInt8) (x : Int) : Int := ((gR l x).getD (insOf 0, 0)).2
def GetR (l : List UInt8) (x : Int) (w : World) (e : Ending) (w' : World) : Prop :=
  e = .returned (.tuple #[iv (gI l x), .int .i64 (gN l x), .int .i64 (gE l x)]) ∧ Below w.heap.size w w'

theorem get_back {fn : Func} {p u v : Tmp} (h : fn.results = #[.cell p 53, .cell u 3, .cell v 32]) {tmps : Array Value} {w : World} {g : Nat}
    (hp : tmps.getD p undef = .pointer (some ⟨g, 0, none⟩)) (hp1 : tmps.getD u undef = .pointer (some ⟨g + 1, 0, none⟩)) (hp2 : tmps.getD v undef = .pointer (some ⟨g + 2, 0, none⟩))
    {i : Ins} {x er : Int} (h1 : InsAt w g i) (h2 : IntAt w (g + 1) 3 x) (h3 : IntAt w (g + 2) 32 er) :
    (results fn tmps).run Tryz.prog w = .ok (.tuple #[iv i, .int .i64 x, .int .i64 er]) w :=
  res_row_cell2 h tmps w g _ _ _ _ _ _ _ _ hp hp1 hp2 h1 Tryz.underlying53 rfl ins_size Tryz.underlying3 Tryz.underlying32 h2.cell.1 h3.cell.1

end Go.Proofs.YtdnpoeegefkoiaaGreat

namespace Go.Proofs.YtdnpoeegefkoiaaGreat
open Go.RowKit

/-- a part of one instruction laid into another one -/
def setP : Pt → Ins → Ins → Ins
  | .op, j, i => { i with o := j.o }
  | .reg, j, i => { i with r := j.r }
  | .both, j, i => { i with r := j.r, s := j.s }
  | .third, j, i => { i with t := j.t }
  | .num, j, i => { i with n := j.n }
  | .many, j, i => { i with m := j.m }
  | .to, j, i => { i with n := j.n }
  | .how, j, i => { i with n := j.n }
/-- do two parts say nothing of one another? -/
def aside : Pt → Pt → Bool
  | .op, .op => false
  | .reg, .reg => false
  | .reg, .both => false
  | .both, .reg => false
  | .both, .both => false
  | .third, .third => false
  | .many, .many => false
  | .num, .num => false
  | .num, .to => false
  | .num, .how => false
  | .to, .num => false
  | .to, .to => false
  | .to, .how => false
  | .how, .num => false
  | .how, .to => false
  | .how, .how => false
  | _, _ => true

theorem set_k (p : Pt) (j i : Ins) : (setP p j i).k = i.k := by cases p <;> rfl
theorem set_self (p : Pt) (j : Ins) : setP p j j = j := by cases p <;> rfl
theorem set_drop (p : Pt) (j i : Ins) : setP p j (dropP p i) = setP p j i := by cases p <;> rfl
theorem set_drop_far {p q : Pt} (h : aside p q = true) (j i : Ins) : setP p j (dropP q i) = dropP q (setP p j i) := by
  cases p <;> cases q <;> first | rfl | cases h
theorem drop_comm (p q : Pt) (i : Ins) : dropP p (dropP q i) = dropP q (dropP p i) := by cases p <;> cases q <;> rfl
theorem drop_get (p : Pt) (i : Ins) (l : List UInt8) (x : Int) : dropP p (getI p i l x) = dropP p i := by cases p <;> rfl
theorem get_k (p : Pt) (i : Ins) (l : List UInt8) (x : Int) : (getI p i l x).k = i.k := by cases p <;> rfl
theorem bytes_far {p q : Pt} (h : aside p q = true) (i : Ins) (l : List UInt8) (x : Int) : bytesP p (getI q i l x) = bytesP p i := by
  cases p <;> cases q <;> first | rfl | cases h
theorem fits_far {p q : Pt} (h : aside p q = true) (i : Ins) (l : List UInt8) (x : Int) : fitsP p (getI q i l x) = fitsP p i := by
  cases p <;> cases q <;> first | rfl | cases h
theorem fits_set {p : Pt} {i j : Ins} (h : i.k = j.k) : fitsP p (setP p j i) = fitsP p j := by
  cases p <;> first | rfl | simp [setP, fitsP, h]
theorem drop_k (p : Pt) (i : Ins) : (dropP p i).k = i.k := by cases p <;> rfl

theorem dropAll_cons (p : Pt) (L : List Pt) (i : Ins) : dropAll (p :: L) i = dropAll L (dropP p i) := rfl
theorem dropAll_comm (p : Pt) : ∀ (L : List Pt) (i : Ins), dropAll L (dropP p i) = dropP p (dropAll L i)
  | [], i => rfl
  | q :: L, i => by rw [dropAll_cons, dropAll_cons, drop_comm, dropAll_comm p L]
theorem set_dropAll {p : Pt} (j : Ins) : ∀ (L : List Pt) (i : Ins), (∀ q ∈ L, aside p q = true) → setP p j (dropAll L i) = dropAll L (setP p j i)
  | [], _, _ => rfl
  | q :: L, i, h => by rw [dropAll_cons, set_dropAll j L _ (fun q hq => h q (List.mem_cons_of_mem _ hq)), set_drop_far (h q List.mem_cons_self), ← dropAll_cons]
def setAllP (L : List Pt) (j i : Ins) : Ins := L.foldl (fun a p => setP p j a) i
theorem setAllP_cons (p : Pt) (L : List Pt) (j i : Ins) : setAllP (p :: L) j i = setAllP L j (setP p j i) := rfl
def Asides (L : List Pt) : Prop := L.Pairwise fun p q => aside p q = true
theorem set_all (j : Ins) : ∀ L : List Pt, Asides L → setAllP L j (dropAll L j) = j
  | [], _ => rfl
  | p :: L, h => by
    have h' := List.pairwise_cons.1 h
    rw [setAllP_cons, dropAll_cons, dropAll_comm, set_drop, set_dropAll j L j h'.1, set_self, set_all j L h'.2]
theorem ptsOf_asides (k : Int) : Asides (ptsOf k) := by
  unfold ptsOf
  repeat' split
  all_goals simp [Asides, aside]

theorem one_prefix {c : UInt8} {l : List UInt8} {k : Nat} : [c] <+: l.drop k ↔ ∃ h : k < l.length, l[k] = c := by
  constructor
  · rintro ⟨t, ht⟩
    have hl := congrArg List.length ht
    simp at hl
    have hk : k < l.length := by omega
    refine ⟨hk, ?_⟩
    rw [List.drop_eq_getElem_cons hk] at ht
    injection ht with h1 _
    exact h1.symm
  · rintro ⟨h, rfl⟩
    rw [List.drop_eq_getElem_cons h]
    exact ⟨_, rfl⟩
theorem three_prefix {a b c : UInt8} {l : List UInt8} {k : Nat} : [a, b, c] <+: l.drop k ↔ ∃ h : k + 2 < l.length, l[k] = a ∧ l[k + 1] = b ∧ l[k + 2] = c := by
  constructor
  · rintro ⟨t, ht⟩
    have hl := congrArg List.length ht
    simp at hl
    have hk : k + 2 < l.length := by omega
    refine ⟨hk, ?_⟩
    rw [List.drop_eq_getElem_cons (show k < l.length by omega), List.drop_eq_getElem_cons (show k + 1 < l.length by omega), List.drop_eq_getElem_cons (show k + 1 + 1 < l.length by omega)] at ht
    simp only [List.cons_append, List.nil_append, List.cons.injEq] at ht
    exact ⟨ht.1.symm, ht.2.1.symm, ht.2.2.1.symm⟩
  · rintro ⟨h, rfl, rfl, rfl⟩
    rw [List.drop_eq_getElem_cons (show k < l.length by omega), List.drop_eq_getElem_cons (show k + 1 < l.length by omega), List.drop_eq_getElem_cons (show k + 1 + 1 < l.length by omega)]
    exact ⟨_, rfl⟩

theorem one_at {l : List UInt8} {k : Nat} (h : k < l.length) : stV l.length k 1 = 0 ∧ oneX l k = (l[k].toNat : Int) ∧ oneN l k = (k : Int) + 1 := by
  have hv : stV l.length k 1 = 0 := st_ok (by omega) (by omega) (by omega)
  exact ⟨hv, by simp [oneX, hv, h], by simp [oneN, hv]⟩
theorem one_in {l : List UInt8} {x : Int} (h : stV l.length x 1 = 0) : ∃ k : Nat, x = k ∧ k < l.length := by
  by_cases hi : 0 ≤ x ∧ x < l.length
  · exact ⟨x.toNat, by omega, by omega⟩
  · exact absurd h (one_bad hi)
theorem place_at {l : List UInt8} {k : Nat} (h : k + 2 < l.length) : stV l.length k 3 = 0 ∧ plX l k = 65536 * (l[k].toNat : Int) + 256 * (l[k + 1].toNat : Int) + (l[k + 2].toNat : Int) ∧ plN l k = (k : Int) + 3 := by
  have hv : stV l.length k 3 = 0 := st_ok (by omega) (by omega) (by omega)
  exact ⟨hv, by simp [plX, hv, show k < l.length by omega, show k + 1 < l.length by omega, h], by simp [plN, hv]⟩
theorem place_in {l : List UInt8} {x : Int} (h : stV l.length x 3 = 0) : ∃ k : Nat, x = k ∧ k + 2 < l.length := by
  by_cases hi : 0 ≤ x ∧ x + 3 ≤ l.length
  · exact ⟨x.toNat, by omega, by omega⟩
  · exact absurd h (pl_bad hi)
theorem u8_int {c : UInt8} {z : Int} (h0 : 0 ≤ z) (h1 : z < 256) : c = UInt8.ofNat z.toNat ↔ (c.toNat : Int) = z := by
  constructor
  · rintro rfl
    simp; omega
  · intro h
    apply UInt8.toNat_inj.1
    simp; omega
theorem plB_at {z : Int} (h0 : 0 ≤ z) (h1 : z < 16777216) (a b c : UInt8) : (a = UInt8.ofNat (z.toNat / 65536) ∧ b = UInt8.ofNat (z.toNat / 256 % 256) ∧ c = UInt8.ofNat (z.toNat % 256)) ↔ 65536 * (a.toNat : Int) + 256 * (b.toNat : Int) + (c.toNat : Int) = z := by
  have ha := a.toNat_lt
  have hb := b.toNat_lt
  have hc := c.toNat_lt
  constructor
  · rintro ⟨rfl, rfl, rfl⟩
    simp; omega
  · intro h
    refine ⟨?_, ?_, ?_⟩ <;> apply UInt8.toNat_inj.1 <;> simp <;> omega

theorem hv_rng {b : Bool} {r : List UInt8} (h : lg r 10 ≠ 0) : rng b (hv b r) := by
  obtain ⟨h1, h2, _, _⟩ := lg_has 10 r h
  have hs := sm_bound (r.take (lg r 10))
  rw [List.length_take, Nat.min_eq_left h2] at hs
  exact val_rng hs.1 hs.2 (by omega) h1
theorem rd_in {b : Bool} {l : List UInt8} {x : Int} (h : rdE b l x = 0) : ∃ k : Nat, x = k ∧ k ≤ l.length ∧ good b (l.drop k) := by
  by_cases hi : x < 0 ∨ (l.length : Int) < x
  · rw [(rd_arg hi).1] at h; omega
  · obtain ⟨k, rfl⟩ : ∃ k : Nat, x = k := ⟨x.toNat, by omega⟩
    refine ⟨k, rfl, by omega, ?_⟩
    by_cases hg : good b (l.drop k)
    · exact hg
    · rw [(rd_form (by omega) hg).1] at h; omega
theorem rd_put {b : Bool} {l : List UInt8} {k : Nat} {z : Int} (hr : rng b z) (h : nB b z <+: l.drop k) (hk : k ≤ l.length) : rdE b l k = 0 ∧ rdX b l k = z ∧ rdN b l k = k + (nB b z).length := by
  obtain ⟨g1, g2, g3⟩ := good_put hr h
  obtain ⟨h1, h2, h3⟩ := rd_ok hk g1
  exact ⟨h1, h2.trans g2, by rw [h3, g3, nB_len]⟩
theorem rd_got {b : Bool} {l : List UInt8} {k : Nat} (hk : k ≤ l.length) (hg : good b (l.drop k)) : rng b (rdX b l k) ∧ nB b (rdX b l k) <+: l.drop k ∧ rdN b l k = k + (nB b (rdX b l k)).length := by
  obtain ⟨h1, h2, h3⟩ := rd_ok hk hg
  rw [h2, h3]
  refine ⟨hv_rng hg.1, hg.2, ?_⟩
  rw [lg_nB hg.2, nB_len]

/-- a part that stands there is got -/
theorem part_put {p : Pt} {i j : Ins} {l : List UInt8} {k : Nat} (hr : j.Rng) (hf : fitsP p j = true) (h : bytesP p j <+: l.drop k) (hk : k ≤ l.length) :
    getE p l k = 0 ∧ getI p i l k = setP p j i ∧ getN p l k = k + (bytesP p j).length := by
  have h4 := hr.o0
  have h5 := hr.o1
  cases p with
  | op =>
    obtain ⟨h1, h2⟩ := one_prefix.1 h
    obtain ⟨e1, e2, e3⟩ := one_at h1
    rw [u8_int h4 h5] at h2
    exact ⟨e1, by simp [getI, setP, e2, h2], e3⟩
  | reg =>
    have hf : 0 ≤ j.r ∧ j.r < 16 := of_decide_eq_true hf
    obtain ⟨h1, h2⟩ := one_prefix.1 h
    obtain ⟨e1, e2, e3⟩ := one_at h1
    rw [u8_int (by omega) (by omega)] at h2
    exact ⟨e1, by simp [getI, setP, e2, h2], e3⟩
  | third =>
    have hf : 0 ≤ j.t ∧ j.t < 16 := of_decide_eq_true hf
    obtain ⟨h1, h2⟩ := one_prefix.1 h
    obtain ⟨e1, e2, e3⟩ := one_at h1
    rw [u8_int (by omega) (by omega)] at h2
    exact ⟨e1, by simp [getI, setP, e2, h2], e3⟩
  | how =>
    have hf : 2 ≤ j.n ∧ j.n ≤ 4 := of_decide_eq_true hf
    obtain ⟨h1, h2⟩ := one_prefix.1 h
    obtain ⟨e1, e2, e3⟩ := one_at h1
    rw [u8_int (by omega) (by omega)] at h2
    exact ⟨e1, by simp [getI, setP, e2, h2], e3⟩
  | both =>
    have hf' : isR j.r = true ∧ isR j.s = true := by simpa [fitsP] using hf
    have g1 : 0 ≤ j.r ∧ j.r < 16 := of_decide_eq_true hf'.1
    have g2 : 0 ≤ j.s ∧ j.s < 16 := of_decide_eq_true hf'.2
    obtain ⟨h1, h2⟩ := one_prefix.1 h
    obtain ⟨e1, e2, e3⟩ := one_at h1
    rw [u8_int (by omega) (by omega)] at h2
    refine ⟨e1, ?_, e3⟩
    show { i with r := oneX l k / 16, s := oneX l k % 16 } = { i with r := j.r, s := j.s }
    rw [e2, h2, show (j.r * 16 + j.s) / 16 = j.r by omega, show (j.r * 16 + j.s) % 16 = j.s by omega]
  | num =>
    obtain ⟨e1, e2, e3⟩ := rd_put (b := true) ⟨hr.n0, hr.n1⟩ h hk
    exact ⟨e1, by simp [getI, setP, e2], e3⟩
  | many =>
    have hf : 1 ≤ j.m ∧ j.m ≤ 65536 := of_decide_eq_true hf
    obtain ⟨e1, e2, e3⟩ := rd_put (b := false) (show rng false j.m from ⟨by omega, by omega⟩) h hk
    have : wrap64 j.m = j.m := by unfold wrap64; omega
    exact ⟨e1, by simp [getI, setP, e2, this], e3⟩
  | to =>
    have hf : 0 ≤ j.n ∧ j.n < 16777216 := of_decide_eq_true hf
    obtain ⟨h1, h2, h3, h6⟩ := three_prefix.1 h
    obtain ⟨e1, e2, e3⟩ := place_at h1
    have := (plB_at hf.1 hf.2 _ _ _).1 ⟨h2, h3, h6⟩
    exact ⟨e1, by simp [getI, setP, e2, this], e3⟩

theorem rng_o {i : Ins} (h : i.Rng) {z : Int} (h0 : 0 ≤ z) (h1 : z < 256) : Ins.Rng { i with o := z } := ⟨h.k0, h.k1, h0, h1, h.r0, h.r1, h.s0, h.s1, h.t0, h.t1, h.n0, h.n1, h.m0, h.m1⟩
/-- a part that is got, and fits, stood there -/
theorem part_got {p : Pt} {i : Ins} {l : List UInt8} {x : Int} (hr : i.Rng) (he : getE p l x = 0) (hf : fitsP p (getI p i l x) = true) :
    ∃ k : Nat, x = k ∧ k ≤ l.length ∧ bytesP p (getI p i l x) <+: l.drop k ∧ getN p l x = k + (bytesP p (getI p i l x)).length ∧ (getI p i l x).Rng := by
  have hu := oneX_u8 l x
  obtain ⟨k0, k1, o0, o1, r0, r1, s0, s1, t0, t1, n0, n1, m0, m1⟩ := hr
  cases p with
  | op =>
    obtain ⟨k, rfl, hk⟩ := one_in he
    obtain ⟨e1, e2, e3⟩ := one_at hk
    exact ⟨k, rfl, by omega, one_prefix.2 ⟨hk, (u8_int hu.1 hu.2).2 e2.symm⟩, e3, ⟨k0, k1, hu.1, hu.2, r0, r1, s0, s1, t0, t1, n0, n1, m0, m1⟩⟩
  | reg =>
    obtain ⟨k, rfl, hk⟩ := one_in he
    obtain ⟨e1, e2, e3⟩ := one_at hk
    exact ⟨k, rfl, by omega, one_prefix.2 ⟨hk, (u8_int hu.1 hu.2).2 e2.symm⟩, e3, ⟨k0, k1, o0, o1, by simp only [getI]; omega, by simp only [getI]; omega, s0, s1, t0, t1, n0, n1, m0, m1⟩⟩
  | third =>
    obtain ⟨k, rfl, hk⟩ := one_in he
    obtain ⟨e1, e2, e3⟩ := one_at hk
    exact ⟨k, rfl, by omega, one_prefix.2 ⟨hk, (u8_int hu.1 hu.2).2 e2.symm⟩, e3, ⟨k0, k1, o0, o1, r0, r1, s0, s1, by simp only [getI]; omega, by simp only [getI]; omega, n0, n1, m0, m1⟩⟩
  | how =>
    obtain ⟨k, rfl, hk⟩ := one_in he
    obtain ⟨e1, e2, e3⟩ := one_at hk
    exact ⟨k, rfl, by omega, one_prefix.2 ⟨hk, (u8_int hu.1 hu.2).2 e2.symm⟩, e3, ⟨k0, k1, o0, o1, r0, r1, s0, s1, t0, t1, by simp only [getI]; omega, by simp only [getI]; omega, m0, m1⟩⟩
  | both =>
    obtain ⟨k, rfl, hk⟩ := one_in he
    obtain ⟨e1, e2, e3⟩ := one_at hk
    refine ⟨k, rfl, by omega, one_prefix.2 ⟨hk, ?_⟩, e3, ⟨k0, k1, o0, o1, by simp only [getI]; omega, by simp only [getI]; omega, by simp only [getI]; omega, by simp only [getI]; omega, t0, t1, n0, n1, m0, m1⟩⟩
    show l[k] = UInt8.ofNat (oneX l k / 16 * 16 + oneX l k % 16).toNat
    rw [show oneX l k / 16 * 16 + oneX l k % 16 = oneX l k by omega]
    exact (u8_int hu.1 hu.2).2 e2.symm
  | num =>
    obtain ⟨k, rfl, hk, hg⟩ := rd_in he
    obtain ⟨g1, g2, g3⟩ := rd_got hk hg
    exact ⟨k, rfl, hk, g2, g3, ⟨k0, k1, o0, o1, r0, r1, s0, s1, t0, t1, g1.1, g1.2, m0, m1⟩⟩
  | many =>
    have hf : 1 ≤ wrap64 (rdX false l x) ∧ wrap64 (rdX false l x) ≤ 65536 := of_decide_eq_true hf
    obtain ⟨k, rfl, hk, hg⟩ := rd_in he
    obtain ⟨g1, g2, g3⟩ := rd_got hk hg
    have g4 : 0 ≤ rdX false l k ∧ rdX false l k < 18446744073709551616 := g1
    have e : wrap64 (rdX false l k) = rdX false l k := by unfold wrap64 at *; omega
    have e' : (getI .many i l k).m = rdX false l k := e
    refine ⟨k, rfl, hk, ?_, ?_, ⟨k0, k1, o0, o1, r0, r1, s0, s1, t0, t1, n0, n1, by rw [e']; omega, by rw [e']; omega⟩⟩
    · show nB false (getI .many i l k).m <+: _
      rw [e']; exact g2
    · show _ = (k : Int) + (nB false (getI .many i l k).m).length
      rw [e']; exact g3
  | to =>
    have hf : 0 ≤ plX l x ∧ plX l x < 16777216 := of_decide_eq_true hf
    obtain ⟨k, rfl, hk⟩ := place_in he
    obtain ⟨e1, e2, e3⟩ := place_at hk
    have := (plB_at hf.1 hf.2 _ _ _).2 e2.symm
    exact ⟨k, rfl, by omega, three_prefix.2 ⟨hk, this⟩, e3, ⟨k0, k1, o0, o1, r0, r1, s0, s1, t0, t1, by simp only [getI]; omega, by simp only [getI]; omega, m0, m1⟩⟩

end Go.Proofs.YtdnpoeegefkoiaaGreat

namespace Go.Proofs.YtdnpoeegefkoiaaGreat
open Go.RowKit

/-- the parts of an instruction, one behind the other -/
def partsB (L : List Pt) (j : Ins) : List UInt8 := L.flatMap fun p => bytesP p j
theorem partsB_cons (p : Pt) (L : List Pt) (j : Ins) : partsB (p :: L) j = bytesP p j ++ partsB L j := by simp [partsB]
theorem drop_add {α : Type} {a b l : List α} {k : Nat} (h : a ++ b <+: l.drop k) : b <+: l.drop (k + a.length) := by
  obtain ⟨t, ht⟩ := h
  refine ⟨t, ?_⟩
  rw [← List.drop_drop, ← ht, List.append_assoc, List.drop_left]
theorem pre_left {α : Type} {a b r : List α} (h : a ++ b <+: r) : a <+: r := (List.prefix_append a b).trans h
theorem pre_join {α : Type} {a b l : List α} {k : Nat} (h1 : a <+: l.drop k) (h2 : b <+: l.drop (k + a.length)) : a ++ b <+: l.drop k := by
  obtain ⟨t, ht⟩ := h1
  obtain ⟨u, hu⟩ := h2
  refine ⟨u, ?_⟩
  rw [← List.drop_drop, ← ht, List.drop_left] at hu
  rw [List.append_assoc, hu, ht]
theorem pre_len {α : Type} {a l : List α} {k : Nat} (h : a <+: l.drop k) (hk : k ≤ l.length) : k + a.length ≤ l.length := by
  have := h.length_le
  simp at this
  omega

/-- parts that stand there are got -/
theorem run_put {j : Ins} (hr : j.Rng) (l : List UInt8) : ∀ (L : List Pt) (i : Ins) (k : Nat), i.k = j.k → (∀ p ∈ L, fitsP p j = true) → partsB L j <+: l.drop k → k ≤ l.length →
    runP l L (i, (k : Int)) = some (setAllP L j i, ((k + (partsB L j).length : Nat) : Int))
  | [], i, k, _, _, _, _ => by simp [runP, setAllP, partsB]
  | p :: L, i, k, hi, hf, h, hk => by
    rw [partsB_cons] at h
    have h1 := pre_left h
    obtain ⟨e1, e2, e3⟩ := part_put (i := i) hr (hf p List.mem_cons_self) h1 hk
    have hlen := pre_len h1 hk
    have hs : stepP l p (i, (k : Int)) = some (setP p j i, ((k + (bytesP p j).length : Nat) : Int)) := by
      unfold stepP
      rw [if_pos ⟨e1, by simp only [e2, fits_set hi]; exact hf p List.mem_cons_self⟩]
      simp only [e2, e3]
      simp
    show (stepP l p (i, (k : Int))).bind (runP l L) = _
    rw [hs]
    show runP l L (setP p j i, ((k + (bytesP p j).length : Nat) : Int)) = _
    rw [run_put hr l L _ _ (by rw [set_k, hi]) (fun q hq => hf q (List.mem_cons_of_mem _ hq)) (drop_add h) hlen, setAllP_cons, partsB_cons, List.length_append, Nat.add_assoc]

/-- parts that are got stood there -/
theorem run_got (l : List UInt8) : ∀ (L : List Pt) (i0 i : Ins) (x n : Int), Asides L → i0.Rng → (∃ k : Nat, x = k ∧ k ≤ l.length) → runP l L (i0, x) = some (i, n) →
    ∃ k : Nat, x = k ∧ k ≤ l.length ∧ i.k = i0.k ∧ i.Rng ∧ (∀ p ∈ L, fitsP p i = true) ∧ partsB L i <+: l.drop k ∧ n = ((k + (partsB L i).length : Nat) : Int) ∧
      (∀ q, (∀ p ∈ L, aside q p = true) → bytesP q i = bytesP q i0 ∧ fitsP q i = fitsP q i0) ∧ dropAll L i = dropAll L i0
  | [], i0, i, x, n, _, hr, ⟨k, hx, hk⟩, h => by
    simp only [runP, Option.some.injEq, Prod.mk.injEq] at h
    obtain ⟨rfl, rfl⟩ := h
    exact ⟨k, hx, hk, rfl, hr, (fun p hp => absurd hp (by simp)), (by simp [partsB]), (by simp [partsB, hx]), (fun q _ => ⟨rfl, rfl⟩), rfl⟩
  | p :: L, i0, i, x, n, ha, hr, _, h => by
    have ha' := List.pairwise_cons.1 ha
    have h' : (stepP l p (i0, x)).bind (runP l L) = some (i, n) := h
    by_cases hs : getE p l x = 0 ∧ fitsP p (getI p i0 l x) = true
    · rw [stepP, if_pos hs] at h'
      obtain ⟨k, rfl, hk, b1, b2, b3⟩ := part_got hr hs.1 hs.2
      have hlen := pre_len b1 hk
      have h'' : runP l L (getI p i0 l k, getN p l k) = some (i, n) := h'
      obtain ⟨k2, e1, e2, e3, e4, e5, e6, e7, e8, e9⟩ := run_got l L _ i _ n ha'.2 b3 ⟨k + (bytesP p (getI p i0 l k)).length, by rw [b2]; simp, hlen⟩ h''
      obtain ⟨g1, g2⟩ := e8 p ha'.1
      have hk2 : k2 = k + (bytesP p i).length := by
        rw [g1]; omega
      subst hk2
      refine ⟨k, rfl, hk, by rw [e3, get_k], e4, ?_, ?_, ?_, ?_, ?_⟩
      · intro q hq
        rcases List.mem_cons.1 hq with rfl | hq
        · rw [g2]; exact hs.2
        · exact e5 q hq
      · rw [partsB_cons]
        refine pre_join ?_ e6
        rw [g1]; exact b1
      · rw [e7, partsB_cons, List.length_append, Nat.add_assoc]
      · intro q hq
        obtain ⟨f1, f2⟩ := e8 q (fun p' hp' => hq p' (List.mem_cons_of_mem _ hp'))
        have f3 := hq p List.mem_cons_self
        exact ⟨by rw [f1, bytes_far f3], by rw [f2, fits_far f3]⟩
      · rw [dropAll_cons, dropAll_comm, e9, ← dropAll_comm, drop_get, ← dropAll_cons]
    · rw [stepP, if_neg hs] at h'
      cases h'

theorem isK_range {k : Int} (h : isK k = true) : 1 ≤ k ∧ k ≤ 18 := of_decide_eq_true h
theorem ownB_right {i : Ins} (h : rightB i = true) : ownB i = UInt8.ofNat i.k.toNat :: partsB (ptsOf i.k) i := by
  unfold ownB partsB
  rw [if_pos h]
/-- what was put is got -/
theorem get_put {i : Ins} {l : List UInt8} {k : Nat} (hr : i.Rng) (h : rightB i = true) (hp : ownB i <+: l.drop k) (_hk : k ≤ l.length) :
    gE l k = 0 ∧ gI l k = i ∧ gN l k = ((k + (ownB i).length : Nat) : Int) := by
  obtain ⟨h1, h2, h3⟩ := right_parts h
  rw [ownB_right h] at hp ⊢
  have hp' : [UInt8.ofNat i.k.toNat] ++ partsB (ptsOf i.k) i <+: l.drop k := hp
  obtain ⟨hlt, he⟩ := one_prefix.1 (pre_left hp')
  obtain ⟨e1, e2, e3⟩ := one_at hlt
  have hx : oneX l k = i.k := by
    rw [e2]
    exact (u8_int hr.k0 hr.k1).1 he
  have hd := drop_add hp'
  have hrun := run_put hr l (ptsOf i.k) (insOf i.k) (k + 1) rfl h2 hd (by omega)
  have hg : gR l k = some (i, ((k + 1 + (partsB (ptsOf i.k) i).length : Nat) : Int)) := by
    unfold gR
    rw [hx, if_pos ⟨e1, h1⟩, e3, show (k : Int) + 1 = ((k + 1 : Nat) : Int) by simp, hrun]
    rw [show insOf i.k = dropAll (ptsOf i.k) i from h3.symm, set_all i _ (ptsOf_asides _)]
  refine ⟨by simp [gE, e1, hg], by simp [gI, hg], ?_⟩
  simp only [gN, hg, Option.getD_some, List.length_cons]
  omega
theorem gE_none {l : List UInt8} {x : Int} (h0 : stV l.length x 1 = 0) (hg : gR l x = none) : gE l x = 5 := by
  unfold gE; rw [if_pos h0, hg]; rfl
theorem gI_some {l : List UInt8} {x n : Int} {i : Ins} (hg : gR l x = some (i, n)) : gI l x = i ∧ gN l x = n := by
  unfold gI gN; rw [hg]; exact ⟨rfl, rfl⟩
theorem insOf_rng {k : Int} (h0 : 0 ≤ k) (h1 : k < 256) : (insOf k).Rng := by
  constructor <;> simp only [insOf] <;> omega
theorem dropAll_insOf (k : Int) : dropAll (ptsOf k) (insOf k) = insOf k := by
  unfold ptsOf
  repeat' split
  all_goals rfl
/-- what is got stood there -/
theorem get_got {l : List UInt8} {x : Int} (h : gE l x = 0) : ∃ k : Nat, x = k ∧ k < l.length ∧ (gI l x).Rng ∧ rightB (gI l x) = true ∧ ownB (gI l x) <+: l.drop k ∧ gN l x = ((k + (ownB (gI l x)).length : Nat) : Int) := by
  by_cases h0 : stV l.length x 1 = 0
  · obtain ⟨k, rfl, hk⟩ := one_in h0
    obtain ⟨e1, e2, e3⟩ := one_at hk
    have hu := oneX_u8 l k
    cases hg : gR l k with
    | none => rw [gE_none h0 hg] at h; omega
    | some s =>
      obtain ⟨i, n⟩ := s
      have hg' := hg
      unfold gR at hg'
      by_cases hK : isK (oneX l k) = true
      · rw [if_pos ⟨h0, hK⟩, e3, show (k : Int) + 1 = ((k + 1 : Nat) : Int) by simp] at hg'
        have h0r := insOf_rng hu.1 hu.2
        obtain ⟨k2, c1, c2, c3, c4, c5, c6, c7, _, c9⟩ := run_got l _ _ i _ n (ptsOf_asides _) h0r ⟨k + 1, rfl, by omega⟩ hg'
        have hk2 : k2 = k + 1 := by omega
        subst hk2
        have hik : i.k = oneX l k := c3
        rw [(gI_some hg).1, (gI_some hg).2]
        have hright : rightB i = true := by
          unfold rightB
          rw [hik, hK, c9, dropAll_insOf]
          simp only [Bool.true_and, Bool.and_eq_true, List.all_eq_true, decide_eq_true_eq]
          exact ⟨c5, rfl⟩
        refine ⟨k, rfl, hk, c4, hright, ?_, ?_⟩
        · rw [ownB_right hright, hik]
          refine pre_join (a := [UInt8.ofNat (oneX l k).toNat]) (one_prefix.2 ⟨hk, (u8_int hu.1 hu.2).2 e2.symm⟩) ?_
          exact c6
        · rw [c7, ownB_right hright, hik, List.length_cons]
          congr 1
          omega
      · rw [if_neg (fun h => hK h.2)] at hg'
        cases hg'
  · simp only [gE, if_neg h0] at h
    exact absurd h h0
theorem get_not {l : List UInt8} {x : Int} (h : ¬ gE l x = 0) : gI l x = insOf 0 ∧ gN l x = 0 := by
  have hg : gR l x = none := by
    by_cases h0 : stV l.length x 1 = 0
    · cases hg : gR l x with
      | none => rfl
      | some s => exact absurd (by simp [gE, h0, hg]) h
    · simp [gR, h0]
  simp [gI, gN, hg]

theorem pw_3 : pw 3 = 2097152 := by decide
theorem pw_2 : pw 2 = 16384 := by decide
theorem size_s {n : Int} (h0 : -65536 ≤ n) (h1 : n ≤ 65536) : size true n ≤ 3 := size_le_of (fit_s.2 (.inr (by rw [show 3 - 1 = 2 from rfl, pw_2]; omega))) (by omega)
theorem size_u {n : Int} (h1 : n ≤ 65536) : size false n ≤ 3 := size_le_of (fit_u.2 (.inr (by rw [pw_3]; omega))) (by omega)
theorem parts_len {i : Ins} {k : Int} (hk : 1 ≤ k ∧ k ≤ 18) (hs : size true i.n ≤ 10) (hn : ¬ k = 2 → fitsP .num i = true → size true i.n ≤ 3) (hm : fitsP .many i = true → size false i.m ≤ 3)
    (h2 : ∀ p ∈ ptsOf k, fitsP p i = true) : (partsB (ptsOf k) i).length ≤ 11 := by
  have : k = 1 ∨ k = 2 ∨ k = 3 ∨ k = 4 ∨ k = 5 ∨ k = 6 ∨ k = 7 ∨ k = 8 ∨ k = 9 ∨ k = 10 ∨ k = 11 ∨ k = 12 ∨ k = 13 ∨ k = 14 ∨ k = 15 ∨ k = 16 ∨ k = 17 ∨ k = 18 := by omega
  rcases this with rfl | rfl | rfl | rfl | rfl | rfl | rfl | rfl | rfl | rfl | rfl | rfl | rfl | rfl | rfl | rfl | rfl | rfl
  all_goals
    first | (have q1 := hn (by omega) (h2 .num (by decide))) | skip
    first | (have q2 := hm (h2 .many (by decide))) | skip
    clear hn hm h2 hk
    simp [partsB, ptsOf, bytesP, nB_len, plB] <;> omega
/-- an instruction has so many bytes -/
theorem own_len {i : Ins} (h : rightB i = true) : 1 ≤ (ownB i).length ∧ (ownB i).length ≤ 12 := by
  obtain ⟨h1, h2, _⟩ := right_parts h
  rw [ownB_right h, List.length_cons]
  have := parts_len (isK_range h1) (size_le true i.n) (fun hne hf => by
    have : i.k = 2 ∨ (-65536 ≤ i.n ∧ i.n ≤ 65536) := of_decide_eq_true hf
    exact size_s (by omega) (by omega)) (fun hf => by
    have : 1 ≤ i.m ∧ i.m ≤ 65536 := of_decide_eq_true hf
    exact size_u this.2) h2
  omega

/-- two instructions whose bytes stand at one place are one -/
theorem own_one {i j : Ins} (hi : i.Rng) (hj : j.Rng) (h1 : rightB i = true) (h2 : rightB j = true) {r : List UInt8} (p1 : ownB i <+: r) (p2 : ownB j <+: r) : i = j := by
  obtain ⟨_, a, _⟩ := get_put (l := r) (k := 0) hi h1 (by simpa using p1) (by omega)
  obtain ⟨_, b, _⟩ := get_put (l := r) (k := 0) hj h2 (by simpa using p2) (by omega)
  rw [← a, ← b]

end Go.Proofs.YtdnpoeegefkoiaaGreat
