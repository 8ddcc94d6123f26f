/-
  Contract of isa.Get.
-/
import Derived.Test.YtdapflfbkjoicaaI3I
import Derived.Test.YtdapflfbkjoicaaKS
namespace Go.Proofs.Ytdapflfbkjoicaa
open Go.RowKit

/-- a number lies in a block -/
def IntAt (w : World) (g t : Nat) (n : Int) : Prop := w.heap[g]? = some (.cells #[.int .i64 n] t (0, 0))
section
variable {w w' : World} {g t : Nat} {n : Int}
theorem IntAt.lt (h : IntAt w g t n) : g < w.heap.size := by
  rcases Nat.lt_or_ge g w.heap.size with h' | h'
  · exact h'
  · unfold IntAt at h; rw [Array.getElem?_eq_none h'] at h; cases h
theorem IntAt.below {B : Nat} (h : IntAt w g t n) (hb : Below B w w') (hg : g < B) : IntAt w' g t n := (hb.block g hg).trans h
theorem IntAt.kept {row : Option Nat} (h : IntAt w g t n) (hg : w.grownBy w' row) (hne : some g ≠ row) : IntAt w' g t n := (hg.block g h.lt hne).trans h
theorem IntAt.cell (h : IntAt w g t n) : w.cell? ⟨g, 0, none⟩ = some (.int .i64 n) ∧ w.frozen? ⟨g, 0, none⟩ = false := by
  unfold IntAt at h
  simp [World.cell?, World.frozen?, h]
theorem IntAt.store (h : IntAt w g t n) (m : Int) : IntAt (w.setCell ⟨g, 0, none⟩ (.int .i64 m)) g t m := by
  unfold IntAt at *
  simp [World.setCell, Array.getElem?_modify, h]
end

/-- what Get holds while it reads: the bytes, the instruction, the place, the error -/
structure Holds (w : World) (b : Nat) (A : Option Addr) (c : Nat) (l : List UInt8) (i : Ins) (x er : Int) : Prop where
  sl : SlAt w b (.slice A l.length c)
  ins : InsAt w (b + 1) i
  at_ : IntAt w (b + 2) 3 x
  err : IntAt w (b + 3) 34 er
theorem Holds.below {w w' : World} {b B : Nat} {A : Option Addr} {c : Nat} {l : List UInt8} {i : Ins} {x er : Int} (h : Holds w b A c l i x er) (hb : Below B w w') (hB : b + 3 < B) : Holds w' b A c l i x er :=
  ⟨h.sl.below hb (by omega), h.ins.below hb (by omega), h.at_.below hb (by omega), h.err.below hb (by omega)⟩
def setAll (w : World) (b : Nat) (i : Ins) (x er : Int) : World := ((put7 w (b + 1) i).setCell ⟨b + 2, 0, none⟩ (.int .i64 x)).setCell ⟨b + 3, 0, none⟩ (.int .i64 er)
theorem setAll_below {w0 w : World} {B b : Nat} (h : Below B w0 w) (hB : B ≤ b) (i : Ins) (x er : Int) : Below B w0 (setAll w b i x er) :=
  ((below_ins h (by omega) _ _ _ _ _ _ _).setCell (p := ⟨b + 2, 0, none⟩) (by simp; omega) _).setCell (p := ⟨b + 3, 0, none⟩) (by simp; omega) _
theorem setAll_size (w : World) (b : Nat) (i : Ins) (x er : Int) : (setAll w b i x er).heap.size = w.heap.size := by simp [setAll, put7, World.setCell]
theorem Holds.set {w : World} {b : Nat} {A : Option Addr} {c : Nat} {l : List UInt8} {i : Ins} {x er : Int} (h : Holds w b A c l i x er) (i' : Ins) (x' er' : Int) : Holds (setAll w b i' x' er') b A c l i' x' er' := by
  have g1 := put7_grown w (b + 1) i'
  have g2 := grown_set (put7 w (b + 1) i') (b + 2) 0 (.int .i64 x')
  have g3 := grown_set ((put7 w (b + 1) i').setCell ⟨b + 2, 0, none⟩ (.int .i64 x')) (b + 3) 0 (.int .i64 er')
  exact ⟨((h.sl.kept g1 (by simp)).kept g2 (by simp)).kept g3 (by simp), ((put7_at h.ins i').kept g2 (by simp)).kept g3 (by simp),
    ((h.at_.kept g1 (by simp)).store x').kept g3 (by simp), ((h.err.kept g1 (by simp)).kept g2 (by simp)).store er'⟩

def Get1R (p : Pt) (b : Nat) (A : Option Addr) (c : Nat) (l : List UInt8) (i : Ins) (x : Int) (w : World) (e : Ending) (w' : World) : Prop :=
  e = .returned (.bool (decide (getE p l x = 0) && fitsP p (getI p i l x))) ∧ Holds w' b A c l (getI p i l x) (getN p l x) (getE p l x) ∧ Below b w w'

set_option maxRecDepth 100000 in
set_option maxHeartbeats 400000 in
theorem get1_any (p : Pt) (b : Nat) (A : Option Addr) (c : Nat) (l : List UInt8) (i : Ins) (x er : Int) (w : World) (hh : Holds w b A c l i x er) (hcap : l.length ≤ c) (hn : l.length ≤ 1099511627776) (h : Lies w b A l) :
    Calls Try.prog 35 #[pv p, .pointer (some ⟨b + 1, 0, none⟩), .pointer (some ⟨b, 0, none⟩), .pointer (some ⟨b + 2, 0, none⟩), .pointer (some ⟨b + 3, 0, none⟩)] w (Get1R p b A c l i x w) := by
  have hg := enter_g p
  have hf := enter_f p
  have hlt := hh.err.lt
  have hb0 := below_box w (.cells (pc p) 48)
  have hh0 := hh.below hb0 (by omega)
  have HP := Lib.hid (heap_alloc_new w (.cells (pc p) 48))
  have HG := Lib.hid (get_any p i A c l x (w.alloc (.cells (pc p) 48)) hcap hn ((h.below (hb0.mono (by omega))).more (by simp; omega)))
  have HF := Lib.hid (fun w => fits_any p (getI p i l x) w)
  obtain ⟨⟨c0, c1, c2, c3, c4, c5, c6⟩, _⟩ := ins_cells hh0.ins
  have c7 := hh0.sl.cell.1
  have c8 := hh0.at_.cell.1
  have HB := Lib.hid hb0
  have HH := Lib.hid hh0
  clear hh hb0 hh0 h
  unfold pc at HP HG HB HH c0 c1 c2 c3 c4 c5 c6 c7 c8
  unfold iv ic at HG HF
  unfold pv pc
  go_enter Try.func35, Try.ntmps35
  go_wp2_with fail
  refine HG.out.mono ?_
  rintro e w1 ⟨rfl, hb1⟩
  have HB1 := Lib.hid hb1
  have hp1 := (hb1.block w.heap.size (by simp)).trans HP.out
  have hh1 := HH.out.below hb1 (by simp; omega)
  obtain ⟨p0, _, _, _⟩ := part_cells hp1
  obtain ⟨⟨d0, d1, d2, d3, d4, d5, d6⟩, df⟩ := ins_cells hh1.ins
  obtain ⟨d8, df8⟩ := hh1.at_.cell
  obtain ⟨d9, df9⟩ := hh1.err.cell
  have HH1 := Lib.hid hh1
  clear c0 c1 c2 c3 c4 c5 c6 c7 c8 HP HH HG hb1 hp1 hh1 hg
  have n1 : ¬ (w.heap.size = b + 1) := by omega
  have n2 : ¬ (w.heap.size = b + 2) := by omega
  have n3 : ¬ (w.heap.size = b + 3) := by omega
  have m1 : ¬ (b + 1 = w.heap.size) := by omega
  have m2 : ¬ (b + 2 = w.heap.size) := by omega
  have m3 : ¬ (b + 3 = w.heap.size) := by omega
  obtain ⟨i', hi'⟩ : ∃ i', i' = getI p i l x := ⟨_, rfl⟩
  obtain ⟨x', hx'⟩ : ∃ x', x' = getN p l x := ⟨_, rfl⟩
  obtain ⟨er', he'⟩ : ∃ er', er' = getE p l x := ⟨_, rfl⟩
  rw [← hi', ← hx', ← he']
  rw [← hi'] at HF
  have HQ := Lib.hid (And.intro hi' (And.intro hx' he'))
  clear hi' hx' he'
  have HW : Hid (Below b w (setAll w1 b i' x' er')) := setAll_below ((HB.out.mono (by omega)).trans (HB1.out.mono (by simp; omega))) (Nat.le_refl _) _ _ _
  have HS := Lib.hid (HH1.out.set i' x' er')
  unfold iv ic
  by_cases h0 : er' = 0
  · have b0 := beq_of h0
    have HE := Lib.hid (show (decide (er' = 0) && fitsP p i') = fitsP p i' by simp [h0])
    clear h0
    go_wp2_with fail
    refine (HF.out _).mono ?_
    rintro e w2 ⟨rfl, hb2⟩
    have HB2 : Hid (Below (setAll w1 b i' x' er').heap.size (setAll w1 b i' x' er') w2) := hb2
    clear hb2
    go_wp2_with fail
    go_ret
    have hsz := setAll_size w1 b i' x' er'
    have hlt2 := HS.out.err.lt
    unfold Get1R
    rw [← HQ.out.1, ← HQ.out.2.1, ← HQ.out.2.2, HE.out]
    exact ⟨rfl, HS.out.below HB2.out hlt2, HW.out.trans (HB2.out.mono (by omega))⟩
  · have b0 := nbeq_of h0
    have HE := Lib.hid (show (decide (er' = 0) && fitsP p i') = false by simp [h0])
    clear h0
    go_wp2_with fail
    go_ret
    unfold Get1R
    rw [← HQ.out.1, ← HQ.out.2.1, ← HQ.out.2.2, HE.out]
    exact ⟨rfl, HS.out, HW.out⟩

/-- one part is read -/
def stepP (l : List UInt8) (p : Pt) (s : Ins × Int) : Option (Ins × Int) :=
  if getE p l s.2 = 0 ∧ fitsP p (getI p s.1 l s.2) = true then some (getI p s.1 l s.2, getN p l s.2) else none
def runP (l : List UInt8) : List Pt → Ins × Int → Option (Ins × Int)
  | [], s => some s
  | p :: L, s => (stepP l p s).bind (runP l L)
theorem runP_append (l : List UInt8) : ∀ (L M : List Pt) (s : Ins × Int), runP l (L ++ M) s = (runP l L s).bind (runP l M)
  | [], M, s => rfl
  | p :: L, M, s => by
    simp only [List.cons_append, runP]
    cases stepP l p s with
    | none => rfl
    | some z => exact runP_append l L M z
theorem runP_take {l : List UInt8} {L : List Pt} {j : Nat} {p : Pt} {s0 s : Ins × Int} (h : L[j]? = some p) (hs : runP l (L.take j) s0 = some s) : runP l (L.take (j + 1)) s0 = stepP l p s := by
  rw [take_snoc h, runP_append, hs]
  show (stepP l p s).bind (runP l []) = _
  cases stepP l p s <;> rfl
theorem runP_none {l : List UInt8} {L : List Pt} {k : Nat} {s0 : Ins × Int} (h : runP l (L.take k) s0 = none) : runP l L s0 = none := by
  rw [← List.take_append_drop k L, runP_append, h]
  rfl

def GetJ (b : Nat) (A : Option Addr) (c : Nat) (l : List UInt8) (L : List Pt) (s0 : Ins × Int) (w : World) (j : Nat) (w' : World) : Prop :=
  ∃ s er, runP l (L.take j) s0 = some s ∧ Holds w' b A c l s.1 s.2 er ∧ Below b w w' ∧ b ≤ w.heap.size
def GetF (b : Nat) (A : Option Addr) (c : Nat) (l : List UInt8) (L : List Pt) (s0 : Ins × Int) (w w' : World) : Prop :=
  (∃ i x er, Holds w' b A c l i x er) ∧ Below b w w' ∧ runP l L s0 = none
theorem enter_get (args : Array Value) (w : World) : (callFunc 35 args).run Try.prog w = .ok (.enter 35 args) w := run_enter Try.func35 (by kernel_rfl) (by kernel_rfl) args w
theorem get_each (k : Int) (b : Nat) (A : Option Addr) (c : Nat) (l : List UInt8) (s0 : Ins × Int) (w w0 : World) (hcap : l.length ≤ c) (hn : l.length ≤ 1099511627776) (h : Lies w b A l) (h0 : GetJ b A c l (ptsOf k) s0 w 0 w0) :
    Calls Try.prog 24 #[.int .u8 k, .func (.func 35) #[] #[.pointer (some ⟨b + 1, 0, none⟩), .pointer (some ⟨b, 0, none⟩), .pointer (some ⟨b + 2, 0, none⟩), .pointer (some ⟨b + 3, 0, none⟩)]] w0
      fun e w' => (e = .returned (.bool (isK k)) ∧ GetJ b A c l (ptsOf k) s0 w (ptsOf k).length w') ∨ (e = .returned (.bool false) ∧ GetF b A c l (ptsOf k) s0 w w') := by
  refine each_any k 35 _ w0 (GetJ b A c l (ptsOf k) s0 w) (GetF b A c l (ptsOf k) s0 w) enter_get ?_ h0 ?_
  · rintro j w1 w2 ⟨s, er, h1, h2, h3, h4⟩ hb
    exact ⟨s, er, h1, h2.below hb h2.err.lt, h3.trans (hb.mono (Nat.le_trans h4 h3.size)), h4⟩
  · rintro j p hp w1 ⟨s, er, h1, h2, h3, h4⟩
    refine (get1_any p b A c l s.1 s.2 er w1 h2 hcap hn (h.below h3)).mono ?_
    rintro e w2 ⟨rfl, a1, a2⟩
    by_cases hs : getE p l s.2 = 0 ∧ fitsP p (getI p s.1 l s.2) = true
    · refine .inl ⟨by simp [hs.1, hs.2], (getI p s.1 l s.2, getN p l s.2), _, ?_, a1, h3.trans a2, h4⟩
      rw [runP_take hp h1, stepP, if_pos hs]
    · refine .inr ⟨?_, ⟨_, _, _, a1⟩, h3.trans a2, runP_none (k := j + 1) ?_⟩
      · congr 2
        rw [Bool.eq_false_iff]
        intro h
        simp only [Bool.and_eq_true, decide_eq_true_eq] at h
        exact hs h
      · rw [runP_take hp h1, stepP, if_neg hs]

/-- what is got at a place -/
def insOf (k : Int) : Ins := ⟨k, 0, 0, 0, 0, 0, 0⟩
def gR (l : List UInt8) (x : Int) : Option (Ins × Int) :=
  if stV l.length x 1 = 0 ∧ isK (oneX l x) = true then runP l (ptsOf (oneX l x)) (insOf (oneX l x), oneN l x) else none
def gE (l : List UInt8) (x : Int) : Int := if stV l.length x 1 = 0 then (if (gR l x).isSome then 0 else 5) else stV l.length x 1
def gI (l : List UInt8) (x : Int) : Ins := ((gR l x).getD (insOf 0, 0)).1
def gN (l : List UInt8) (x : Int) : Int := ((gR l x).getD (insOf 0, 0)).2
def GetR (l : List UInt8) (x : Int) (w : World) (e : Ending) (w' : World) : Prop :=
  e = .returned (.tuple #[iv (gI l x), .int .i64 (gN l x), .int .i64 (gE l x)]) ∧ Below w.heap.size w w'

theorem get_back {fn : Func} {p u v : Tmp} (h : fn.results = #[.cell p 24, .cell u 3, .cell v 34]) {tmps : Array Value} {w : World} {g : Nat}
    (hp : tmps.getD p undef = .pointer (some ⟨g, 0, none⟩)) (hp1 : tmps.getD u undef = .pointer (some ⟨g + 1, 0, none⟩)) (hp2 : tmps.getD v undef = .pointer (some ⟨g + 2, 0, none⟩))
    {i : Ins} {x er : Int} (h1 : InsAt w g i) (h2 : IntAt w (g + 1) 3 x) (h3 : IntAt w (g + 2) 34 er) :
    (results fn tmps).run Try.prog w = .ok (.tuple #[iv i, .int .i64 x, .int .i64 er]) w :=
  res_row_cell2 h tmps w g _ _ _ _ _ _ _ _ hp hp1 hp2 h1 Try.underlying24 rfl ins_size Try.underlying3 Try.underlying34 h2.cell.1 h3.cell.1

end Go.Proofs.Ytdapflfbkjoicaa
