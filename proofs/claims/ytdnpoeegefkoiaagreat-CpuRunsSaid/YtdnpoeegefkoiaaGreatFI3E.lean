/-
  Merged for a claim: I3E.
-/
import Derived.Test.YtdnpoeegefkoiaaGreatFI3D
namespace Go.Proofs.YtdnpoeegefkoiaaGreat
open Go.RowKit

/-- a part as a value -/
def pc (p : Pt) : Array Value := #[.func (.func (fF p)) #[] #[], .func (.func (dF p)) #[] #[], .func (.func (pF p)) #[] #[], .func (.func (gF p)) #[] #[]]
def pv (p : Pt) : Value := .agg (pc p)
def MkR (p : Pt) (w : World) (e : Ending) (w' : World) : Prop := e = .returned (pv p) ∧ w' = w.alloc (.cells (pc p) 96)

theorem part_size : (Tryz.prog.info? 96).map (·.size) = some 4 := by kernel_rfl
theorem part_back {fn : Func} {p : Tmp} (h : fn.results = #[.cell p 96]) {tmps : Array Value} {w : World} {g : Nat} (hp : tmps.getD p undef = .pointer (some ⟨g, 0, none⟩))
    {a b c d : Value} (hg : w.heap[g]? = some (.cells #[a, b, c, d] 96 (0, 0))) : (results fn tmps).run Tryz.prog w = .ok (.agg #[a, b, c, d]) w :=
  results_cell_row h tmps w g _ _ _ _ hp hg Tryz.underlying96 rfl part_size

theorem mk_op (w : World) : Calls Tryz.prog 74 #[] w (MkR .op w) := by
  go_enter Tryz.func74, Tryz.ntmps74
  go_wp2
  refine bodyPost_ret (part_back rfl rfl (heap_alloc_new _ _)) rfl ?_
  exact ⟨rfl, rfl⟩
theorem mk_reg (w : World) : Calls Tryz.prog 71 #[] w (MkR .reg w) := by
  go_enter Tryz.func71, Tryz.ntmps71
  go_wp2
  refine bodyPost_ret (part_back rfl rfl (heap_alloc_new _ _)) rfl ?_
  exact ⟨rfl, rfl⟩
theorem mk_both (w : World) : Calls Tryz.prog 73 #[] w (MkR .both w) := by
  go_enter Tryz.func73, Tryz.ntmps73
  go_wp2
  refine bodyPost_ret (part_back rfl rfl (heap_alloc_new _ _)) rfl ?_
  exact ⟨rfl, rfl⟩
theorem mk_third (w : World) : Calls Tryz.prog 75 #[] w (MkR .third w) := by
  go_enter Tryz.func75, Tryz.ntmps75
  go_wp2
  refine bodyPost_ret (part_back rfl rfl (heap_alloc_new _ _)) rfl ?_
  exact ⟨rfl, rfl⟩
theorem mk_num (w : World) : Calls Tryz.prog 72 #[] w (MkR .num w) := by
  go_enter Tryz.func72, Tryz.ntmps72
  go_wp2
  refine bodyPost_ret (part_back rfl rfl (heap_alloc_new _ _)) rfl ?_
  exact ⟨rfl, rfl⟩
theorem mk_many (w : World) : Calls Tryz.prog 76 #[] w (MkR .many w) := by
  go_enter Tryz.func76, Tryz.ntmps76
  go_wp2
  refine bodyPost_ret (part_back rfl rfl (heap_alloc_new _ _)) rfl ?_
  exact ⟨rfl, rfl⟩
theorem mk_to (w : World) : Calls Tryz.prog 77 #[] w (MkR .to w) := by
  go_enter Tryz.func77, Tryz.ntmps77
  go_wp2
  refine bodyPost_ret (part_back rfl rfl (heap_alloc_new _ _)) rfl ?_
  exact ⟨rfl, rfl⟩
theorem mk_how (w : World) : Calls Tryz.prog 78 #[] w (MkR .how w) := by
  go_enter Tryz.func78, Tryz.ntmps78
  go_wp2
  refine bodyPost_ret (part_back rfl rfl (heap_alloc_new _ _)) rfl ?_
  exact ⟨rfl, rfl⟩

/-- the room for one part in a list of them -/
def slotC : Option Pt → List Value
  | some p => (pc p).toList
  | none => [.nilFunc, .nilFunc, .nilFunc, .nilFunc]
/-- a list of parts, of four at most -/
def arr (L : List Pt) : Array Value := (slotC L[0]? ++ slotC L[1]? ++ slotC L[2]? ++ slotC L[3]?).toArray
def PartsR (k : Int) (w : World) (e : Ending) (w' : World) : Prop := e = .returned (.tuple #[.agg (arr (ptsOf k)), .bool (isK k)]) ∧ Below w.heap.size w w'

theorem arr_size' : (Tryz.prog.info? 109).map (·.size) = some 16 := by kernel_rfl
theorem arr_size (L : List Pt) : (arr L).size = 16 := by
  have h : ∀ o : Option Pt, (slotC o).length = 4 := fun o => by cases o <;> rfl
  simp [arr, h]
theorem parts_back {fn : Func} {p u : Tmp} (h : fn.results = #[.cell p 109, .tmp u]) {tmps : Array Value} {w : World} {g : Nat} (hp : tmps.getD p undef = .pointer (some ⟨g, 0, none⟩))
    {cs : Array Value} (hs : cs.size = 16) (hg : w.heap[g]? = some (.cells cs 109 (0, 0))) : (results fn tmps).run Tryz.prog w = .ok (.tuple #[.agg cs, tmps.getD u undef]) w :=
  res_row_tmp h tmps w g _ _ _ _ hp hg Tryz.underlying109 rfl (by rw [hs]; exact arr_size')

theorem hk0 (w : World) (A : Obj) : (w.alloc A).heap[w.heap.size]? = some A := heap_alloc_new _ _
theorem hk1 (w : World) (A B : Obj) : ((w.alloc A).alloc B).heap[w.heap.size]? = some A := heap_alloc2_old _ _ _
theorem hk2 (w : World) (A B C : Obj) : (((w.alloc A).alloc B).alloc C).heap[w.heap.size]? = some A := by
  rw [Below.heap_alloc _ _ _ (by simp; omega)]; exact hk1 _ _ _
theorem hk3 (w : World) (A B C D : Obj) : ((((w.alloc A).alloc B).alloc C).alloc D).heap[w.heap.size]? = some A := by
  rw [Below.heap_alloc _ _ _ (by simp; omega)]; exact hk2 _ _ _ _
theorem hk4 (w : World) (A B C D E : Obj) : (((((w.alloc A).alloc B).alloc C).alloc D).alloc E).heap[w.heap.size]? = some A := by
  rw [Below.heap_alloc _ _ _ (by simp; omega)]; exact hk3 _ _ _ _ _
theorem bk0 (w : World) (A : Obj) : Below w.heap.size w (w.alloc A) := below_box _ _
theorem bk1 (w : World) (A B : Obj) : Below w.heap.size w ((w.alloc A).alloc B) := below_box2 _ _ _
theorem bk2 (w : World) (A B C : Obj) : Below w.heap.size w (((w.alloc A).alloc B).alloc C) := (bk1 w A B).alloc (by simp; omega) _
theorem bk3 (w : World) (A B C D : Obj) : Below w.heap.size w ((((w.alloc A).alloc B).alloc C).alloc D) := (bk2 w A B C).alloc (by simp; omega) _
theorem bk4 (w : World) (A B C D E : Obj) : Below w.heap.size w (((((w.alloc A).alloc B).alloc C).alloc D).alloc E) := (bk3 w A B C D).alloc (by simp; omega) _

end Go.Proofs.YtdnpoeegefkoiaaGreat
