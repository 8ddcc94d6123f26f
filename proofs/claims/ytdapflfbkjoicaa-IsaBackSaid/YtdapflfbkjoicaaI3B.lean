/-
  Contracts of isa.isReg, and of what each part asks (fits) and strikes (drop).
-/
import Derived.Test.YtdapflfbkjoicaaO1A
import Derived.Test.YtdapflfbkjoicaaKO
import Derived.Test.YtdapflfbkjoicaaKR
import Derived.Test.YtdapflfbkjoicaaI3A
import Derived.Laws.EntriesVeiled
namespace Go.Proofs.Ytdapflfbkjoicaa
open Go.RowKit

/-- an instruction as a value -/
def ic (i : Ins) : Array Value := #[.int .u8 i.k, .int .u8 i.o, .int .i64 i.r, .int .i64 i.s, .int .i64 i.t, .int .i64 i.n, .int .i64 i.m]
def iv (i : Ins) : Value := .agg (ic i)

def fF : Pt → Nat
  | .op => 76 | .reg => 59 | .both => 70 | .third => 80 | .num => 64 | .many => 84 | .to => 90 | .how => 95
def dF : Pt → Nat
  | .op => 77 | .reg => 61 | .both => 71 | .third => 81 | .num => 65 | .many => 85 | .to => 65 | .how => 65
def pF : Pt → Nat
  | .op => 78 | .reg => 62 | .both => 72 | .third => 82 | .num => 66 | .many => 86 | .to => 91 | .how => 96
def gF : Pt → Nat
  | .op => 79 | .reg => 63 | .both => 74 | .third => 83 | .num => 68 | .many => 88 | .to => 93 | .how => 97

def FitsR (p : Pt) (i : Ins) (w : World) (e : Ending) (w' : World) : Prop := e = .returned (.bool (fitsP p i)) ∧ Below w.heap.size w w'
def DropR (p : Pt) (i : Ins) (w : World) (e : Ending) (w' : World) : Prop := e = .returned (iv (dropP p i)) ∧ Below w.heap.size w w'

theorem isReg_any (n : Int) (w : World) : Calls Try.prog 60 #[.int .i64 n] w fun e w' => e = .returned (.bool (isR n)) ∧ w = w' := by
  by_cases h1 : 0 ≤ n <;> by_cases h2 : n < 16
  all_goals
    go_enter Try.func60, Try.ntmps60
    go_wp2
    go_ret
    refine ⟨?_, rfl⟩
    simp [isR, *]
theorem below_box (w : World) (o : Obj) : Below w.heap.size w (w.alloc o) := (Below.refl _ _).alloc (Nat.le_refl _) _
theorem below_box2 (w : World) (o o2 : Obj) : Below w.heap.size w ((w.alloc o).alloc o2) := (below_box w o).alloc (by simp) _

theorem fits_reg (i : Ins) (w : World) : Calls Try.prog 59 #[iv i] w (FitsR .reg i w) := by
  unfold iv ic
  have HR := Lib.hid (fun w => isReg_any i.r w)
  go_enter Try.func59, Try.ntmps59
  go_wp2_with (go_at_call 60; refine (HR.out _).mono ?_; rintro e w' ⟨rfl, rfl⟩)
  go_ret
  exact ⟨rfl, below_box _ _⟩
theorem fits_third (i : Ins) (w : World) : Calls Try.prog 80 #[iv i] w (FitsR .third i w) := by
  unfold iv ic
  have HR := Lib.hid (fun w => isReg_any i.t w)
  go_enter Try.func80, Try.ntmps80
  go_wp2_with (go_at_call 60; refine (HR.out _).mono ?_; rintro e w' ⟨rfl, rfl⟩)
  go_ret
  exact ⟨rfl, below_box _ _⟩
theorem fits_both (i : Ins) (w : World) : Calls Try.prog 70 #[iv i] w (FitsR .both i w) := by
  unfold iv ic
  have h1 := fun w => isReg_any i.r w
  have HS := Lib.hid (fun w => isReg_any i.s w)
  have HF := Lib.hid (show fitsP .both i = (isR i.r && isR i.s) from rfl)
  rcases hb : isR i.r with _ | _
  all_goals
    rw [hb] at h1 HF
    have HR := Lib.hid h1
    clear h1 hb
    go_enter Try.func70, Try.ntmps70
    go_wp2_with fail
    refine (HR.out _).mono ?_
    rintro e w' ⟨rfl, rfl⟩
    try
      go_wp2_with fail
      refine (HS.out _).mono ?_
      rintro e w' ⟨rfl, rfl⟩
    go_wp2_with fail
    go_ret
    exact ⟨by rw [HF.out]; rfl, below_box _ _⟩
theorem beq_of {a b : Int} (h : a = b) : (a == b) = true := by simp [h]
theorem nbeq_of {a b : Int} (h : ¬ a = b) : (a == b) = false := by simp [h]
theorem fits_op_1 {i : Ins} (h : i.k = 5) : fitsP .op i = (decide (i.o = 14) || decide (i.o = 15)) := by
  show (if i.k = 5 then decide (i.o = 14 ∨ i.o = 15) else _) = _
  rw [if_pos h, Bool.decide_or]
theorem fits_op_0 {i : Ins} (h : ¬ i.k = 5) : fitsP .op i = decide (1 ≤ i.o ∧ i.o ≤ 13) := by
  show (if i.k = 5 then decide (i.o = 14 ∨ i.o = 15) else _) = _
  rw [if_neg h]
set_option maxHeartbeats 400000 in
theorem fits_op (i : Ins) (w : World) : Calls Try.prog 76 #[iv i] w (FitsR .op i w) := by
  by_cases h1 : i.k = 5
  · have HF := Lib.hid (fits_op_1 h1)
    have b1 := beq_of h1
    clear h1
    unfold iv ic
    by_cases h2 : i.o = 14
    · rw [decide_eq_true h2] at HF
      have b2 := beq_of h2
      clear h2
      go_enter Try.func76, Try.ntmps76
      go_wp2
      go_ret
      exact ⟨by rw [HF.out]; rfl, below_box _ _⟩
    · rw [decide_eq_false h2] at HF
      have b2 := nbeq_of h2
      clear h2
      by_cases h3 : i.o = 15
      all_goals
        first | (rw [decide_eq_true h3] at HF; have b3 := beq_of h3; clear h3) | (rw [decide_eq_false h3] at HF; have b3 := nbeq_of h3; clear h3)
        go_enter Try.func76, Try.ntmps76
        go_wp2
        go_ret
        exact ⟨by rw [HF.out]; rfl, below_box _ _⟩
  · have HF := Lib.hid (fits_op_0 h1)
    have b1 := nbeq_of h1
    clear h1
    unfold iv ic
    by_cases h4 : 1 ≤ i.o <;> by_cases h5 : i.o ≤ 13
    all_goals try (exfalso; omega)
    all_goals
      go_enter Try.func76, Try.ntmps76
      go_wp2
      go_ret
      exact ⟨by rw [HF.out]; simp [h4, h5], below_box _ _⟩
set_option maxHeartbeats 400000 in
theorem fits_num (i : Ins) (w : World) : Calls Try.prog 64 #[iv i] w (FitsR .num i w) := by
  by_cases h1 : i.k = 2
  · have HF := Lib.hid (show fitsP .num i = true from decide_eq_true (.inl h1))
    have b1 := beq_of h1
    clear h1
    unfold iv ic
    go_enter Try.func64, Try.ntmps64
    go_wp2
    go_ret
    exact ⟨by rw [HF.out]; rfl, below_box _ _⟩
  · have HF := Lib.hid (show fitsP .num i = decide (-65536 ≤ i.n ∧ i.n ≤ 65536) from by simp [fitsP, h1])
    have b1 := nbeq_of h1
    clear h1
    unfold iv ic
    by_cases h4 : -65536 ≤ i.n <;> by_cases h5 : i.n ≤ 65536
    all_goals try (exfalso; omega)
    all_goals
      go_enter Try.func64, Try.ntmps64
      go_wp2
      go_ret
      exact ⟨by rw [HF.out]; simp [h4, h5], below_box _ _⟩
set_option maxHeartbeats 400000 in
theorem fits_many (i : Ins) (w : World) : Calls Try.prog 84 #[iv i] w (FitsR .many i w) := by
  unfold iv ic
  by_cases h2 : 1 ≤ i.m <;> by_cases h3 : i.m ≤ 65536
  all_goals try (exfalso; omega)
  all_goals
    go_enter Try.func84, Try.ntmps84
    go_wp2
    go_ret
    refine ⟨?_, below_box _ _⟩
    simp [fitsP, *] <;> omega
set_option maxHeartbeats 400000 in
theorem fits_to (i : Ins) (w : World) : Calls Try.prog 90 #[iv i] w (FitsR .to i w) := by
  unfold iv ic
  by_cases h2 : 0 ≤ i.n <;> by_cases h3 : i.n < 16777216
  all_goals try (exfalso; omega)
  all_goals
    go_enter Try.func90, Try.ntmps90
    go_wp2
    go_ret
    refine ⟨?_, below_box _ _⟩
    simp [fitsP, *] <;> omega
set_option maxHeartbeats 400000 in
theorem fits_how (i : Ins) (w : World) : Calls Try.prog 95 #[iv i] w (FitsR .how i w) := by
  unfold iv ic
  by_cases h2 : 2 ≤ i.n <;> by_cases h3 : i.n ≤ 4
  all_goals try (exfalso; omega)
  all_goals
    go_enter Try.func95, Try.ntmps95
    go_wp2
    go_ret
    refine ⟨?_, below_box _ _⟩
    simp [fitsP, *] <;> omega
theorem fits_any (p : Pt) (i : Ins) (w : World) : Calls Try.prog (fF p) #[iv i] w (FitsR p i w) := by
  cases p
  · exact fits_op i w
  · exact fits_reg i w
  · exact fits_both i w
  · exact fits_third i w
  · exact fits_num i w
  · exact fits_many i w
  · exact fits_to i w
  · exact fits_how i w

theorem ins_size : (Try.prog.info? 24).map (·.size) = some 7 := by kernel_rfl
theorem ins_back {fn : Func} {p : Tmp} (h : fn.results = #[.cell p 24]) {tmps : Array Value} {w : World} {g : Nat} (hp : tmps.getD p undef = .pointer (some ⟨g, 0, none⟩))
    {k o r s t n m : Value} (hg : w.heap[g]? = some (.cells #[k, o, r, s, t, n, m] 24 (0, 0))) : (results fn tmps).run Try.prog w = .ok (.agg #[k, o, r, s, t, n, m]) w :=
  results_cell_row h tmps w g _ _ _ _ hp hg Try.underlying24 rfl ins_size
theorem drop_op (i : Ins) (w : World) : Calls Try.prog 77 #[iv i] w (DropR .op i w) := by
  unfold iv ic
  go_enter Try.func77, Try.ntmps77
  go_wp2
  refine bodyPost_ret (ins_back rfl rfl (heap_alloc2_new _ _ _)) rfl ?_
  exact ⟨rfl, below_box2 _ _ _⟩
theorem drop_reg (i : Ins) (w : World) : Calls Try.prog 61 #[iv i] w (DropR .reg i w) := by
  unfold iv ic
  go_enter Try.func61, Try.ntmps61
  go_wp2
  refine bodyPost_ret (ins_back rfl rfl (heap_alloc2_new _ _ _)) rfl ?_
  exact ⟨rfl, below_box2 _ _ _⟩
theorem drop_both (i : Ins) (w : World) : Calls Try.prog 71 #[iv i] w (DropR .both i w) := by
  unfold iv ic
  go_enter Try.func71, Try.ntmps71
  go_wp2
  refine bodyPost_ret (ins_back rfl rfl (heap_alloc2_new _ _ _)) rfl ?_
  exact ⟨rfl, below_box2 _ _ _⟩
theorem drop_third (i : Ins) (w : World) : Calls Try.prog 81 #[iv i] w (DropR .third i w) := by
  unfold iv ic
  go_enter Try.func81, Try.ntmps81
  go_wp2
  refine bodyPost_ret (ins_back rfl rfl (heap_alloc2_new _ _ _)) rfl ?_
  exact ⟨rfl, below_box2 _ _ _⟩
theorem drop_num (i : Ins) (w : World) : Calls Try.prog 65 #[iv i] w (DropR .num i w) := by
  unfold iv ic
  go_enter Try.func65, Try.ntmps65
  go_wp2
  refine bodyPost_ret (ins_back rfl rfl (heap_alloc2_new _ _ _)) rfl ?_
  exact ⟨rfl, below_box2 _ _ _⟩
theorem drop_many (i : Ins) (w : World) : Calls Try.prog 85 #[iv i] w (DropR .many i w) := by
  unfold iv ic
  go_enter Try.func85, Try.ntmps85
  go_wp2
  refine bodyPost_ret (ins_back rfl rfl (heap_alloc2_new _ _ _)) rfl ?_
  exact ⟨rfl, below_box2 _ _ _⟩
theorem drop_any (p : Pt) (i : Ins) (w : World) : Calls Try.prog (dF p) #[iv i] w (DropR p i w) := by
  cases p
  · exact drop_op i w
  · exact drop_reg i w
  · exact drop_both i w
  · exact drop_third i w
  · exact drop_num i w
  · exact drop_many i w
  · exact drop_num i w
  · exact drop_num i w

end Go.Proofs.Ytdapflfbkjoicaa
