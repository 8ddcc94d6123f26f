/-
  Merged for a claim: I3B, L2B, L2D, O1K, O1P, I3C.
-/
import Derived.Test.YtdnpoeegefkoiaaGreatFJ0
import Derived.Laws.EntriesVeiled
namespace Go.Proofs.YtdnpoeegefkoiaaGreat
open Go.RowKit

/-- an instruction as a value -/
def ic (i : Ins) : Array Value := #[.int .u8 i.k, .int .u8 i.o, .int .i64 i.r, .int .i64 i.s, .int .i64 i.t, .int .i64 i.n, .int .i64 i.m]
def iv (i : Ins) : Value := .agg (ic i)

def fF : Pt → Nat
  | .op => 96 | .reg => 79 | .both => 90 | .third => 100 | .num => 84 | .many => 104 | .to => 110 | .how => 115
def dF : Pt → Nat
  | .op => 97 | .reg => 81 | .both => 91 | .third => 101 | .num => 85 | .many => 105 | .to => 85 | .how => 85
def pF : Pt → Nat
  | .op => 98 | .reg => 82 | .both => 92 | .third => 102 | .num => 86 | .many => 106 | .to => 111 | .how => 116
def gF : Pt → Nat
  | .op => 99 | .reg => 83 | .both => 94 | .third => 103 | .num => 88 | .many => 108 | .to => 113 | .how => 117

def FitsR (p : Pt) (i : Ins) (w : World) (e : Ending) (w' : World) : Prop := e = .returned (.bool (fitsP p i)) ∧ Below w.heap.size w w'
def DropR (p : Pt) (i : Ins) (w : World) (e : Ending) (w' : World) : Prop := e = .returned (iv (dropP p i)) ∧ Below w.heap.size w w'

theorem isReg_any (n : Int) (w : World) : Calls Tryz.prog 80 #[.int .i64 n] w fun e w' => e = .returned (.bool (isR n)) ∧ w = w' := by
  by_cases h1 : 0 ≤ n <;> by_cases h2 : n < 16
  all_goals
    go_enter Tryz.func80, Tryz.ntmps80
    go_wp2
    go_ret
    refine ⟨?_, rfl⟩
    simp [isR, *]
theorem below_box (w : World) (o : Obj) : Below w.heap.size w (w.alloc o) := (Below.refl _ _).alloc (Nat.le_refl _) _
theorem below_box2 (w : World) (o o2 : Obj) : Below w.heap.size w ((w.alloc o).alloc o2) := (below_box w o).alloc (by simp) _

theorem fits_reg (i : Ins) (w : World) : Calls Tryz.prog 79 #[iv i] w (FitsR .reg i w) := by
  unfold iv ic
  have HR := Lib.hid (fun w => isReg_any i.r w)
  go_enter Tryz.func79, Tryz.ntmps79
  go_wp2_with (go_at_call 80; refine (HR.out _).mono ?_; rintro e w' ⟨rfl, rfl⟩)
  go_ret
  exact ⟨rfl, below_box _ _⟩
theorem fits_third (i : Ins) (w : World) : Calls Tryz.prog 100 #[iv i] w (FitsR .third i w) := by
  unfold iv ic
  have HR := Lib.hid (fun w => isReg_any i.t w)
  go_enter Tryz.func100, Tryz.ntmps100
  go_wp2_with (go_at_call 80; refine (HR.out _).mono ?_; rintro e w' ⟨rfl, rfl⟩)
  go_ret
  exact ⟨rfl, below_box _ _⟩
theorem fits_both (i : Ins) (w : World) : Calls Tryz.prog 90 #[iv i] w (FitsR .both i w) := by
  unfold iv ic
  have h1 := fun w => isReg_any i.r w
  have HS := Lib.hid (fun w => isReg_any i.s w)
  have HF := Lib.hid (show fitsP .both i = (isR i.r && isR i.s) from rfl)
  rcases hb : isR i.r with _ | _
  all_goals
    rw [hb] at h1 HF
    have HR := Lib.hid h1
    clear h1 hb
    go_enter Tryz.func90, Tryz.ntmps90
    go_wp2_with fail
    refine (HR.out _).mono ?_
    rintro e w' ⟨rfl, rfl⟩
    try
      go_wp2_with fail
      refine (HS.out _).mono ?_
      rintro e w' ⟨rfl, rfl⟩
    go_wp2_with fail
    go_ret
    exact ⟨by rw [HF.out]; rfl, below_box _ _⟩
theorem beq_of {a b : Int} (h : a = b) : (a == b) = true := by simp [h]
theorem nbeq_of {a b : Int} (h : ¬ a = b) : (a == b) = false := by simp [h]
theorem fits_op_1 {i : Ins} (h : i.k = 5) : fitsP .op i = (decide (i.o = 14) || decide (i.o = 15)) := by
  show (if i.k = 5 then decide (i.o = 14 ∨ i.o = 15) else _) = _
  rw [if_pos h, Bool.decide_or]
theorem fits_op_0 {i : Ins} (h : ¬ i.k = 5) : fitsP .op i = decide (1 ≤ i.o ∧ i.o ≤ 13) := by
  show (if i.k = 5 then decide (i.o = 14 ∨ i.o = 15) else _) = _
  rw [if_neg h]
set_option maxHeartbeats 400000 in
theorem fits_op (i : Ins) (w : World) : Calls Tryz.prog 96 #[iv i] w (FitsR .op i w) := by
  by_cases h1 : i.k = 5
  · have HF := Lib.hid (fits_op_1 h1)
    have b1 := beq_of h1
    clear h1
    unfold iv ic
    by_cases h2 : i.o = 14
    · rw [decide_eq_true h2] at HF
      have b2 := beq_of h2
      clear h2
      go_enter Tryz.func96, Tryz.ntmps96
      go_wp2
      go_ret
      exact ⟨by rw [HF.out]; rfl, below_box _ _⟩
    · rw [decide_eq_false h2] at HF
      have b2 := nbeq_of h2
      clear h2
      by_cases h3 : i.o = 15
      all_goals
        first | (rw [decide_eq_true h3] at HF; have b3 := beq_of h3; clear h3) | (rw [decide_eq_false h3] at HF; have b3 := nbeq_of h3; clear h3)
        go_enter Tryz.func96, Tryz.ntmps96
        go_wp2
        go_ret
        exact ⟨by rw [HF.out]; rfl, below_box _ _⟩
  · have HF := Lib.hid (fits_op_0 h1)
    have b1 := nbeq_of h1
    clear h1
    unfold iv ic
    by_cases h4 : 1 ≤ i.o <;> by_cases h5 : i.o ≤ 13
    all_goals try (exfalso; omega)
    all_goals
      go_enter Tryz.func96, Tryz.ntmps96
      go_wp2
      go_ret
      exact ⟨by rw [HF.out]; simp [h4, h5], below_box _ _⟩
set_option maxHeartbeats 400000 in
theorem fits_num (i : Ins) (w : World) : Calls Tryz.prog 84 #[iv i] w (FitsR .num i w) := by
  by_cases h1 : i.k = 2
  · have HF := Lib.hid (show fitsP .num i = true from decide_eq_true (.inl h1))
    have b1 := beq_of h1
    clear h1
    unfold iv ic
    go_enter Tryz.func84, Tryz.ntmps84
    go_wp2
    go_ret
    exact ⟨by rw [HF.out]; rfl, below_box _ _⟩
  · have HF := Lib.hid (show fitsP .num i = decide (-65536 ≤ i.n ∧ i.n ≤ 65536) from by simp [fitsP, h1])
    have b1 := nbeq_of h1
    clear h1
    unfold iv ic
    by_cases h4 : -65536 ≤ i.n <;> by_cases h5 : i.n ≤ 65536
    all_goals try (exfalso; omega)
    all_goals
      go_enter Tryz.func84, Tryz.ntmps84
      go_wp2
      go_ret
      exact ⟨by rw [HF.out]; simp [h4, h5], below_box _ _⟩
set_option maxHeartbeats 400000 in
theorem fits_many (i : Ins) (w : World) : Calls Tryz.prog 104 #[iv i] w (FitsR .many i w) := by
  unfold iv ic
  by_cases h2 : 1 ≤ i.m <;> by_cases h3 : i.m ≤ 65536
  all_goals try (exfalso; omega)
  all_goals
    go_enter Tryz.func104, Tryz.ntmps104
    go_wp2
    go_ret
    refine ⟨?_, below_box _ _⟩
    simp [fitsP, *] <;> omega
set_option maxHeartbeats 400000 in
theorem fits_to (i : Ins) (w : World) : Calls Tryz.prog 110 #[iv i] w (FitsR .to i w) := by
  unfold iv ic
  by_cases h2 : 0 ≤ i.n <;> by_cases h3 : i.n < 16777216
  all_goals try (exfalso; omega)
  all_goals
    go_enter Tryz.func110, Tryz.ntmps110
    go_wp2
    go_ret
    refine ⟨?_, below_box _ _⟩
    simp [fitsP, *] <;> omega
set_option maxHeartbeats 400000 in
theorem fits_how (i : Ins) (w : World) : Calls Tryz.prog 115 #[iv i] w (FitsR .how i w) := by
  unfold iv ic
  by_cases h2 : 2 ≤ i.n <;> by_cases h3 : i.n ≤ 4
  all_goals try (exfalso; omega)
  all_goals
    go_enter Tryz.func115, Tryz.ntmps115
    go_wp2
    go_ret
    refine ⟨?_, below_box _ _⟩
    simp [fitsP, *] <;> omega
theorem fits_any (p : Pt) (i : Ins) (w : World) : Calls Tryz.prog (fF p) #[iv i] w (FitsR p i w) := by
  cases p
  · exact fits_op i w
  · exact fits_reg i w
  · exact fits_both i w
  · exact fits_third i w
  · exact fits_num i w
  · exact fits_many i w
  · exact fits_to i w
  · exact fits_how i w

theorem ins_size : (Tryz.prog.info? 53).map (·.size) = some 7 := by kernel_rfl
theorem ins_back {fn : Func} {p : Tmp} (h : fn.results = #[.cell p 53]) {tmps : Array Value} {w : World} {g : Nat} (hp : tmps.getD p undef = .pointer (some ⟨g, 0, none⟩))
    {k o r s t n m : Value} (hg : w.heap[g]? = some (.cells #[k, o, r, s, t, n, m] 53 (0, 0))) : (results fn tmps).run Tryz.prog w = .ok (.agg #[k, o, r, s, t, n, m]) w :=
  results_cell_row h tmps w g _ _ _ _ hp hg Tryz.underlying53 rfl ins_size
theorem drop_op (i : Ins) (w : World) : Calls Tryz.prog 97 #[iv i] w (DropR .op i w) := by
  unfold iv ic
  go_enter Tryz.func97, Tryz.ntmps97
  go_wp2
  refine bodyPost_ret (ins_back rfl rfl (heap_alloc2_new _ _ _)) rfl ?_
  exact ⟨rfl, below_box2 _ _ _⟩
theorem drop_reg (i : Ins) (w : World) : Calls Tryz.prog 81 #[iv i] w (DropR .reg i w) := by
  unfold iv ic
  go_enter Tryz.func81, Tryz.ntmps81
  go_wp2
  refine bodyPost_ret (ins_back rfl rfl (heap_alloc2_new _ _ _)) rfl ?_
  exact ⟨rfl, below_box2 _ _ _⟩
theorem drop_both (i : Ins) (w : World) : Calls Tryz.prog 91 #[iv i] w (DropR .both i w) := by
  unfold iv ic
  go_enter Tryz.func91, Tryz.ntmps91
  go_wp2
  refine bodyPost_ret (ins_back rfl rfl (heap_alloc2_new _ _ _)) rfl ?_
  exact ⟨rfl, below_box2 _ _ _⟩
theorem drop_third (i : Ins) (w : World) : Calls Tryz.prog 101 #[iv i] w (DropR .third i w) := by
  unfold iv ic
  go_enter Tryz.func101, Tryz.ntmps101
  go_wp2
  refine bodyPost_ret (ins_back rfl rfl (heap_alloc2_new _ _ _)) rfl ?_
  exact ⟨rfl, below_box2 _ _ _⟩
theorem drop_num (i : Ins) (w : World) : Calls Tryz.prog 85 #[iv i] w (DropR .num i w) := by
  unfold iv ic
  go_enter Tryz.func85, Tryz.ntmps85
  go_wp2
  refine bodyPost_ret (ins_back rfl rfl (heap_alloc2_new _ _ _)) rfl ?_
  exact ⟨rfl, below_box2 _ _ _⟩
theorem drop_many (i : Ins) (w : World) : Calls Tryz.prog 105 #[iv i] w (DropR .many i w) := by
  unfold iv ic
  go_enter Tryz.func105, Tryz.ntmps105
  go_wp2
  refine bodyPost_ret (ins_back rfl rfl (heap_alloc2_new _ _ _)) rfl ?_
  exact ⟨rfl, below_box2 _ _ _⟩
theorem drop_any (p : Pt) (i : Ins) (w : World) : Calls Tryz.prog (dF p) #[iv i] w (DropR p i w) := by
  cases p
  · exact drop_op i w
  · exact drop_reg i w
  · exact drop_both i w
  · exact drop_third i w
  · exact drop_num i w
  · exact drop_many i w
  · exact drop_num i w
  · exact drop_num i w

end Go.Proofs.YtdnpoeegefkoiaaGreat

namespace Go.Proofs.YtdnpoeegefkoiaaGreat
open Go.RowKit

theorem two_split (m n : Nat) (h : n ≤ m) : (2 : Int) ^ m = 2 ^ (m - n) * 2 ^ n := by rw [← Int.pow_add]; congr 1; omega

theorem toldU_val (x : Int) (n : Nat) (hn2 : n ≤ 9) : IntKind.u64.wrap (x * 2 ^ (64 - 7 * n)) / 2 ^ (64 - 7 * n) = x % pw n := by
  have hp : (0 : Int) < 2 ^ (64 - 7 * n) := Int.pow_pos (by omega)
  rw [IntKind.wrap_u64]
  rw [show (18446744073709551616 : Int) = 2 ^ (64 - 7 * n) * pw n from by
    have : (18446744073709551616 : Int) = 2 ^ 64 := by decide
    rw [this, two_split 64 (7 * n) (by omega)]; rfl]
  rw [Int.mul_comm x, Int.mul_emod_mul_of_pos _ _ hp, Int.mul_ediv_cancel_left _ (by omega)]

theorem toldS_val (x : Int) (n : Nat) (h1 : 1 ≤ n) (hn2 : n ≤ 9) : IntKind.i64.wrap (x * 2 ^ (64 - 7 * n)) / 2 ^ (64 - 7 * n) = (x + 64 * pw (n - 1)) % pw n - 64 * pw (n - 1) := by
  have hp : (0 : Int) < 2 ^ (64 - 7 * n) := Int.pow_pos (by omega)
  obtain ⟨k, rfl⟩ : ∃ k, n = k + 1 := ⟨n - 1, by omega⟩
  have hk := pw_succ k
  have hu := pw_pos k
  have e : 2 ^ (64 - 7 * (k + 1)) * pw (k + 1) = 18446744073709551616 := by
    have : (18446744073709551616 : Int) = 2 ^ 64 := by decide
    rw [this, two_split 64 (7 * (k + 1)) (by omega)]; rfl
  simp only [Nat.add_sub_cancel]
  generalize (2 : Int) ^ (64 - 7 * (k + 1)) = q at *
  have e2 : q * (64 * pw k) = 9223372036854775808 := by
    rw [hk] at e
    have : q * (128 * pw k) = 2 * (q * (64 * pw k)) := by rw [← Int.mul_assoc, ← Int.mul_assoc, ← Int.mul_assoc]; congr 1; omega
    omega
  rw [IntKind.wrap_i64, show x * q + 9223372036854775808 = q * (x + 64 * pw k) from by rw [Int.mul_add, e2, Int.mul_comm], ← e, Int.mul_emod_mul_of_pos _ _ hp]
  rw [← e2, ← Int.mul_sub, Int.mul_ediv_cancel_left _ (by omega)]

theorem wrapEq (x : Int) : IntKind.i64.wrap x = wrap64 x := by unfold wrap64; exact IntKind.wrap_i64 x

def kd (b : Bool) : IntKind := if b = true then .i64 else .u64

theorem or_ofInt (a b i : Nat) (ha : a < 2 ^ i) : BitVec.ofInt 64 (a : Int) ||| BitVec.ofInt 64 ((2 ^ i * b : Nat) : Int) = BitVec.ofInt 64 ((2 ^ i * b + a : Nat) : Int) := by
  rw [BitVec.ofInt_natCast, BitVec.ofInt_natCast, BitVec.ofInt_natCast, Nat.two_pow_add_eq_or_of_lt ha, BitVec.ofNat_or, BitVec.or_comm]

theorem ofInt_wrapU (x : Int) : BitVec.ofInt 64 (IntKind.u64.wrap x) = BitVec.ofInt 64 x := by
  apply BitVec.eq_of_toNat_eq
  rw [BitVec.toNat_ofInt, BitVec.toNat_ofInt, IntKind.wrap_u64]
  congr 1
  show x % 18446744073709551616 % 18446744073709551616 = x % 18446744073709551616
  omega
theorem ofInt_wrapS (x : Int) : BitVec.ofInt 64 (IntKind.i64.wrap x) = BitVec.ofInt 64 x := by
  apply BitVec.eq_of_toNat_eq
  rw [BitVec.toNat_ofInt, BitVec.toNat_ofInt, IntKind.wrap_i64]
  congr 1
  show ((x + 9223372036854775808) % 18446744073709551616 - 9223372036854775808) % 18446744073709551616 = x % 18446744073709551616
  omega
theorem wrapU_toNat (x : Int) : IntKind.u64.wrap ((BitVec.ofInt 64 x).toNat : Int) = IntKind.u64.wrap x := by
  rw [BitVec.toNat_ofInt, IntKind.wrap_u64, IntKind.wrap_u64]
  show ((x % 18446744073709551616).toNat : Int) % 18446744073709551616 = x % 18446744073709551616
  omega
theorem wrapS_toNat (x : Int) : IntKind.i64.wrap ((BitVec.ofInt 64 x).toNat : Int) = IntKind.i64.wrap x := by
  rw [BitVec.toNat_ofInt, IntKind.wrap_i64, IntKind.wrap_i64]
  show (((x % 18446744073709551616).toNat : Int) + 9223372036854775808) % 18446744073709551616 - 9223372036854775808 = (x + 9223372036854775808) % 18446744073709551616 - 9223372036854775808
  omega

theorem orU (a : Int) (k : Nat) (e : Int) (h0 : 0 ≤ a) (ha : a < pw k) (he : 0 ≤ e) : bits .or .u64 a (IntKind.u64.wrap (e * 2 ^ (7 * k))) = IntKind.u64.wrap (a + pw k * e) := by
  obtain ⟨d, rfl⟩ := Int.eq_ofNat_of_zero_le he
  show IntKind.u64.wrap ((BitVec.ofInt 64 a ||| BitVec.ofInt 64 (IntKind.u64.wrap ((d : Int) * 2 ^ (7 * k)))).toNat : Int) = _
  obtain ⟨n, rfl⟩ := Int.eq_ofNat_of_zero_le h0
  have hn : n < 2 ^ (7 * k) := by unfold pw at ha; exact_mod_cast ha
  rw [ofInt_wrapU, show (d : Int) * 2 ^ (7 * k) = ((2 ^ (7 * k) * d : Nat) : Int) from by rw [Int.mul_comm]; simp, or_ofInt n d _ hn, wrapU_toNat]
  congr 1
  unfold pw
  rw [Int.add_comm]; simp
theorem orS (a : Int) (k : Nat) (e : Int) (h0 : 0 ≤ a) (ha : a < pw k) (he : 0 ≤ e) : bits .or .i64 a (IntKind.i64.wrap (e * 2 ^ (7 * k))) = IntKind.i64.wrap (a + pw k * e) := by
  obtain ⟨d, rfl⟩ := Int.eq_ofNat_of_zero_le he
  show IntKind.i64.wrap ((BitVec.ofInt 64 a ||| BitVec.ofInt 64 (IntKind.i64.wrap ((d : Int) * 2 ^ (7 * k)))).toNat : Int) = _
  obtain ⟨n, rfl⟩ := Int.eq_ofNat_of_zero_le h0
  have hn : n < 2 ^ (7 * k) := by unfold pw at ha; exact_mod_cast ha
  rw [ofInt_wrapS, show (d : Int) * 2 ^ (7 * k) = ((2 ^ (7 * k) * d : Nat) : Int) from by rw [Int.mul_comm]; simp, or_ofInt n d _ hn, wrapS_toNat]
  congr 1
  unfold pw
  rw [Int.add_comm]; simp

/-- round the word -/
def wk (b : Bool) (s : Int) : Int := if b = true then IntKind.i64.wrap s else IntKind.u64.wrap s
theorem wk_in {b : Bool} {s : Int} (h0 : 0 ≤ s) (h1 : s < 9223372036854775808) : wk b s = s := by
  unfold wk; split
  · rw [IntKind.wrap_i64]; omega
  · rw [IntKind.wrap_u64]; omega
theorem wk_rng (b : Bool) (s : Int) : rng b (wk b s) := by
  unfold wk rng
  cases b
  · simp only [Bool.false_eq_true, if_false]; rw [IntKind.wrap_u64]; omega
  · simp only [if_true]; rw [IntKind.wrap_i64]; omega
theorem told_raw {b : Bool} {s : Int} {n : Nat} (h0 : 0 ≤ s) (h1 : s < pw n) (hn : 1 ≤ n) (hn2 : n ≤ 10) : told b (wk b s) n = val b s n := by
  by_cases h : n ≤ 9
  · rw [wk_in h0 (by have := pw_lt9 h; omega)]
    exact told_val h0 h1 hn h
  · obtain rfl : n = 10 := by omega
    unfold told wk val
    cases b
    · simp only [if_true, Bool.false_eq_true, if_false]; rw [IntKind.wrap_u64]
    · simp only [if_true]; rw [IntKind.wrap_i64, if_neg (by omega)]
      split <;> omega

theorem rd_step {l : List UInt8} {k j : Nat} {z : Int} (hj : j < 10) (hkj : k + j < l.length) (hz : z = sm ((l.drop k).take j)) :
    ∃ s, s = sm ((l.drop k).take (j + 1)) ∧ 0 ≤ s ∧ s < pw (j + 1) ∧ 0 ≤ z ∧ z < pw j ∧ z + pw j * ((by_ (l.drop k) j : Int) % 128) = s := by
  have hs := sm_bound ((l.drop k).take (j + 1))
  have hs2 := sm_bound ((l.drop k).take j)
  rw [List.length_take, List.length_drop, show min (j + 1) (l.length - k) = j + 1 by omega] at hs
  rw [List.length_take, List.length_drop, show min j (l.length - k) = j by omega, ← hz] at hs2
  exact ⟨_, rfl, hs.1, hs.2, hs2.1, hs2.2, by rw [hz]; exact (sm_take_succ _ _ (by simp; omega)).symm⟩

theorem rd_last {b : Bool} {l : List UInt8} {k j : Nat} {s : Int} (hj : j < 10) (hkj : k + j < l.length) (hs : s = sm ((l.drop k).take (j + 1))) (h0 : 0 ≤ s) (h1 : s < pw (j + 1))
    (hm : ∀ m, m < j → 128 ≤ by_ (l.drop k) m) (hq : by_ (l.drop k) j < 128) :
    ∃ v, rng b v ∧ told b (wk b s) (j + 1) = v ∧ ((size b v = j + 1 ∧ dgt v j = by_ (l.drop k) j ∧ rdE b l k = 0 ∧ rdX b l k = v ∧ rdN b l k = (k : Int) + (j + 1)) ∨
      (size b v ≠ j + 1 ∧ rdE b l k = 5 ∧ rdX b l k = 0 ∧ rdN b l k = 0) ∨ (size b v = j + 1 ∧ dgt v j ≠ by_ (l.drop k) j ∧ rdE b l k = 5 ∧ rdX b l k = 0 ∧ rdN b l k = 0)) := by
  have hl : lg (l.drop k) 10 = j + 1 := lg_is 10 _ (j + 1) (by omega) (by omega) (by simp; omega) (by simpa using hq) (fun m h => hm m (by omega))
  have hgi := good_iff (b := b) hl (by omega)
  rw [Nat.add_sub_cancel, ← hs] at hgi
  have hv_ : hv b (l.drop k) = val b s (j + 1) := by unfold hv; rw [hl, ← hs]
  refine ⟨val b s (j + 1), val_rng h0 h1 (by omega) (by omega), told_raw h0 h1 (by omega) (by omega), ?_⟩
  by_cases g1 : size b (val b s (j + 1)) = j + 1
  · by_cases g2 : dgt (val b s (j + 1)) j = by_ (l.drop k) j
    · have := rd_ok (b := b) (l := l) (k := k) (by omega) (hgi.2 ⟨g1, g2⟩)
      exact .inl ⟨g1, g2, this.1, by rw [this.2.1, hv_], by rw [this.2.2, hl]; simp⟩
    · have := rd_form (b := b) (l := l) (k := k) (by omega) (fun h => g2 (hgi.1 h).2)
      exact .inr (.inr ⟨g1, g2, this⟩)
  · have := rd_form (b := b) (l := l) (k := k) (by omega) (fun h => g1 (hgi.1 h).1)
    exact .inr (.inl ⟨g1, this⟩)

theorem rd_end {b : Bool} {l : List UInt8} {k j : Nat} (hk : k ≤ l.length) (hj : 10 ≤ j ∨ l.length ≤ k + j) (hm : ∀ m, m < j → 128 ≤ by_ (l.drop k) m) : rdE b l k = 5 ∧ rdX b l k = 0 ∧ rdN b l k = 0 := by
  have hl : lg (l.drop k) 10 = 0 := lg_none 10 _ fun m h1 h2 => hm m (by simp at h2; omega)
  exact rd_form hk fun h => h.1 hl

set_option maxHeartbeats 400000 in
theorem toldU_any (x : Int) (n : Nat) (w : World) (_h0 : 0 ≤ x) (_h1 : x < 18446744073709551616) (hn : 1 ≤ n) (hn2 : n ≤ 10) :
    Calls Tryz.prog 129 #[.int .u64 x, .int .i64 n] w fun e w' => e = .returned (.int .u64 (told false x n)) ∧ w = w' := by
  by_cases h : n = 10
  · have e : told false x n = x := by simp [told, h]
    have H := Lib.hid e
    have b : ((n : Int) == 10) = true := by simp; omega
    clear e h
    go_enter Tryz.func129, Tryz.ntmps129
    go_wp2
    go_ret
    exact ⟨by rw [H.out]; rfl, rfl⟩
  · have e : told false x n = x % pw n := by simp [told, h]
    have H := Lib.hid (e.trans (toldU_val x n (by omega)).symm)
    have b : ((n : Int) == 10) = false := by simp; omega
    have hn3 : n ≤ 9 := by omega
    clear e h hn2
    go_enter Tryz.func129, Tryz.ntmps129
    go_wp2
    go_ret
    exact ⟨by rw [H.out]; rfl, rfl⟩
set_option maxHeartbeats 400000 in
theorem toldS_any (x : Int) (n : Nat) (w : World) (_h0 : -9223372036854775808 ≤ x) (_h1 : x < 9223372036854775808) (hn : 1 ≤ n) (hn2 : n ≤ 10) :
    Calls Tryz.prog 126 #[.int .i64 x, .int .i64 n] w fun e w' => e = .returned (.int .i64 (told true x n)) ∧ w = w' := by
  by_cases h : n = 10
  · have e : told true x n = x := by simp [told, h]
    have H := Lib.hid e
    have b : ((n : Int) == 10) = true := by simp; omega
    clear e h
    go_enter Tryz.func126, Tryz.ntmps126
    go_wp2
    go_ret
    exact ⟨by rw [H.out]; rfl, rfl⟩
  · have e : told true x n = (x + 64 * pw (n - 1)) % pw n - 64 * pw (n - 1) := by simp [told, h]
    have H := Lib.hid (show told true x n = wrap64 (x * 2 ^ (64 - 7 * n)) / 2 ^ (64 - 7 * n) by rw [← wrapEq]; exact e.trans (toldS_val x n hn (by omega)).symm)
    have b : ((n : Int) == 10) = false := by simp; omega
    have hn3 : n ≤ 9 := by omega
    clear e h hn2
    go_enter Tryz.func126, Tryz.ntmps126
    go_wp2
    go_ret
    exact ⟨by rw [H.out]; rfl, rfl⟩
set_option maxHeartbeats 400000 in
theorem digitU_any (x : Int) (n : Nat) (w : World) (_h0 : 0 ≤ x) (_h1 : x < 18446744073709551616) (hn2 : n ≤ 9) :
    Calls Tryz.prog 128 #[.int .u64 x, .int .i64 n] w fun e w' => e = .returned (.int .u8 (dgt x n)) ∧ w = w' := by
  have H := Lib.hid (show dgt x n = x / 2 ^ (7 * n) % 256 % 128 by unfold dgt pw; omega)
  go_enter Tryz.func128, Tryz.ntmps128
  go_wp2
  go_ret
  exact ⟨by rw [H.out]; rfl, rfl⟩
set_option maxHeartbeats 400000 in
theorem digitS_any (x : Int) (n : Nat) (w : World) (_h0 : -9223372036854775808 ≤ x) (_h1 : x < 9223372036854775808) (hn2 : n ≤ 9) :
    Calls Tryz.prog 125 #[.int .i64 x, .int .i64 n] w fun e w' => e = .returned (.int .u8 (dgt x n)) ∧ w = w' := by
  have H := Lib.hid (show dgt x n = x / 2 ^ (7 * n) % 256 % 128 by unfold dgt pw; omega)
  go_enter Tryz.func125, Tryz.ntmps125
  go_wp2
  go_ret
  exact ⟨by rw [H.out]; rfl, rfl⟩

theorem lsz_yes {b : Bool} {x : Int} {n : Nat} (hn : n ≤ 10) (h : fit b x n) (he : lsz b x (10 - n) n = size b x) : size b x = n := by
  by_cases h10 : n = 10
  · subst h10; exact he.symm
  · rw [show 10 - n = (9 - n) + 1 by omega, lsz, if_pos h] at he
    exact he.symm
theorem lsz_no {b : Bool} {x : Int} {n : Nat} (hn : n ≤ 10) (h : ¬ fit b x n) (he : lsz b x (10 - n) n = size b x) : n + 1 ≤ 10 ∧ lsz b x (10 - (n + 1)) (n + 1) = size b x := by
  by_cases h10 : n = 10
  · exact absurd (.inl (by omega)) h
  · rw [show 10 - n = (9 - n) + 1 by omega, lsz, if_neg h] at he
    exact ⟨by omega, by rw [show 10 - (n + 1) = 9 - n by omega]; exact he⟩

set_option maxHeartbeats 400000 in
theorem sizeU_any (x : Int) (w : World) (h0 : 0 ≤ x) (h1 : x < 18446744073709551616) :
    Calls Tryz.prog 127 #[.int .u64 x] w fun e w' => e = .returned (.int .i64 (size false x)) ∧ w = w' := by
  go_enter Tryz.func127, Tryz.ntmps127
  go_wp2
  go_loop [3] (fun n => ∃ k : Nat, 1 ≤ k ∧ k ≤ 10 ∧ n = .int .i64 k ∧ Hid (lsz false x (10 - k) k = size false x)) (fun n => 10 - (intOf n).toNat)
  case atStart => exact ⟨1, by omega, by omega, rfl, rfl⟩
  case round =>
    obtain ⟨k, hk1, hk2, rfl, hl⟩ := hrel
    have ht := toldU_any x k w h0 h1 hk1 hk2
    by_cases hf : fit false x k
    · have HS := Lib.hid (lsz_yes hk2 hf hl.out)
      have hx := (told_fit (b := false) ⟨h0, h1⟩ hk1 hk2).2 hf
      have b : (x != x) = false := by simp
      rw [hx] at ht
      have HT := Lib.hid ht
      clear ht hx hf
      go_wp2_with (go_at_call 129; refine HT.out.mono ?_; rintro e w' ⟨rfl, rfl⟩)
      go_ret
      exact ⟨by rw [HS.out]; rfl, rfl⟩
    · obtain ⟨hk3, he⟩ := lsz_no hk2 hf hl.out
      have HS := Lib.hid he
      have hx : (told false x k != x) = true := by
        rw [bne_iff_ne]; exact fun e => hf ((told_fit (b := false) ⟨h0, h1⟩ hk1 hk2).1 e)
      generalize told false x k = t at *
      have HT := Lib.hid ht
      clear ht hf he
      go_wp2_with (go_at_call 129; refine HT.out.mono ?_; rintro e w' ⟨rfl, rfl⟩)
      go_round
      case rel => exact ⟨k + 1, by omega, hk3, by go_num, HS⟩
      case measure => simp [intOf]; omega
set_option maxHeartbeats 400000 in
theorem sizeS_any (x : Int) (w : World) (h0 : -9223372036854775808 ≤ x) (h1 : x < 9223372036854775808) :
    Calls Tryz.prog 124 #[.int .i64 x] w fun e w' => e = .returned (.int .i64 (size true x)) ∧ w = w' := by
  go_enter Tryz.func124, Tryz.ntmps124
  go_wp2
  go_loop [3] (fun n => ∃ k : Nat, 1 ≤ k ∧ k ≤ 10 ∧ n = .int .i64 k ∧ Hid (lsz true x (10 - k) k = size true x)) (fun n => 10 - (intOf n).toNat)
  case atStart => exact ⟨1, by omega, by omega, rfl, rfl⟩
  case round =>
    obtain ⟨k, hk1, hk2, rfl, hl⟩ := hrel
    have ht := toldS_any x k w h0 h1 hk1 hk2
    by_cases hf : fit true x k
    · have HS := Lib.hid (lsz_yes hk2 hf hl.out)
      have hx := (told_fit (b := true) ⟨h0, h1⟩ hk1 hk2).2 hf
      have b : (x != x) = false := by simp
      rw [hx] at ht
      have HT := Lib.hid ht
      clear ht hx hf
      go_wp2_with (go_at_call 126; refine HT.out.mono ?_; rintro e w' ⟨rfl, rfl⟩)
      go_ret
      exact ⟨by rw [HS.out]; rfl, rfl⟩
    · obtain ⟨hk3, he⟩ := lsz_no hk2 hf hl.out
      have HS := Lib.hid he
      have hx : (told true x k != x) = true := by
        rw [bne_iff_ne]; exact fun e => hf ((told_fit (b := true) ⟨h0, h1⟩ hk1 hk2).1 e)
      generalize told true x k = t at *
      have HT := Lib.hid ht
      clear ht hf he
      go_wp2_with (go_at_call 126; refine HT.out.mono ?_; rintro e w' ⟨rfl, rfl⟩)
      go_round
      case rel => exact ⟨k + 1, by omega, hk3, by go_num, HS⟩
      case measure => simp [intOf]; omega

end Go.Proofs.YtdnpoeegefkoiaaGreat

namespace Go.Proofs.YtdnpoeegefkoiaaGreat
open Go.RowKit

theorem eb_lies (w : World) (x : Int) (n k : Nat) (h : k + 1 < n) : Lies (w.alloc (.cells #[.int .u8 (dgt x k + 128)] 5)) (w.alloc (.cells #[.int .u8 (dgt x k + 128)] 5)).heap.size (some ⟨w.heap.size, 0, none⟩) [eb x n k] :=
  lies_lit w 5 _ _ (by simp only [List.map_cons, List.map_nil, b8, eb_more x n k h])
theorem eb_lies_last (w : World) (x : Int) (n k : Nat) (h : n ≤ k + 1) : Lies (w.alloc (.cells #[.int .u8 (dgt x k)] 5)) (w.alloc (.cells #[.int .u8 (dgt x k)] 5)).heap.size (some ⟨w.heap.size, 0, none⟩) [eb x n k] :=
  lies_lit w 5 _ _ (by simp only [List.map_cons, List.map_nil, b8, eb_last x n k h])
theorem enc_part (l : List UInt8) (x : Int) (n k : Nat) : l ++ (List.range k).map (eb x n) ++ [eb x n k] = l ++ (List.range (k + 1)).map (eb x n) := by
  rw [List.range_succ, List.map_append, List.append_assoc]; rfl

set_option maxHeartbeats 1000000 in
theorem putU1_any (A : Option Addr) (c : Nat) (l : List UInt8) (x : Int) (w : World) (hc : A = none → c = 0) (h : Lies w w.heap.size A l) (hn : l.length ≤ 1099511627776) (h0 : 0 ≤ x) (h1 : x < 18446744073709551616) :
    Calls Tryz.prog 121 #[.slice A l.length c, .int .u64 x] w (MadeC w (l ++ nB false x) (l.length + size false x)) := by
  have hs := sizeU_any x w h0 h1
  have hs1 := size_pos false x
  have hs2 := size_le false x
  have hN : nB false x = enc x (size false x) := rfl
  rw [hN]
  clear hN
  generalize size false x = n at *
  have HS := Lib.hid hs
  have HC := Lib.hid hc
  clear hs hc
  go_enter Tryz.func121, Tryz.ntmps121
  go_wp2_with (first
    | (go_at_call 127; refine HS.out.mono ?_; rintro e w' ⟨rfl, rfl⟩)
    | (at_make
       refine make_bytes _ rfl (.const (.int .i64 0)) (.tmp 13) rfl 0 (l.length + n) _ _ rfl rfl rfl (by omega) (by omega) (by omega) ?_
       intro w1 hk1 hb1 hs1
       have ho1 := own_room hk1 (Nat.le_refl _) (by omega)
       clear hk1)
    | (at_builtin
       refine app_cap _ rfl (.tmp 15) (.tmp 16) rfl w.heap.size _ [] rfl ho1 A c w.heap.size l rfl HC.out (h.below hb1) (by simp; omega) (by omega) ?_
       intro v2 w2 ho2 hg2 hcp2
       have hcap : capOf v2 = l.length + n := hcp2 (by show 0 + l.length ≤ l.length + n; omega)
       clear hcp2
       have hb2 := below_grown hb1 hg2 ho1 (by omega)
       clear hg2 ho1 hb1))
  have ho : Own w2 w.heap.size v2 (l ++ (List.range 0).map (eb x n)) := by simpa using ho2
  clear ho2
  go_loopw [6, 20] (fun v i wr => ∃ k : Nat, k + 1 ≤ n ∧ i = .int .i64 k ∧ Hid (Own wr w.heap.size v (l ++ (List.range k).map (eb x n))) ∧ Hid (Below w.heap.size w wr) ∧ Hid (capOf v = l.length + n)) (fun _ i _ => n - (intOf i).toNat)
  case atStart => exact ⟨0, by omega, rfl, ho, hb2, hcap⟩
  case round =>
    obtain ⟨k, hk, rfl, hq, hb, hp⟩ := hrel
    have hd := digitU_any x k wr h0 h1 (by omega)
    have hd2 := dgt_lt x k
    have hz := hb.out.size
    by_cases hlt : k + 1 < n
    · have HE := Lib.hid (eb_lies wr x n k hlt)
      have HD := Lib.hid hd
      clear hd ho hb2 hcap
      go_wp2_with (first
        | (go_at_call 128; refine HD.out.mono ?_; rintro e w' ⟨rfl, rfl⟩)
        | (at_builtin
           refine app_cap _ rfl (.tmp 23) (.tmp 28) rfl w.heap.size _ _ rfl (hq.out.alloc _) (some ⟨wr.heap.size, 0, none⟩) 1 _ [eb x n k] rfl (by simp) HE.out (by simp; omega) (by simp; omega) ?_
           intro v3 w3 ho3 hg3 hcp3
           have hp3 := Lib.hid ((hcp3 (Nat.le_trans (m := l.length + n) (by simp only [List.length_append, List.length_map, List.length_range, List.length_cons, List.length_nil]; omega) (Nat.le_of_eq hp.out.symm))).trans hp.out)
           clear hcp3
           have hb3 := below_grown (hb.out.alloc hz _) hg3 (hq.out.alloc _) (by simp; omega)
           rw [enc_part] at ho3
           clear hg3))
      go_roundw
      case rel => exact ⟨k + 1, by omega, by go_num, ho3, hb3, hp3⟩
      case measure => simp [intOf]; omega
    · obtain rfl : n = k + 1 := by omega
      have HE := Lib.hid (eb_lies_last wr x (k + 1) k (Nat.le_refl _))
      have HD := Lib.hid hd
      clear hd ho hb2 hcap
      go_wp2_with (first
        | (go_at_call 128; refine HD.out.mono ?_; rintro e w' ⟨rfl, rfl⟩)
        | (at_builtin
           refine app_cap _ rfl (.tmp 31) (.tmp 36) rfl w.heap.size _ _ rfl (hq.out.alloc _) (some ⟨wr.heap.size, 0, none⟩) 1 _ [eb x (k + 1) k] rfl (by simp) HE.out (by simp; omega) (by simp; omega) ?_
           intro v3 w3 ho3 hg3 hcp3
           have hp3 := Lib.hid ((hcp3 (Nat.le_trans (m := l.length + (k + 1)) (by simp only [List.length_append, List.length_map, List.length_range, List.length_cons, List.length_nil]; omega) (Nat.le_of_eq hp.out.symm))).trans hp.out)
           clear hcp3
           have hb3 := below_grown (hb.out.alloc hz _) hg3 (hq.out.alloc _) (by simp; omega)
           rw [enc_part] at ho3
           clear hg3))
      go_ret
      exact ⟨v3, rfl, ho3, hb3, hp3⟩

set_option maxHeartbeats 1000000 in
theorem putS1_any (A : Option Addr) (c : Nat) (l : List UInt8) (x : Int) (w : World) (hc : A = none → c = 0) (h : Lies w w.heap.size A l) (hn : l.length ≤ 1099511627776) (h0 : -9223372036854775808 ≤ x) (h1 : x < 9223372036854775808) :
    Calls Tryz.prog 118 #[.slice A l.length c, .int .i64 x] w (MadeC w (l ++ nB true x) (l.length + size true x)) := by
  have hs := sizeS_any x w h0 h1
  have hs1 := size_pos true x
  have hs2 := size_le true x
  have hN : nB true x = enc x (size true x) := rfl
  rw [hN]
  clear hN
  generalize size true x = n at *
  have HS := Lib.hid hs
  have HC := Lib.hid hc
  clear hs hc
  go_enter Tryz.func118, Tryz.ntmps118
  go_wp2_with (first
    | (go_at_call 124; refine HS.out.mono ?_; rintro e w' ⟨rfl, rfl⟩)
    | (at_make
       refine make_bytes _ rfl (.const (.int .i64 0)) (.tmp 13) rfl 0 (l.length + n) _ _ rfl rfl rfl (by omega) (by omega) (by omega) ?_
       intro w1 hk1 hb1 hs1
       have ho1 := own_room hk1 (Nat.le_refl _) (by omega)
       clear hk1)
    | (at_builtin
       refine app_cap _ rfl (.tmp 15) (.tmp 16) rfl w.heap.size _ [] rfl ho1 A c w.heap.size l rfl HC.out (h.below hb1) (by simp; omega) (by omega) ?_
       intro v2 w2 ho2 hg2 hcp2
       have hcap : capOf v2 = l.length + n := hcp2 (by show 0 + l.length ≤ l.length + n; omega)
       clear hcp2
       have hb2 := below_grown hb1 hg2 ho1 (by omega)
       clear hg2 ho1 hb1))
  have ho : Own w2 w.heap.size v2 (l ++ (List.range 0).map (eb x n)) := by simpa using ho2
  clear ho2
  go_loopw [6, 20] (fun v i wr => ∃ k : Nat, k + 1 ≤ n ∧ i = .int .i64 k ∧ Hid (Own wr w.heap.size v (l ++ (List.range k).map (eb x n))) ∧ Hid (Below w.heap.size w wr) ∧ Hid (capOf v = l.length + n)) (fun _ i _ => n - (intOf i).toNat)
  case atStart => exact ⟨0, by omega, rfl, ho, hb2, hcap⟩
  case round =>
    obtain ⟨k, hk, rfl, hq, hb, hp⟩ := hrel
    have hd := digitS_any x k wr h0 h1 (by omega)
    have hd2 := dgt_lt x k
    have hz := hb.out.size
    by_cases hlt : k + 1 < n
    · have HE := Lib.hid (eb_lies wr x n k hlt)
      have HD := Lib.hid hd
      clear hd ho hb2 hcap
      go_wp2_with (first
        | (go_at_call 125; refine HD.out.mono ?_; rintro e w' ⟨rfl, rfl⟩)
        | (at_builtin
           refine app_cap _ rfl (.tmp 23) (.tmp 28) rfl w.heap.size _ _ rfl (hq.out.alloc _) (some ⟨wr.heap.size, 0, none⟩) 1 _ [eb x n k] rfl (by simp) HE.out (by simp; omega) (by simp; omega) ?_
           intro v3 w3 ho3 hg3 hcp3
           have hp3 := Lib.hid ((hcp3 (Nat.le_trans (m := l.length + n) (by simp only [List.length_append, List.length_map, List.length_range, List.length_cons, List.length_nil]; omega) (Nat.le_of_eq hp.out.symm))).trans hp.out)
           clear hcp3
           have hb3 := below_grown (hb.out.alloc hz _) hg3 (hq.out.alloc _) (by simp; omega)
           rw [enc_part] at ho3
           clear hg3))
      go_roundw
      case rel => exact ⟨k + 1, by omega, by go_num, ho3, hb3, hp3⟩
      case measure => simp [intOf]; omega
    · obtain rfl : n = k + 1 := by omega
      have HE := Lib.hid (eb_lies_last wr x (k + 1) k (Nat.le_refl _))
      have HD := Lib.hid hd
      clear hd ho hb2 hcap
      go_wp2_with (first
        | (go_at_call 125; refine HD.out.mono ?_; rintro e w' ⟨rfl, rfl⟩)
        | (at_builtin
           refine app_cap _ rfl (.tmp 31) (.tmp 36) rfl w.heap.size _ _ rfl (hq.out.alloc _) (some ⟨wr.heap.size, 0, none⟩) 1 _ [eb x (k + 1) k] rfl (by simp) HE.out (by simp; omega) (by simp; omega) ?_
           intro v3 w3 ho3 hg3 hcp3
           have hp3 := Lib.hid ((hcp3 (Nat.le_trans (m := l.length + (k + 1)) (by simp only [List.length_append, List.length_map, List.length_range, List.length_cons, List.length_nil]; omega) (Nat.le_of_eq hp.out.symm))).trans hp.out)
           clear hcp3
           have hb3 := below_grown (hb.out.alloc hz _) hg3 (hq.out.alloc _) (by simp; omega)
           rw [enc_part] at ho3
           clear hg3))
      go_ret
      exact ⟨v3, rfl, ho3, hb3, hp3⟩

set_option maxHeartbeats 400000 in
theorem putU_any (A : Option Addr) (c : Nat) (l : List UInt8) (x : Int) (w : World) (hc : A = none → c = 0) (h : Lies w w.heap.size A l) (hn : l.length ≤ 1099511627776) (h0 : 0 ≤ x) (h1 : x < 18446744073709551616) :
    Calls Tryz.prog 107 #[.slice A l.length c, .int .u64 x] w (MadeC w (l ++ nB false x) (l.length + size false x)) := by
  have HP := Lib.hid (putU1_any A c l x w hc h hn h0 h1)
  clear hc h hn
  go_enter Tryz.func107, Tryz.ntmps107
  go_wp2_with (go_at_call 121; refine HP.out.mono ?_; rintro e w' ⟨v, rfl, ho, hb, hp⟩; have HP2 := Lib.hid hp; clear hp)
  go_ret
  exact ⟨v, rfl, ho, hb, HP2⟩
set_option maxHeartbeats 400000 in
theorem putS_any (A : Option Addr) (c : Nat) (l : List UInt8) (x : Int) (w : World) (hc : A = none → c = 0) (h : Lies w w.heap.size A l) (hn : l.length ≤ 1099511627776) (h0 : -9223372036854775808 ≤ x) (h1 : x < 9223372036854775808) :
    Calls Tryz.prog 87 #[.slice A l.length c, .int .i64 x] w (MadeC w (l ++ nB true x) (l.length + size true x)) := by
  have HP := Lib.hid (putS1_any A c l x w hc h hn h0 h1)
  clear hc h hn
  go_enter Tryz.func87, Tryz.ntmps87
  go_wp2_with (go_at_call 118; refine HP.out.mono ?_; rintro e w' ⟨v, rfl, ho, hb, hp⟩; have HP2 := Lib.hid hp; clear hp)
  go_ret
  exact ⟨v, rfl, ho, hb, HP2⟩

end Go.Proofs.YtdnpoeegefkoiaaGreat

namespace Go.Proofs.YtdnpoeegefkoiaaGreat
open Go.RowKit

set_option maxHeartbeats 400000 in
theorem behind_any (A A2 : Option Addr) (c c2 : Nat) (l l2 : List UInt8) (w : World) (hc : A = none → c = 0) (hc2 : A2 = none → c2 = 0) (h : Lies w w.heap.size A l) (h2 : Lies w w.heap.size A2 l2)
    (hn : l.length ≤ 1099511627776) (hn2 : l2.length ≤ 300) :
    Calls Tryz.prog 123 #[.slice A l.length c, .slice A2 l2.length c2] w (MadeC w (l ++ l2) (l.length + l2.length)) := by
  have HC := Lib.hid (And.intro hc hc2)
  clear hc hc2
  go_enter Tryz.func123, Tryz.ntmps123
  go_wp2_with (first
    | (at_make
       refine make_bytes _ rfl (.const (.int .i64 0)) (.tmp 10) rfl 0 (l.length + l2.length) _ _ rfl rfl rfl (by omega) (by omega) (by omega) ?_
       intro w1 hk1 hb1 hs1
       have ho1 := own_room hk1 (Nat.le_refl _) (by omega)
       clear hk1)
    | (at_builtin
       refine app_cap _ rfl (.tmp 12) (.tmp 13) rfl w.heap.size _ [] rfl ho1 A c w.heap.size l rfl HC.out.1 (h.below hb1) (by simp; omega) (by omega) ?_
       intro v2 w2 ho2 hg2 hcp2
       have hcap : Hid (capOf v2 = l.length + l2.length) := hcp2 (by show 0 + l.length ≤ l.length + l2.length; omega)
       clear hcp2
       have hb2 := below_grown hb1 hg2 ho1 (by omega)
       clear hg2 ho1 hb1)
    | (at_builtin
       refine app_cap _ rfl (.tmp 15) (.tmp 16) rfl w.heap.size v2 ([] ++ l) rfl ho2 A2 c2 w.heap.size l2 rfl HC.out.2 (h2.below hb2) (by simp; omega) hb2.size ?_
       intro v3 w3 ho3 hg3 hcp3
       have hcap3 : Hid (capOf v3 = l.length + l2.length) := (hcp3 (Nat.le_trans (m := l.length + l2.length) (by simp) (Nat.le_of_eq hcap.out.symm))).trans hcap.out
       clear hcp3
       have hb3 := below_grown hb2 hg3 ho2 hb2.size
       clear hg3))
  go_ret
  exact ⟨v3, rfl, by simpa using ho3, hb3, hcap3⟩

end Go.Proofs.YtdnpoeegefkoiaaGreat

namespace Go.Proofs.YtdnpoeegefkoiaaGreat
open Go.RowKit

def PutR (w : World) (l : List UInt8) (er : Int) (e : Ending) (w' : World) : Prop :=
  ∃ v, e = .returned (.tuple #[v, .int .i64 er]) ∧ Own w' w.heap.size v l ∧ Below w.heap.size w w'

def plB (n : Nat) : List UInt8 := [UInt8.ofNat (n / 65536), UInt8.ofNat (n / 256 % 256), UInt8.ofNat (n % 256)]
def ppE (n : Int) : Int := if 0 ≤ n ∧ n < 16777216 then 0 else 1
def ppL (l : List UInt8) (n : Int) : List UInt8 := if 0 ≤ n ∧ n < 16777216 then l ++ plB n.toNat else []

theorem pp_bad {l : List UInt8} {n : Int} (h : ¬ (0 ≤ n ∧ n < 16777216)) : ppE n = 1 ∧ ppL l n = [] := by simp [ppE, ppL, h]
theorem pp_good {l : List UInt8} {n : Nat} (h : n < 16777216) : ppE n = 0 ∧ ppL l n = l ++ plB n := by simp [ppE, ppL]; omega

theorem plB_val (k : Nat) (hk : k < 16777216) : (plB k).map b8 = [.int .u8 ((k : Int) / 65536), .int .u8 ((k : Int) / 256 % 256), .int .u8 ((k : Int) % 256)] := by
  have h0 : (UInt8.ofNat (k / 65536)).toNat = k / 65536 := by simp; omega
  have h1 : (UInt8.ofNat (k / 256 % 256)).toNat = k / 256 % 256 := by simp
  have h2 : (UInt8.ofNat (k % 256)).toNat = k % 256 := by simp
  simp only [plB, List.map_cons, List.map_nil, b8, h0, h1, h2]
  simp

theorem plB_lies (w : World) (k : Nat) (hk : k < 16777216) : Lies (w.alloc (.cells #[.int .u8 ((k : Int) / 65536), .int .u8 ((k : Int) / 256 % 256), .int .u8 ((k : Int) % 256)] 118))
    (w.alloc (.cells #[.int .u8 ((k : Int) / 65536), .int .u8 ((k : Int) / 256 % 256), .int .u8 ((k : Int) % 256)] 118)).heap.size (some ⟨w.heap.size, 0, none⟩) (plB k) :=
  lies_lit w 118 (plB k) _ (by rw [plB_val k hk])

set_option maxHeartbeats 400000 in
theorem putPlace_any (A : Option Addr) (c : Nat) (l : List UInt8) (n : Int) (w : World) (hc : A = none → c = 0) (h : Lies w w.heap.size A l) (hn : l.length ≤ 1099511627776) :
    Calls Tryz.prog 112 #[.slice A l.length c, .int .i64 n] w (PutR w (ppL l n) (ppE n)) := by
  by_cases hi : 0 ≤ n ∧ n < 16777216
  · obtain ⟨k, rfl⟩ : ∃ k : Nat, n = k := ⟨n.toNat, by omega⟩
    have hk : k < 16777216 := by omega
    rw [(pp_good (l := l) hk).1, (pp_good (l := l) hk).2]
    have HC := Lib.hid hc
    have t1 : decide ((k : Int) < 0) = false := by simp
    have t2 : decide ((16777216 : Int) ≤ (k : Int)) = false := by simp; omega
    clear hc hi
    go_enter Tryz.func112, Tryz.ntmps112
    go_wp2
    go_loopw [14] (fun i wr => (i = .int .i64 0 ∧ wr = w.alloc (.cells #[.int .u8 0, .int .u8 0, .int .u8 0] 118)) ∨ (i = .int .i64 1 ∧ wr = w.alloc (.cells #[.int .u8 0, .int .u8 0, .int .u8 (k % 256)] 118)) ∨
        (i = .int .i64 2 ∧ wr = w.alloc (.cells #[.int .u8 0, .int .u8 (k / 256 % 256), .int .u8 (k % 256)] 118)) ∨ (i = .int .i64 3 ∧ wr = w.alloc (.cells #[.int .u8 (k / 65536), .int .u8 (k / 256 % 256), .int .u8 (k % 256)] 118))) (fun i _ => 3 - (intOf i).toNat)
    case atStart => exact .inl ⟨rfl, rfl⟩
    case round =>
      rcases hrel with ⟨rfl, rfl⟩ | ⟨rfl, rfl⟩ | ⟨rfl, rfl⟩ | ⟨rfl, rfl⟩
      · go_wp2
        go_roundw
        case rel => exact .inr (.inl ⟨rfl, trivial⟩)
        case measure => simp [intOf]
      · go_wp2
        go_roundw
        case rel => exact .inr (.inr (.inl ⟨rfl, trivial⟩))
        case measure => simp [intOf]
      · go_wp2
        go_roundw
        case rel => exact .inr (.inr (.inr ⟨rfl, trivial⟩))
        case measure => simp [intOf]
      · have hb := behind_any A (some ⟨w.heap.size, 0, none⟩) c 3 l (plB k) _ HC.out (by simp) ((h.alloc (Nat.le_refl _) _).more (by simp)) (plB_lies w k hk) (by omega) (by simp [plB])
        have HB := Lib.hid hb
        clear hb
        go_wp2_with (go_at_call 123; refine HB.out.mono ?_; rintro e w' ⟨v, rfl, ho, hb, hcp⟩; clear hcp)
        go_ret2
        exact ⟨v, rfl, ho.base (by simp), ((Below.refl _ _).alloc (Nat.le_refl _) _).trans (hb.mono (by simp))⟩
  · rw [(pp_bad (l := l) hi).1, (pp_bad (l := l) hi).2]
    by_cases h1 : 0 ≤ n
    · have h2 : ¬ n < 16777216 := by omega
      clear hi
      go_enter Tryz.func112, Tryz.ntmps112
      go_wp2
      go_ret2
      exact ⟨_, rfl, Own.nil _ _, Below.refl _ _⟩
    · clear hi
      go_enter Tryz.func112, Tryz.ntmps112
      go_wp2
      go_ret2
      exact ⟨_, rfl, Own.nil _ _, Below.refl _ _⟩

end Go.Proofs.YtdnpoeegefkoiaaGreat

namespace Go.Proofs.YtdnpoeegefkoiaaGreat
open Go.RowKit

/-- a part's bytes -/
def bytesP : Pt → Ins → List UInt8
  | .op, i => [UInt8.ofNat i.o.toNat]
  | .reg, i => [UInt8.ofNat i.r.toNat]
  | .both, i => [UInt8.ofNat (i.r * 16 + i.s).toNat]
  | .third, i => [UInt8.ofNat i.t.toNat]
  | .num, i => nB true i.n
  | .many, i => nB false i.m
  | .to, i => plB i.n.toNat
  | .how, i => [UInt8.ofNat i.n.toNat]

def PutsR (p : Pt) (i : Ins) (v : Value) (l : List UInt8) (B : Nat) (w : World) (e : Ending) (w' : World) : Prop :=
  ∃ v', e = .returned v' ∧ Own w' B v' (l ++ bytesP p i) ∧ w.grownBy w' v.ownBlock

theorem bytesP_len (p : Pt) (i : Ins) : (bytesP p i).length ≤ 10 := by
  cases p <;> simp [bytesP, nB_len, size_le, plB]

theorem byte_box (w : World) (o : Obj) (z : Int) (h0 : 0 ≤ z) (h1 : z < 256) : Lies ((w.alloc o).alloc (.cells #[.int .u8 z] 5)) ((w.alloc o).alloc (.cells #[.int .u8 z] 5)).heap.size (some ⟨w.heap.size + 1, 0, none⟩) [UInt8.ofNat z.toNat] := by
  have := lies_lit (w.alloc o) 5 [UInt8.ofNat z.toNat] #[.int .u8 z] (by
    have h : ((UInt8.ofNat z.toNat).toNat : Int) = z := by simp; omega
    simp only [List.map_cons, List.map_nil, b8, h])
  simpa using this
theorem grown_below {w w' : World} (h : Below w.heap.size w w') (row : Option Nat) : w.grownBy w' row := ⟨h.os, h.tape, h.output, h.size, fun k hk _ => h.block k hk⟩
theorem grown_boxes {w w' : World} {o o2 : Obj} {row : Option Nat} (h : ((w.alloc o).alloc o2).grownBy w' row) : w.grownBy w' row :=
  ((grown_below (below_box2 w o o2) row).trans h)
theorem grown_box {w w' : World} {o : Obj} {row : Option Nat} (h : (w.alloc o).grownBy w' row) : w.grownBy w' row :=
  ((grown_below (below_box w o) row).trans h)

set_option maxRecDepth 100000 in
set_option maxHeartbeats 400000 in
theorem put_reg (i : Ins) (v : Value) (l : List UInt8) (B : Nat) (w : World) (_hr : i.Rng) (hf : fitsP .reg i = true) (ho : Own w B v l) (hB : B ≤ w.heap.size) (hn : l.length ≤ 1099511627776) :
    Calls Tryz.prog 82 #[v, iv i] w (PutsR .reg i v l B w) := by
  have h : 0 ≤ i.r ∧ i.r < 16 := of_decide_eq_true hf
  have HE := Lib.hid (byte_box w (.cells (ic i) 53) (i.r) (by omega) (by omega))
  clear hf
  unfold iv ic
  go_enter Tryz.func82, Tryz.ntmps82
  go_wp2_with (at_builtin; refine app_slice _ rfl (.tmp 5) (.tmp 9) rfl B _ l rfl ((ho.alloc _).alloc _) (some ⟨w.heap.size + 1, 0, none⟩) 1 _ [UInt8.ofNat (i.r).toNat] rfl (by simp) HE.out (by simp; omega) (by simp; omega) ?_; intro v3 w3 ho3 hg3)
  go_ret
  exact ⟨v3, rfl, ho3, grown_boxes hg3⟩
set_option maxRecDepth 100000 in
set_option maxHeartbeats 400000 in
theorem put_third (i : Ins) (v : Value) (l : List UInt8) (B : Nat) (w : World) (_hr : i.Rng) (hf : fitsP .third i = true) (ho : Own w B v l) (hB : B ≤ w.heap.size) (hn : l.length ≤ 1099511627776) :
    Calls Tryz.prog 102 #[v, iv i] w (PutsR .third i v l B w) := by
  have h : 0 ≤ i.t ∧ i.t < 16 := of_decide_eq_true hf
  have HE := Lib.hid (byte_box w (.cells (ic i) 53) (i.t) (by omega) (by omega))
  clear hf
  unfold iv ic
  go_enter Tryz.func102, Tryz.ntmps102
  go_wp2_with (at_builtin; refine app_slice _ rfl (.tmp 5) (.tmp 9) rfl B _ l rfl ((ho.alloc _).alloc _) (some ⟨w.heap.size + 1, 0, none⟩) 1 _ [UInt8.ofNat (i.t).toNat] rfl (by simp) HE.out (by simp; omega) (by simp; omega) ?_; intro v3 w3 ho3 hg3)
  go_ret
  exact ⟨v3, rfl, ho3, grown_boxes hg3⟩
set_option maxRecDepth 100000 in
set_option maxHeartbeats 400000 in
theorem put_how (i : Ins) (v : Value) (l : List UInt8) (B : Nat) (w : World) (_hr : i.Rng) (hf : fitsP .how i = true) (ho : Own w B v l) (hB : B ≤ w.heap.size) (hn : l.length ≤ 1099511627776) :
    Calls Tryz.prog 116 #[v, iv i] w (PutsR .how i v l B w) := by
  have h : 2 ≤ i.n ∧ i.n ≤ 4 := of_decide_eq_true hf
  have HE := Lib.hid (byte_box w (.cells (ic i) 53) (i.n) (by omega) (by omega))
  clear hf
  unfold iv ic
  go_enter Tryz.func116, Tryz.ntmps116
  go_wp2_with (at_builtin; refine app_slice _ rfl (.tmp 5) (.tmp 9) rfl B _ l rfl ((ho.alloc _).alloc _) (some ⟨w.heap.size + 1, 0, none⟩) 1 _ [UInt8.ofNat (i.n).toNat] rfl (by simp) HE.out (by simp; omega) (by simp; omega) ?_; intro v3 w3 ho3 hg3)
  go_ret
  exact ⟨v3, rfl, ho3, grown_boxes hg3⟩
set_option maxRecDepth 100000 in
set_option maxHeartbeats 400000 in
theorem put_op (i : Ins) (v : Value) (l : List UInt8) (B : Nat) (w : World) (hr : i.Rng) (_hf : fitsP .op i = true) (ho : Own w B v l) (hB : B ≤ w.heap.size) (hn : l.length ≤ 1099511627776) :
    Calls Tryz.prog 98 #[v, iv i] w (PutsR .op i v l B w) := by
  have h0 := hr.o0
  have h1 := hr.o1
  have HE := Lib.hid (byte_box w (.cells (ic i) 53) (i.o) (by omega) (by omega))
  clear _hf
  unfold iv ic
  go_enter Tryz.func98, Tryz.ntmps98
  go_wp2_with (at_builtin; refine app_slice _ rfl (.tmp 5) (.tmp 8) rfl B _ l rfl ((ho.alloc _).alloc _) (some ⟨w.heap.size + 1, 0, none⟩) 1 _ [UInt8.ofNat (i.o).toNat] rfl (by simp) HE.out (by simp; omega) (by simp; omega) ?_; intro v3 w3 ho3 hg3)
  go_ret
  exact ⟨v3, rfl, ho3, grown_boxes hg3⟩
set_option maxRecDepth 100000 in
set_option maxHeartbeats 400000 in
theorem put_both (i : Ins) (v : Value) (l : List UInt8) (B : Nat) (w : World) (_ : i.Rng) (hf : fitsP .both i = true) (ho : Own w B v l) (hB : B ≤ w.heap.size) (hn : l.length ≤ 1099511627776) :
    Calls Tryz.prog 92 #[v, iv i] w (PutsR .both i v l B w) := by
  have hf' : isR i.r = true ∧ isR i.s = true := by simpa [fitsP] using hf
  have h1 : 0 ≤ i.r ∧ i.r < 16 := of_decide_eq_true hf'.1
  have h2 : 0 ≤ i.s ∧ i.s < 16 := of_decide_eq_true hf'.2
  have HE := Lib.hid (byte_box w (.cells (ic i) 53) (i.r * 16 + i.s) (by omega) (by omega))
  have hp := fun w => pair_any i.r i.s w
  have hb : pairB i.r i.s = true := by simp [pairB]; omega
  have hv : pairV i.r i.s = i.r * 16 + i.s := by simp [pairV, hb]
  rw [hb, hv] at hp
  have HP := Lib.hid hp
  clear hf hf' hp hb hv
  unfold iv ic
  go_enter Tryz.func92, Tryz.ntmps92
  go_wp2_with (first
    | (go_at_call 93; refine (HP.out _).mono ?_; rintro e w' ⟨rfl, rfl⟩)
    | (at_builtin; refine app_slice _ rfl (.tmp 15) (.tmp 17) rfl B _ l rfl ((ho.alloc _).alloc _) (some ⟨w.heap.size + 1, 0, none⟩) 1 _ [UInt8.ofNat (i.r * 16 + i.s).toNat] rfl (by simp) HE.out (by simp; omega) (by simp; omega) ?_; intro v3 w3 ho3 hg3))
  go_ret
  exact ⟨v3, rfl, ho3, grown_boxes hg3⟩
set_option maxRecDepth 100000 in
set_option maxHeartbeats 400000 in
theorem put_num (i : Ins) (v : Value) (l : List UInt8) (B : Nat) (w : World) (hr : i.Rng) (_hf : fitsP .num i = true) (ho : Own w B v l) (hB : B ≤ w.heap.size) (hn : l.length ≤ 1099511627776) :
    Calls Tryz.prog 86 #[v, iv i] w (PutsR .num i v l B w) := by
  have h0 := hr.n0
  have h1 := hr.n1
  obtain ⟨A, c, rfl, _, hA, hL⟩ := (ho.alloc (.cells (ic i) 53)).form
  have HP := Lib.hid (putS_any A c l i.n (w.alloc (.cells (ic i) 53)) hA hL hn h0 h1)
  clear _hf hA hL ho
  unfold iv ic
  go_enter Tryz.func86, Tryz.ntmps86
  go_wp2_with (go_at_call 87; refine HP.out.mono ?_; rintro e w' ⟨v', rfl, ho', hb', hc'⟩; clear hc')
  go_ret
  exact ⟨v', rfl, ho'.base (by simp; omega), grown_box (grown_below hb' _)⟩
set_option maxRecDepth 100000 in
set_option maxHeartbeats 400000 in
theorem put_many (i : Ins) (v : Value) (l : List UInt8) (B : Nat) (w : World) (_hr : i.Rng) (hf : fitsP .many i = true) (ho : Own w B v l) (hB : B ≤ w.heap.size) (hn : l.length ≤ 1099511627776) :
    Calls Tryz.prog 106 #[v, iv i] w (PutsR .many i v l B w) := by
  have h : 1 ≤ i.m ∧ i.m ≤ 65536 := of_decide_eq_true hf
  obtain ⟨A, c, rfl, _, hA, hL⟩ := (ho.alloc (.cells (ic i) 53)).form
  have HP := Lib.hid (putU_any A c l i.m (w.alloc (.cells (ic i) 53)) hA hL hn (by omega) (by omega))
  clear hf hA hL ho
  unfold iv ic
  go_enter Tryz.func106, Tryz.ntmps106
  go_wp2_with (go_at_call 107; refine HP.out.mono ?_; rintro e w' ⟨v', rfl, ho', hb', hc'⟩; clear hc')
  go_ret
  exact ⟨v', rfl, ho'.base (by simp; omega), grown_box (grown_below hb' _)⟩
set_option maxRecDepth 100000 in
set_option maxHeartbeats 400000 in
theorem put_to (i : Ins) (v : Value) (l : List UInt8) (B : Nat) (w : World) (_ : i.Rng) (hf : fitsP .to i = true) (ho : Own w B v l) (hB : B ≤ w.heap.size) (hn : l.length ≤ 1099511627776) :
    Calls Tryz.prog 111 #[v, iv i] w (PutsR .to i v l B w) := by
  have h : 0 ≤ i.n ∧ i.n < 16777216 := of_decide_eq_true hf
  obtain ⟨A, c, rfl, _, hA, hL⟩ := (ho.alloc (.cells (ic i) 53)).form
  have hp := putPlace_any A c l i.n (w.alloc (.cells (ic i) 53)) hA hL hn
  rw [show ppL l i.n = l ++ plB i.n.toNat from by simp [ppL, h], show ppE i.n = 0 from by simp [ppE, h]] at hp
  have HP := Lib.hid hp
  clear hf hA hL ho hp
  unfold iv ic
  go_enter Tryz.func111, Tryz.ntmps111
  go_wp2_with (go_at_call 112; refine HP.out.mono ?_; rintro e w' ⟨v', rfl, ho', hb'⟩)
  go_ret
  exact ⟨v', rfl, ho'.base (by simp; omega), grown_box (grown_below hb' _)⟩

theorem put_any (p : Pt) (i : Ins) (v : Value) (l : List UInt8) (B : Nat) (w : World) (hr : i.Rng) (hf : fitsP p i = true) (ho : Own w B v l) (hB : B ≤ w.heap.size) (hn : l.length ≤ 1099511627776) :
    Calls Tryz.prog (pF p) #[v, iv i] w (PutsR p i v l B w) := by
  cases p
  · exact put_op i v l B w hr hf ho hB hn
  · exact put_reg i v l B w hr hf ho hB hn
  · exact put_both i v l B w hr hf ho hB hn
  · exact put_third i v l B w hr hf ho hB hn
  · exact put_num i v l B w hr hf ho hB hn
  · exact put_many i v l B w hr hf ho hB hn
  · exact put_to i v l B w hr hf ho hB hn
  · exact put_how i v l B w hr hf ho hB hn

end Go.Proofs.YtdnpoeegefkoiaaGreat
