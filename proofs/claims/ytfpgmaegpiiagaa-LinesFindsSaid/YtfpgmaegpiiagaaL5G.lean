/-
  Contract of lines.moved.
-/
import Derived.Test.YtfpgmaegpiiagaaL5D
import Derived.Test.YtfpgmaegpiiagaaL2F
import Derived.Test.YtfpgmaegpiiagaaKR
namespace Go.Proofs.Ytfpgmaegpiiagaa
open Go.RowKit

/-- what is answered of a step -/
def mvV (o : Option (Rw × Nat)) (k : Nat) : Value := match o with
  | some (p, n) => .tuple #[rv p, .int .i64 ((k : Int) + 1 + n), .bool true]
  | none => .tuple #[rv r0, .int .i64 0, .bool false]
def MovedR (q : Rw) (s : Nat) (t : List UInt8) (k : Nat) (w : World) (e : Ending) (w' : World) : Prop := e = .returned (mvV (mv q s t) k) ∧ Below w.heap.size w w'

theorem row_size' : (Try.prog.info? 42).map (·.size) = some 2 := by kernel_rfl
theorem row_back3 {fn : Func} {p u v : Tmp} (h : fn.results = #[.cell p 42, .tmp u, .tmp v]) {tmps : Array Value} {w : World} {g : Nat} {r : Rw} (hp : tmps.getD p undef = .pointer (some ⟨g, 0, none⟩))
    (hg : RowAt w g r) : (results fn tmps).run Try.prog w = .ok (.tuple #[rv r, tmps.getD u undef, tmps.getD v undef]) w :=
  res_row_tmp2 h tmps w g _ _ _ _ hp hg Try.underlying42 rfl row_size'

theorem mv_chk (p : Rw) (n k : Nat) : mvV (chk p n) k = if inF p then .tuple #[rv p, .int .i64 ((k : Int) + 1 + n), .bool true] else .tuple #[rv r0, .int .i64 0, .bool false] := by
  unfold chk
  split <;> rfl

/-! the arms -/
theorem heap2 (w : World) (o o2 : Obj) : ((w.alloc o).alloc o2).heap[w.heap.size + 1]? = some o2 := by
  have := heap_alloc_new (w.alloc o) o2
  simpa using this
def mvG (p : Rw) (n k : Nat) : Value := .tuple #[rv p, .int .i64 ((k : Int) + 1 + n), .bool true]
def mvN : Value := .tuple #[rv r0, .int .i64 0, .bool false]
theorem mayB_iff {p : Rw} : inF p ↔ mayB p.pc = true ∧ mayB p.pt = true := by
  unfold inF mayB
  simp only [decide_eq_true_eq]
  constructor
  · rintro ⟨a, b, c, d⟩; exact ⟨⟨a, b⟩, c, d⟩
  · rintro ⟨⟨a, b⟩, c, d⟩; exact ⟨a, b, c, d⟩
theorem chk_good {p : Rw} {n k : Nat} (h1 : mayB p.pc = true) (h2 : mayB p.pt = true) : mvV (chk p n) k = mvG p n k := by
  rw [mv_chk, if_pos (mayB_iff.2 ⟨h1, h2⟩)]; rfl
theorem chk_bad1 {p : Rw} {n k : Nat} (h1 : mayB p.pc = false) : mvV (chk p n) k = mvN := by
  rw [mv_chk, if_neg (fun h => by have := (mayB_iff.1 h).1; rw [h1] at this; cases this)]; rfl
theorem chk_bad2 {p : Rw} {n k : Nat} (h1 : mayB p.pt = false) : mvV (chk p n) k = mvN := by
  rw [mv_chk, if_neg (fun h => by have := (mayB_iff.1 h).2; rw [h1] at this; cases this)]; rfl

set_option maxRecDepth 100000 in
set_option maxHeartbeats 2000000 in
theorem moved_3 (q : Rw) (A : Option Addr) (c k : Nat) (l : List UInt8) (w : World) (h : Lies w w.heap.size A l) (hn : l.length ≤ 1099511627776) (hk : k < l.length) (V : Value) (hq : inF q) (hs : l[k].toNat = 3)
    (G1 : mayB (q.pc) = true → mayB (q.pt) = true → V = mvG ⟨q.pc, q.pt⟩ 0 k) (G2 : mayB (q.pc) = false → V = mvN) (G3 : mayB (q.pt) = false → V = mvN) :
    Calls Try.prog 37 #[rv q, .slice A l.length c, .int .i64 k] w fun e w' => e = .returned V ∧ Below w.heap.size w w' := by
  obtain ⟨g, o, rfl, hg, c0⟩ := h.at_ hk
  rw [hs] at c0
  obtain ⟨q0, q1, q2, q3⟩ := hq
  unfold rv rK
  have hm1 := fun w => may_any (q.pc) w
  have hm2 := fun w => may_any (q.pt) w
  cases h1 : mayB (q.pc)
  · rw [h1] at hm1
    have HM1 := Lib.hid hm1
    have HG := Lib.hid (G2 h1)
    clear hm1 hm2 h1 G1 G2 G3
    go_enter Try.func37, Try.ntmps37
    go_wp2_with fail
    refine (HM1.out _).mono ?_; rintro e w' ⟨rfl, rfl⟩
    go_wp2_with fail
    refine bodyPost_ret (row_back3 (r := r0) rfl rfl (heap2 _ _ _)) rfl ?_
    exact ⟨by rw [HG.out]; rfl, below_new2 _ _ _⟩
  · rw [h1] at hm1
    have HM1 := Lib.hid hm1
    cases h2 : mayB (q.pt)
    · rw [h2] at hm2
      have HM2 := Lib.hid hm2
      have HG := Lib.hid (G3 h2)
      clear hm1 hm2 h1 h2 G1 G2 G3
      go_enter Try.func37, Try.ntmps37
      go_wp2_with fail
      refine (HM1.out _).mono ?_; rintro e w' ⟨rfl, rfl⟩
      go_wp2_with fail
      refine (HM2.out _).mono ?_; rintro e w' ⟨rfl, rfl⟩
      go_wp2_with fail
      refine bodyPost_ret (row_back3 (r := r0) rfl rfl (heap2 _ _ _)) rfl ?_
      exact ⟨by rw [HG.out]; rfl, below_new2 _ _ _⟩
    · rw [h2] at hm2
      have HM2 := Lib.hid hm2
      have HG := Lib.hid (G1 h1 h2)
      clear hm1 hm2 h1 h2 G1 G2 G3
      go_enter Try.func37, Try.ntmps37
      go_wp2_with fail
      refine (HM1.out _).mono ?_; rintro e w' ⟨rfl, rfl⟩
      go_wp2_with fail
      refine (HM2.out _).mono ?_; rintro e w' ⟨rfl, rfl⟩
      go_wp2_with fail
      refine bodyPost_ret (row_back3 (r := ⟨q.pc, q.pt⟩) rfl rfl (heap2 _ _ _)) rfl ?_
      exact ⟨by rw [HG.out]; simp [mvG, rv, rK], below_new2 _ _ _⟩

set_option maxRecDepth 100000 in
set_option maxHeartbeats 2000000 in
theorem moved_4 (q : Rw) (A : Option Addr) (c k s : Nat) (l : List UInt8) (w : World) (h : Lies w w.heap.size A l) (hn : l.length ≤ 1099511627776) (hk : k < l.length) (V : Value) (hq : inF q) (hs : l[k].toNat = s) (hs4 : 4 ≤ s) (hs5 : s < 256)
    (G1 : mayB (q.pc + ((s : Int) - 4) / 12) = true → mayB (q.pt + (((s : Int) - 4) % 12 - 4)) = true → V = mvG ⟨q.pc + ((s : Int) - 4) / 12, q.pt + (((s : Int) - 4) % 12 - 4)⟩ 0 k) (G2 : mayB (q.pc + ((s : Int) - 4) / 12) = false → V = mvN) (G3 : mayB (q.pt + (((s : Int) - 4) % 12 - 4)) = false → V = mvN) :
    Calls Try.prog 37 #[rv q, .slice A l.length c, .int .i64 k] w fun e w' => e = .returned V ∧ Below w.heap.size w w' := by
  obtain ⟨g, o, rfl, hg, c0⟩ := h.at_ hk
  rw [hs] at c0
  obtain ⟨q0, q1, q2, q3⟩ := hq
  unfold rv rK
  have hm1 := fun w => may_any (q.pc + ((s : Int) - 4) / 12) w
  have hm2 := fun w => may_any (q.pt + (((s : Int) - 4) % 12 - 4)) w
  cases h1 : mayB (q.pc + ((s : Int) - 4) / 12)
  · rw [h1] at hm1
    have HM1 := Lib.hid hm1
    have HG := Lib.hid (G2 h1)
    clear hm1 hm2 h1 G1 G2 G3
    go_enter Try.func37, Try.ntmps37
    go_wp2_with fail
    refine (HM1.out _).mono ?_; rintro e w' ⟨rfl, rfl⟩
    go_wp2_with fail
    refine bodyPost_ret (row_back3 (r := r0) rfl rfl (heap2 _ _ _)) rfl ?_
    exact ⟨by rw [HG.out]; rfl, below_new2 _ _ _⟩
  · rw [h1] at hm1
    have HM1 := Lib.hid hm1
    cases h2 : mayB (q.pt + (((s : Int) - 4) % 12 - 4))
    · rw [h2] at hm2
      have HM2 := Lib.hid hm2
      have HG := Lib.hid (G3 h2)
      clear hm1 hm2 h1 h2 G1 G2 G3
      go_enter Try.func37, Try.ntmps37
      go_wp2_with fail
      refine (HM1.out _).mono ?_; rintro e w' ⟨rfl, rfl⟩
      go_wp2_with fail
      refine (HM2.out _).mono ?_; rintro e w' ⟨rfl, rfl⟩
      go_wp2_with fail
      refine bodyPost_ret (row_back3 (r := r0) rfl rfl (heap2 _ _ _)) rfl ?_
      exact ⟨by rw [HG.out]; rfl, below_new2 _ _ _⟩
    · rw [h2] at hm2
      have HM2 := Lib.hid hm2
      have HG := Lib.hid (G1 h1 h2)
      clear hm1 hm2 h1 h2 G1 G2 G3
      go_enter Try.func37, Try.ntmps37
      go_wp2_with fail
      refine (HM1.out _).mono ?_; rintro e w' ⟨rfl, rfl⟩
      go_wp2_with fail
      refine (HM2.out _).mono ?_; rintro e w' ⟨rfl, rfl⟩
      go_wp2_with fail
      refine bodyPost_ret (row_back3 (r := ⟨q.pc + ((s : Int) - 4) / 12, q.pt + (((s : Int) - 4) % 12 - 4)⟩) rfl rfl (heap2 _ _ _)) rfl ?_
      exact ⟨by rw [HG.out]; simp [mvG, rv, rK], below_new2 _ _ _⟩

set_option maxRecDepth 100000 in
set_option maxHeartbeats 2000000 in
theorem moved_1 (q : Rw) (A : Option Addr) (c k n : Nat) (x : Int) (l : List UInt8) (w : World) (h : Lies w w.heap.size A l) (hn : l.length ≤ 1099511627776) (hk : k < l.length) (V : Value) (hq : inF q) (hs : l[k].toNat = 1) (hx0 : 0 ≤ x) (hx1 : x ≤ 16777216) (HU : ∀ w2, Below w.heap.size w w2 → Calls Try.prog 45 #[.slice A l.length c, .int .i64 ((k : Int) + 1)] w2 fun e w' => e = .returned (.tuple #[.int .u64 x, .int .i64 ((k : Int) + 1 + n), .int .i64 0]) ∧ w2 = w')
    (G1 : mayB (q.pc + x) = true → mayB (q.pt) = true → V = mvG ⟨q.pc + x, q.pt⟩ n k) (G2 : mayB (q.pc + x) = false → V = mvN) (G3 : mayB (q.pt) = false → V = mvN) :
    Calls Try.prog 37 #[rv q, .slice A l.length c, .int .i64 k] w fun e w' => e = .returned V ∧ Below w.heap.size w w' := by
  obtain ⟨g, o, rfl, hg, c0⟩ := h.at_ hk
  rw [hs] at c0
  obtain ⟨q0, q1, q2, q3⟩ := hq
  unfold rv rK
  have HU' := Lib.hid HU
  clear HU
  have hm1 := fun w => may_any (q.pc + x) w
  have hm2 := fun w => may_any (q.pt) w
  cases h1 : mayB (q.pc + x)
  · rw [h1] at hm1
    have HM1 := Lib.hid hm1
    have HG := Lib.hid (G2 h1)
    clear hm1 hm2 h1 G1 G2 G3
    go_enter Try.func37, Try.ntmps37
    go_wp2_with (go_at_call 45; refine (HU'.out _ (below_new2 _ _ _)).mono ?_; rintro e w' ⟨rfl, rfl⟩)
    refine (HM1.out _).mono ?_; rintro e w' ⟨rfl, rfl⟩
    go_wp2_with fail
    refine bodyPost_ret (row_back3 (r := r0) rfl rfl (heap2 _ _ _)) rfl ?_
    exact ⟨by rw [HG.out]; rfl, below_new2 _ _ _⟩
  · rw [h1] at hm1
    have HM1 := Lib.hid hm1
    cases h2 : mayB (q.pt)
    · rw [h2] at hm2
      have HM2 := Lib.hid hm2
      have HG := Lib.hid (G3 h2)
      clear hm1 hm2 h1 h2 G1 G2 G3
      go_enter Try.func37, Try.ntmps37
      go_wp2_with (go_at_call 45; refine (HU'.out _ (below_new2 _ _ _)).mono ?_; rintro e w' ⟨rfl, rfl⟩)
      refine (HM1.out _).mono ?_; rintro e w' ⟨rfl, rfl⟩
      go_wp2_with fail
      refine (HM2.out _).mono ?_; rintro e w' ⟨rfl, rfl⟩
      go_wp2_with fail
      refine bodyPost_ret (row_back3 (r := r0) rfl rfl (heap2 _ _ _)) rfl ?_
      exact ⟨by rw [HG.out]; rfl, below_new2 _ _ _⟩
    · rw [h2] at hm2
      have HM2 := Lib.hid hm2
      have HG := Lib.hid (G1 h1 h2)
      clear hm1 hm2 h1 h2 G1 G2 G3
      go_enter Try.func37, Try.ntmps37
      go_wp2_with (go_at_call 45; refine (HU'.out _ (below_new2 _ _ _)).mono ?_; rintro e w' ⟨rfl, rfl⟩)
      refine (HM1.out _).mono ?_; rintro e w' ⟨rfl, rfl⟩
      go_wp2_with fail
      refine (HM2.out _).mono ?_; rintro e w' ⟨rfl, rfl⟩
      go_wp2_with fail
      refine bodyPost_ret (row_back3 (r := ⟨q.pc + x, q.pt⟩) rfl rfl (heap2 _ _ _)) rfl ?_
      exact ⟨by rw [HG.out]; rfl, below_new2 _ _ _⟩

set_option maxRecDepth 100000 in
set_option maxHeartbeats 2000000 in
theorem moved_2 (q : Rw) (A : Option Addr) (c k n : Nat) (x : Int) (l : List UInt8) (w : World) (h : Lies w w.heap.size A l) (hn : l.length ≤ 1099511627776) (hk : k < l.length) (V : Value) (hq : inF q) (hs : l[k].toNat = 2) (HU : ∀ w2, Below w.heap.size w w2 → Calls Try.prog 46 #[.slice A l.length c, .int .i64 ((k : Int) + 1)] w2 fun e w' => e = .returned (.tuple #[.int .i64 x, .int .i64 ((k : Int) + 1 + n), .int .i64 0]) ∧ w2 = w')
    (G1 : mayB (q.pc) = true → mayB (wrap64 (q.pt + x)) = true → V = mvG ⟨q.pc, wrap64 (q.pt + x)⟩ n k) (G2 : mayB (q.pc) = false → V = mvN) (G3 : mayB (wrap64 (q.pt + x)) = false → V = mvN) :
    Calls Try.prog 37 #[rv q, .slice A l.length c, .int .i64 k] w fun e w' => e = .returned V ∧ Below w.heap.size w w' := by
  obtain ⟨g, o, rfl, hg, c0⟩ := h.at_ hk
  rw [hs] at c0
  obtain ⟨q0, q1, q2, q3⟩ := hq
  unfold rv rK
  have HU' := Lib.hid HU
  clear HU
  have hm1 := fun w => may_any (q.pc) w
  have hm2 := fun w => may_any (wrap64 (q.pt + x)) w
  cases h1 : mayB (q.pc)
  · rw [h1] at hm1
    have HM1 := Lib.hid hm1
    have HG := Lib.hid (G2 h1)
    clear hm1 hm2 h1 G1 G2 G3
    go_enter Try.func37, Try.ntmps37
    go_wp2_with (go_at_call 46; refine (HU'.out _ (below_new2 _ _ _)).mono ?_; rintro e w' ⟨rfl, rfl⟩)
    refine (HM1.out _).mono ?_; rintro e w' ⟨rfl, rfl⟩
    go_wp2_with fail
    refine bodyPost_ret (row_back3 (r := r0) rfl rfl (heap2 _ _ _)) rfl ?_
    exact ⟨by rw [HG.out]; rfl, below_new2 _ _ _⟩
  · rw [h1] at hm1
    have HM1 := Lib.hid hm1
    cases h2 : mayB (wrap64 (q.pt + x))
    · rw [h2] at hm2
      have HM2 := Lib.hid hm2
      have HG := Lib.hid (G3 h2)
      clear hm1 hm2 h1 h2 G1 G2 G3
      go_enter Try.func37, Try.ntmps37
      go_wp2_with (go_at_call 46; refine (HU'.out _ (below_new2 _ _ _)).mono ?_; rintro e w' ⟨rfl, rfl⟩)
      refine (HM1.out _).mono ?_; rintro e w' ⟨rfl, rfl⟩
      go_wp2_with fail
      refine (HM2.out _).mono ?_; rintro e w' ⟨rfl, rfl⟩
      go_wp2_with fail
      refine bodyPost_ret (row_back3 (r := r0) rfl rfl (heap2 _ _ _)) rfl ?_
      exact ⟨by rw [HG.out]; rfl, below_new2 _ _ _⟩
    · rw [h2] at hm2
      have HM2 := Lib.hid hm2
      have HG := Lib.hid (G1 h1 h2)
      clear hm1 hm2 h1 h2 G1 G2 G3
      go_enter Try.func37, Try.ntmps37
      go_wp2_with (go_at_call 46; refine (HU'.out _ (below_new2 _ _ _)).mono ?_; rintro e w' ⟨rfl, rfl⟩)
      refine (HM1.out _).mono ?_; rintro e w' ⟨rfl, rfl⟩
      go_wp2_with fail
      refine (HM2.out _).mono ?_; rintro e w' ⟨rfl, rfl⟩
      go_wp2_with fail
      refine bodyPost_ret (row_back3 (r := ⟨q.pc, wrap64 (q.pt + x)⟩) rfl rfl (heap2 _ _ _)) rfl ?_
      exact ⟨by rw [HG.out]; rfl, below_new2 _ _ _⟩

set_option maxRecDepth 100000 in
set_option maxHeartbeats 2000000 in
theorem moved_1big (q : Rw) (A : Option Addr) (c k : Nat) (x n : Int) (l : List UInt8) (w : World) (h : Lies w w.heap.size A l) (hn : l.length ≤ 1099511627776) (hk : k < l.length) (hs : l[k].toNat = 1) (hx1 : 16777216 < x)
    (HU : ∀ w2, Below w.heap.size w w2 → Calls Try.prog 45 #[.slice A l.length c, .int .i64 ((k : Int) + 1)] w2 fun e w' => e = .returned (.tuple #[.int .u64 x, .int .i64 n, .int .i64 0]) ∧ w2 = w') :
    Calls Try.prog 37 #[rv q, .slice A l.length c, .int .i64 k] w fun e w' => e = .returned mvN ∧ Below w.heap.size w w' := by
  obtain ⟨g, o, rfl, hg, c0⟩ := h.at_ hk
  rw [hs] at c0
  unfold rv rK
  have HU' := Lib.hid HU
  clear HU
  go_enter Try.func37, Try.ntmps37
  go_wp2_with (go_at_call 45; refine (HU'.out _ (below_new2 _ _ _)).mono ?_; rintro e w' ⟨rfl, rfl⟩)
  refine bodyPost_ret (row_back3 (r := r0) rfl rfl (heap2 _ _ _)) rfl ?_
  exact ⟨rfl, below_new2 _ _ _⟩

set_option maxRecDepth 100000 in
set_option maxHeartbeats 2000000 in
theorem moved_1no (q : Rw) (A : Option Addr) (c k : Nat) (l : List UInt8) (w : World) (h : Lies w w.heap.size A l) (hn : l.length ≤ 1099511627776) (hk : k < l.length) (hs : l[k].toNat = 1)
    (HU : ∀ w2, Below w.heap.size w w2 → Calls Try.prog 45 #[.slice A l.length c, .int .i64 ((k : Int) + 1)] w2 fun e w' => e = .returned (.tuple #[.int .u64 0, .int .i64 0, .int .i64 5]) ∧ w2 = w') :
    Calls Try.prog 37 #[rv q, .slice A l.length c, .int .i64 k] w fun e w' => e = .returned mvN ∧ Below w.heap.size w w' := by
  obtain ⟨g, o, rfl, hg, c0⟩ := h.at_ hk
  rw [hs] at c0
  unfold rv rK
  have HU' := Lib.hid HU
  clear HU
  go_enter Try.func37, Try.ntmps37
  go_wp2_with (go_at_call 45; refine (HU'.out _ (below_new2 _ _ _)).mono ?_; rintro e w' ⟨rfl, rfl⟩)
  refine bodyPost_ret (row_back3 (r := r0) rfl rfl (heap2 _ _ _)) rfl ?_
  exact ⟨rfl, below_new2 _ _ _⟩

set_option maxRecDepth 100000 in
set_option maxHeartbeats 2000000 in
theorem moved_2no (q : Rw) (A : Option Addr) (c k : Nat) (l : List UInt8) (w : World) (h : Lies w w.heap.size A l) (hn : l.length ≤ 1099511627776) (hk : k < l.length) (hs : l[k].toNat = 2)
    (HU : ∀ w2, Below w.heap.size w w2 → Calls Try.prog 46 #[.slice A l.length c, .int .i64 ((k : Int) + 1)] w2 fun e w' => e = .returned (.tuple #[.int .i64 0, .int .i64 0, .int .i64 5]) ∧ w2 = w') :
    Calls Try.prog 37 #[rv q, .slice A l.length c, .int .i64 k] w fun e w' => e = .returned mvN ∧ Below w.heap.size w w' := by
  obtain ⟨g, o, rfl, hg, c0⟩ := h.at_ hk
  rw [hs] at c0
  unfold rv rK
  have HU' := Lib.hid HU
  clear HU
  go_enter Try.func37, Try.ntmps37
  go_wp2_with (go_at_call 46; refine (HU'.out _ (below_new2 _ _ _)).mono ?_; rintro e w' ⟨rfl, rfl⟩)
  refine bodyPost_ret (row_back3 (r := r0) rfl rfl (heap2 _ _ _)) rfl ?_
  exact ⟨rfl, below_new2 _ _ _⟩
end Go.Proofs.Ytfpgmaegpiiagaa
