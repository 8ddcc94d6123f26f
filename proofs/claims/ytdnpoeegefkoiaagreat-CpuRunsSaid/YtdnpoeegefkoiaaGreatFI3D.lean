/-
  Merged for a claim: I3D.
-/
import Derived.Test.YtdnpoeegefkoiaaGreatFJ1
import Derived.Test.YtdnpoeegefkoiaaGreatFJ2
namespace Go.Proofs.YtdnpoeegefkoiaaGreat
open Go.RowKit

/-- the instruction with what a part says at a place -/
def getI : Pt → Ins → List UInt8 → Int → Ins
  | .op, i, l, x => { i with o := oneX l x }
  | .reg, i, l, x => { i with r := oneX l x }
  | .both, i, l, x => { i with r := oneX l x / 16, s := oneX l x % 16 }
  | .third, i, l, x => { i with t := oneX l x }
  | .num, i, l, x => { i with n := rdX true l x }
  | .many, i, l, x => { i with m := wrap64 (rdX false l x) }
  | .to, i, l, x => { i with n := plX l x }
  | .how, i, l, x => { i with n := oneX l x }
/-- the place behind it -/
def getN : Pt → List UInt8 → Int → Int
  | .num, l, x => rdN true l x
  | .many, l, x => rdN false l x
  | .to, l, x => plN l x
  | .op, l, x => oneN l x
  | .reg, l, x => oneN l x
  | .both, l, x => oneN l x
  | .third, l, x => oneN l x
  | .how, l, x => oneN l x
/-- the error -/
def getE : Pt → List UInt8 → Int → Int
  | .num, l, x => rdE true l x
  | .many, l, x => rdE false l x
  | .to, l, x => stV l.length x 3
  | .op, l, x => stV l.length x 1
  | .reg, l, x => stV l.length x 1
  | .both, l, x => stV l.length x 1
  | .third, l, x => stV l.length x 1
  | .how, l, x => stV l.length x 1

def GetsR (p : Pt) (i : Ins) (l : List UInt8) (x : Int) (w : World) (e : Ending) (w' : World) : Prop :=
  e = .returned (.tuple #[iv (getI p i l x), .int .i64 (getN p l x), .int .i64 (getE p l x)]) ∧ Below w.heap.size w w'

theorem ins_back3 {fn : Func} {p u v : Tmp} (h : fn.results = #[.cell p 53, .tmp u, .tmp v]) {tmps : Array Value} {w : World} {g : Nat} (hp : tmps.getD p undef = .pointer (some ⟨g, 0, none⟩))
    {k o r s t n m : Value} (hg : w.heap[g]? = some (.cells #[k, o, r, s, t, n, m] 53 (0, 0))) : (results fn tmps).run Tryz.prog w = .ok (.tuple #[.agg #[k, o, r, s, t, n, m], tmps.getD u undef, tmps.getD v undef]) w :=
  res_row_tmp2 h tmps w g _ _ _ _ hp hg Tryz.underlying53 rfl ins_size
/-- the cells of an instruction that lies in a block -/
theorem ins_cells {w : World} {g : Nat} {k o r s t n m : Value} (h : w.heap[g]? = some (.cells #[k, o, r, s, t, n, m] 53 (0, 0))) :
    (w.cell? ⟨g, 0, none⟩ = some k ∧ w.cell? ⟨g, 1, none⟩ = some o ∧ w.cell? ⟨g, 2, none⟩ = some r ∧ w.cell? ⟨g, 3, none⟩ = some s ∧ w.cell? ⟨g, 4, none⟩ = some t ∧ w.cell? ⟨g, 5, none⟩ = some n ∧ w.cell? ⟨g, 6, none⟩ = some m) ∧
    (∀ j, w.frozen? ⟨g, j, none⟩ = false) := by
  simp [World.cell?, World.frozen?, h]
theorem ins_store {w : World} {g : Nat} {t : TypeId} {a0 a1 a2 a3 a4 a5 a6 : Value} (h : w.heap[g]? = some (.cells #[a0, a1, a2, a3, a4, a5, a6] t (0, 0))) (k o r s u n m : Value) :
    (((((((w.setCell ⟨g, 0, none⟩ k).setCell ⟨g, 1, none⟩ o).setCell ⟨g, 2, none⟩ r).setCell ⟨g, 3, none⟩ s).setCell ⟨g, 4, none⟩ u).setCell ⟨g, 5, none⟩ n).setCell ⟨g, 6, none⟩ m).heap[g]? = some (.cells #[k, o, r, s, u, n, m] t (0, 0)) := by
  simp [World.setCell, Array.getElem?_modify, h]
theorem below_ins {B g : Nat} {w w' : World} (h : Below B w w') (hB : B ≤ g) (k o r s u n m : Value) :
    Below B w (((((((w'.setCell ⟨g, 0, none⟩ k).setCell ⟨g, 1, none⟩ o).setCell ⟨g, 2, none⟩ r).setCell ⟨g, 3, none⟩ s).setCell ⟨g, 4, none⟩ u).setCell ⟨g, 5, none⟩ n).setCell ⟨g, 6, none⟩ m) :=
  ((((((h.setCell (p := ⟨g, 0, none⟩) hB k).setCell (p := ⟨g, 1, none⟩) hB o).setCell (p := ⟨g, 2, none⟩) hB r).setCell (p := ⟨g, 3, none⟩) hB s).setCell (p := ⟨g, 4, none⟩) hB u).setCell (p := ⟨g, 5, none⟩) hB n).setCell (p := ⟨g, 6, none⟩) hB m
theorem lies_boxes {w : World} {A : Option Addr} {l : List UInt8} (h : Lies w w.heap.size A l) (o o2 : Obj) : Lies ((w.alloc o).alloc o2) w.heap.size A l :=
  (h.alloc (Nat.le_refl _) o).alloc (by simp) o2
theorem oneX_u8 (l : List UInt8) (x : Int) : 0 ≤ oneX l x ∧ oneX l x < 256 := by
  unfold oneX
  split
  · have := (l.getD x.toNat 0).toNat_lt
    omega
  · omega

set_option maxRecDepth 100000 in
set_option maxHeartbeats 400000 in
theorem get_op (i : Ins) (A : Option Addr) (c : Nat) (l : List UInt8) (x : Int) (w : World) (_hc : l.length ≤ c) (hn : l.length ≤ 1099511627776) (h : Lies w w.heap.size A l) :
    Calls Tryz.prog 99 #[iv i, .slice A l.length c, .int .i64 x] w (GetsR .op i l x w) := by
  have HO := Lib.hid (one_any A c l x _ w.heap.size hn (lies_boxes h (.cells (ic i) 53) (.cells #[.int .u8 0, .int .u8 0, .int .i64 0, .int .i64 0, .int .i64 0, .int .i64 0, .int .i64 0] 53)))
  have hx := oneX_u8 l x
  clear h hn
  unfold ic at HO
  unfold iv ic
  go_enter Tryz.func99, Tryz.ntmps99
  go_wp2_with (first | (go_at_call 52; refine HO.out.mono ?_; rintro e w' ⟨rfl, rfl⟩))
  refine bodyPost_ret (ins_back3 rfl rfl (heap_alloc2_new _ _ _)) rfl ?_
  exact ⟨rfl, below_box2 _ _ _⟩
set_option maxRecDepth 100000 in
set_option maxHeartbeats 400000 in
theorem get_reg (i : Ins) (A : Option Addr) (c : Nat) (l : List UInt8) (x : Int) (w : World) (_hc : l.length ≤ c) (hn : l.length ≤ 1099511627776) (h : Lies w w.heap.size A l) :
    Calls Tryz.prog 83 #[iv i, .slice A l.length c, .int .i64 x] w (GetsR .reg i l x w) := by
  have HO := Lib.hid (one_any A c l x _ w.heap.size hn (lies_boxes h (.cells (ic i) 53) (.cells #[.int .u8 0, .int .u8 0, .int .i64 0, .int .i64 0, .int .i64 0, .int .i64 0, .int .i64 0] 53)))
  have hx := oneX_u8 l x
  clear h hn
  unfold ic at HO
  unfold iv ic
  go_enter Tryz.func83, Tryz.ntmps83
  go_wp2_with (first | (go_at_call 52; refine HO.out.mono ?_; rintro e w' ⟨rfl, rfl⟩))
  refine bodyPost_ret (ins_back3 rfl rfl (heap_alloc2_new _ _ _)) rfl ?_
  exact ⟨rfl, below_box2 _ _ _⟩
set_option maxRecDepth 100000 in
set_option maxHeartbeats 400000 in
theorem get_both (i : Ins) (A : Option Addr) (c : Nat) (l : List UInt8) (x : Int) (w : World) (_hc : l.length ≤ c) (hn : l.length ≤ 1099511627776) (h : Lies w w.heap.size A l) :
    Calls Tryz.prog 94 #[iv i, .slice A l.length c, .int .i64 x] w (GetsR .both i l x w) := by
  have HO := Lib.hid (one_any A c l x _ w.heap.size hn (lies_boxes h (.cells (ic i) 53) (.cells #[.int .u8 0, .int .u8 0, .int .i64 0, .int .i64 0, .int .i64 0, .int .i64 0, .int .i64 0] 53)))
  have hx := oneX_u8 l x
  have HH := Lib.hid (fun w => halves_any (oneX l x) w hx.1 hx.2)
  clear h hn
  unfold ic at HO
  unfold iv ic
  go_enter Tryz.func94, Tryz.ntmps94
  go_wp2_with (first | (go_at_call 52; refine HO.out.mono ?_; rintro e w' ⟨rfl, rfl⟩) | (go_at_call 95; refine (HH.out _).mono ?_; rintro e w' ⟨rfl, rfl⟩))
  refine bodyPost_ret (ins_back3 rfl rfl (heap_alloc2_new _ _ _)) rfl ?_
  exact ⟨rfl, below_box2 _ _ _⟩
set_option maxRecDepth 100000 in
set_option maxHeartbeats 400000 in
theorem get_third (i : Ins) (A : Option Addr) (c : Nat) (l : List UInt8) (x : Int) (w : World) (_hc : l.length ≤ c) (hn : l.length ≤ 1099511627776) (h : Lies w w.heap.size A l) :
    Calls Tryz.prog 103 #[iv i, .slice A l.length c, .int .i64 x] w (GetsR .third i l x w) := by
  have HO := Lib.hid (one_any A c l x _ w.heap.size hn (lies_boxes h (.cells (ic i) 53) (.cells #[.int .u8 0, .int .u8 0, .int .i64 0, .int .i64 0, .int .i64 0, .int .i64 0, .int .i64 0] 53)))
  have hx := oneX_u8 l x
  clear h hn
  unfold ic at HO
  unfold iv ic
  go_enter Tryz.func103, Tryz.ntmps103
  go_wp2_with (first | (go_at_call 52; refine HO.out.mono ?_; rintro e w' ⟨rfl, rfl⟩))
  refine bodyPost_ret (ins_back3 rfl rfl (heap_alloc2_new _ _ _)) rfl ?_
  exact ⟨rfl, below_box2 _ _ _⟩
set_option maxRecDepth 100000 in
set_option maxHeartbeats 400000 in
theorem get_how (i : Ins) (A : Option Addr) (c : Nat) (l : List UInt8) (x : Int) (w : World) (_hc : l.length ≤ c) (hn : l.length ≤ 1099511627776) (h : Lies w w.heap.size A l) :
    Calls Tryz.prog 117 #[iv i, .slice A l.length c, .int .i64 x] w (GetsR .how i l x w) := by
  have HO := Lib.hid (one_any A c l x _ w.heap.size hn (lies_boxes h (.cells (ic i) 53) (.cells #[.int .u8 0, .int .u8 0, .int .i64 0, .int .i64 0, .int .i64 0, .int .i64 0, .int .i64 0] 53)))
  have hx := oneX_u8 l x
  clear h hn
  unfold ic at HO
  unfold iv ic
  go_enter Tryz.func117, Tryz.ntmps117
  go_wp2_with (first | (go_at_call 52; refine HO.out.mono ?_; rintro e w' ⟨rfl, rfl⟩))
  refine bodyPost_ret (ins_back3 rfl rfl (heap_alloc2_new _ _ _)) rfl ?_
  exact ⟨rfl, below_box2 _ _ _⟩
set_option maxRecDepth 100000 in
set_option maxHeartbeats 400000 in
theorem get_num (i : Ins) (A : Option Addr) (c : Nat) (l : List UInt8) (x : Int) (w : World) (_hc : l.length ≤ c) (hn : l.length ≤ 1099511627776) (h : Lies w w.heap.size A l) :
    Calls Tryz.prog 88 #[iv i, .slice A l.length c, .int .i64 x] w (GetsR .num i l x w) := by
  have HO := Lib.hid (S_any A c l x _ w.heap.size hn (lies_boxes h (.cells (ic i) 53) (.cells #[.int .u8 0, .int .u8 0, .int .i64 0, .int .i64 0, .int .i64 0, .int .i64 0, .int .i64 0] 53)))
  clear h hn
  unfold ic at HO
  unfold iv ic
  go_enter Tryz.func88, Tryz.ntmps88
  go_wp2_with (go_at_call 89; refine HO.out.mono ?_; rintro e w' ⟨rfl, rfl⟩)
  refine bodyPost_ret (ins_back3 rfl rfl (heap_alloc2_new _ _ _)) rfl ?_
  exact ⟨rfl, below_box2 _ _ _⟩
set_option maxRecDepth 100000 in
set_option maxHeartbeats 400000 in
theorem get_many (i : Ins) (A : Option Addr) (c : Nat) (l : List UInt8) (x : Int) (w : World) (_hc : l.length ≤ c) (hn : l.length ≤ 1099511627776) (h : Lies w w.heap.size A l) :
    Calls Tryz.prog 108 #[iv i, .slice A l.length c, .int .i64 x] w (GetsR .many i l x w) := by
  have HO := Lib.hid (U_any A c l x _ w.heap.size hn (lies_boxes h (.cells (ic i) 53) (.cells #[.int .u8 0, .int .u8 0, .int .i64 0, .int .i64 0, .int .i64 0, .int .i64 0, .int .i64 0] 53)))
  clear h hn
  unfold ic at HO
  unfold iv ic
  go_enter Tryz.func108, Tryz.ntmps108
  go_wp2_with (go_at_call 109; refine HO.out.mono ?_; rintro e w' ⟨rfl, rfl⟩)
  refine bodyPost_ret (ins_back3 rfl rfl (heap_alloc2_new _ _ _)) rfl ?_
  exact ⟨rfl, below_box2 _ _ _⟩
set_option maxRecDepth 100000 in
set_option maxHeartbeats 400000 in
theorem get_to (i : Ins) (A : Option Addr) (c : Nat) (l : List UInt8) (x : Int) (w : World) (hc : l.length ≤ c) (hn : l.length ≤ 1099511627776) (h : Lies w w.heap.size A l) :
    Calls Tryz.prog 113 #[iv i, .slice A l.length c, .int .i64 x] w (GetsR .to i l x w) := by
  have HO := Lib.hid (place_any A c l x _ w.heap.size hc hn (lies_boxes h (.cells (ic i) 53) (.cells #[.int .u8 0, .int .u8 0, .int .i64 0, .int .i64 0, .int .i64 0, .int .i64 0, .int .i64 0] 53)))
  clear hc h hn
  unfold ic at HO
  unfold iv ic
  go_enter Tryz.func113, Tryz.ntmps113
  go_wp2_with fail
  refine HO.out.mono ?_
  rintro e w' ⟨rfl, hb⟩
  have hb1 := hb.block w.heap.size (by simp; omega)
  have hb2 := hb.block (w.heap.size + 1) (by simp)
  rw [heap_alloc2_old] at hb1
  rw [heap_alloc2_new] at hb2
  obtain ⟨⟨c0, c1, c2, c3, c4, c5, c6⟩, f⟩ := ins_cells hb1
  obtain ⟨⟨d0, d1, d2, d3, d4, d5, d6⟩, g⟩ := ins_cells hb2
  go_wp2_with fail
  have hs := (Below.heap_setCell w' ⟨w.heap.size, 5, none⟩ (.int .i64 (plX l x)) (w.heap.size + 1) (by simp)).trans hb2
  refine bodyPost_ret (ins_back3 rfl rfl (ins_store hs _ _ _ _ _ _ _)) rfl ?_
  exact ⟨rfl, below_ins (((below_box2 _ _ _).trans (hb.mono (by simp; omega))).setCell (Nat.le_refl _) _) (by omega) _ _ _ _ _ _ _⟩

theorem get_any (p : Pt) (i : Ins) (A : Option Addr) (c : Nat) (l : List UInt8) (x : Int) (w : World) (hc : l.length ≤ c) (hn : l.length ≤ 1099511627776) (h : Lies w w.heap.size A l) :
    Calls Tryz.prog (gF p) #[iv i, .slice A l.length c, .int .i64 x] w (GetsR p i l x w) := by
  cases p
  · exact get_op i A c l x w hc hn h
  · exact get_reg i A c l x w hc hn h
  · exact get_both i A c l x w hc hn h
  · exact get_third i A c l x w hc hn h
  · exact get_num i A c l x w hc hn h
  · exact get_many i A c l x w hc hn h
  · exact get_to i A c l x w hc hn h
  · exact get_how i A c l x w hc hn h

end Go.Proofs.YtdnpoeegefkoiaaGreat
