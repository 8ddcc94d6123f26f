/-
  Merged for a claim: S9Z, T9G.
-/
import Derived.Test.YtjagjkogloggpaaGreatFJ20
import Derived.Test.YtjagjkogloggpaaGreatFJ13
import Derived.Test.YtjagjkogloggpaaGreatFJ14
import Derived.Test.YtjagjkogloggpaaGreatFS9H
import Derived.Test.YtjagjkogloggpaaGreatFJ17
namespace Go.Proofs.YtjagjkogloggpaaGreat
open Go Go.RowKit

def gtL (b : List UInt8) (i : Int) : List Plc × (RS × Int) := lsP b 64 (get9 b) (⟨i, false⟩, 0)
def gtQ (b : List UInt8) (i : Int) : List Pnt × (RS × Unit) := lsP b 1000 (pt9 b) ((gtL b i).2.1, ())
def gtOk (b : List UInt8) (i : Int) : Bool := !(gtQ b i).2.1.no && right9 (gtL b i).1 (gtQ b i).1
def gtE (b : List UInt8) (i : Int) : Int := if i < 0 ∨ (b.length : Int) < i then 1 else if gtOk b i = true then 0 else 5
def GetR9 (b : List UInt8) (i : Int) (w : World) (e : Ending) (w' : World) : Prop :=
  ∃ v1 v2, e = .returned (.tuple #[v1, v2, .int .i64 (if gtE b i = 0 then (gtQ b i).2.1.at_ else 0), .int .i64 (gtE b i)]) ∧ PO w' w.heap.size v1 (if gtE b i = 0 then (gtL b i).1 else []) ∧ QO w' w.heap.size v2 (if gtE b i = 0 then (gtQ b i).1 else []) ∧ Below w.heap.size w w'
theorem results_tmp4 {fn : Func} {t u v x : Tmp} (h : fn.results = #[.tmp t, .tmp u, .tmp v, .tmp x]) (tmps : Array Value) (P : Program) (w : World) :
    (results fn tmps).run P w = .ok (.tuple #[tmps.getD t undef, tmps.getD u undef, tmps.getD v undef, tmps.getD x undef]) w := by
  simp [results, h]

set_option maxRecDepth 100000 in
set_option maxHeartbeats 8000000 in
theorem get9_any (A : Option Addr) (c : Nat) (b : List UInt8) (i : Int) (w : World) (hc : b.length ≤ c) (hbn : b.length ≤ 1099511627776) (h : Lies w w.heap.size A b) :
    Calls Tryz.prog 14 #[.slice A b.length c, .int .i64 i] w (GetR9 b i w) := by
  by_cases h0 : i < 0
  · have hE := Lib.hid (show gtE b i = 1 from by unfold gtE; rw [if_pos (.inl h0)])
    go_enter Tryz.func14, Tryz.ntmps14
    go_wp2_with fail
    refine bodyPost_ret (results_tmp4 rfl _ _ _) rfl ?_
    exact ⟨_, _, by rw [hE.out]; rfl, by rw [hE.out]; exact PO.nil _ _, by rw [hE.out]; exact QO.nil _ _, Below.refl _ _⟩
  · by_cases h1 : (b.length : Int) < i
    · have hE := Lib.hid (show gtE b i = 1 from by unfold gtE; rw [if_pos (.inr h1)])
      go_enter Tryz.func14, Tryz.ntmps14
      go_wp2_with fail
      refine bodyPost_ret (results_tmp4 rfl _ _ _) rfl ?_
      exact ⟨_, _, by rw [hE.out]; rfl, by rw [hE.out]; exact PO.nil _ _, by rw [hE.out]; exact QO.nil _ _, Below.refl _ _⟩
    · have hb0 : Below w.heap.size w (((w.alloc (.cells #[.slice A b.length c, .int .i64 i, .bool false] 96)).alloc (.cells #[.pointer (some ⟨w.heap.size, 0, none⟩)] 94)).alloc (.cells #[.int .i64 0] 3)) := (below_lnew2 w _ _).alloc (by simp; omega) _
      have hz0 : (((w.alloc (.cells #[.slice A b.length c, .int .i64 i, .bool false] 96)).alloc (.cells #[.pointer (some ⟨w.heap.size, 0, none⟩)] 94)).alloc (.cells #[.int .i64 0] 3)).heap.size = w.heap.size + 3 := by simp
      have gt0 : GtI w.heap.size w.heap.size (w.heap.size + 1) (w.heap.size + 1 + 1) A c b ⟨i, false⟩ 0 (((w.alloc (.cells #[.slice A b.length c, .int .i64 i, .bool false] 96)).alloc (.cells #[.pointer (some ⟨w.heap.size, 0, none⟩)] 94)).alloc (.cells #[.int .i64 0] 3)) := by
        refine ⟨?_, h.below hb0, ?_, ?_, Nat.le_refl _, by omega, by omega⟩
        · exact ((below_lnew2 _ _ _).block w.heap.size (by simp)).trans (heap_alloc_new w _)
        · exact ((below_lnew _ _).block (w.heap.size + 1) (by simp)).trans (heap9 w _ _)
        · have := heap9 (w.alloc (.cells #[.slice A b.length c, .int .i64 i, .bool false] 96)) (.cells #[.pointer (some ⟨w.heap.size, 0, none⟩)] 94) (.cells #[.int .i64 0] 3)
          simpa [CAt] using this
      have HB0 := Lib.hid hb0
      have HZ0 := Lib.hid hz0
      have HL := Lib.hid (listL_any (fun W p => PT W p) Pp.d Sg9 w.heap.size w.heap.size A c b (fun s W => GtI w.heap.size w.heap.size (w.heap.size + 1) (w.heap.size + 1 + 1) A c b s.1 s.2 W) (get9 b) (fun a => (a / 33554432).toNat) 46 #[] #[.pointer (some ⟨w.heap.size + 1, 0, none⟩), .pointer (some ⟨w.heap.size + 1 + 1, 0, none⟩)] 64 (⟨i, false⟩, 0) _ hc hbn gt0.b (by omega) (oneGet (by omega) hc hbn (Nat.le_refl _)) gt0 (by omega) rfl)
      have HI0 := Lib.hid gt0
      have xv := gt0.x.cell (j := 0) (by simp)
      simp only [List.getElem_cons_zero] at xv
      clear hb0 hz0 gt0
      go_enter Tryz.func14, Tryz.ntmps14
      go_wp2_with fail
      refine HL.out.mono ?_
      rintro e w1 ⟨v, xs, rfl, hx, hO, hD, hI, hS, hB⟩
      change xs.map Pp.d = (gtL b i).1 at hx
      change GtI _ _ _ _ A c b (gtL b i).2.1 (gtL b i).2.2 w1 at hI
      obtain ⟨A1, c1, rfl, hl1, hc1, hT1⟩ := hO.form
      have hz1 := hB.size
      have HT1 := Lib.hid hT1
      have HQ := Lib.hid (listQ_any (fun W p => QT W p) Pq.d Sr w.heap.size w.heap.size A c b (InvB w.heap.size w.heap.size A c b) (pt9 b) (fun _ => 0) 49 #[.pointer (some ⟨w.heap.size, 0, none⟩)] #[] 1000 ((gtL b i).2.1, ()) w1 hc hbn hI.b (by omega) (onePt (by have := HZ0.out; omega) hc hbn (Nat.le_refl _)) ⟨hI.r, hI.b⟩ (by have := HZ0.out; omega) rfl)
      have xv1 := hI.x.cell (j := 0) (by simp)
      simp only [List.getElem_cons_zero] at xv1
      have HX1 := Lib.hid hx
      have HO1 := Lib.hid hO
      have HD1 := Lib.hid hD
      have HI1 := Lib.hid hI
      have HB1 := Lib.hid (HB0.out.trans hB)
      have HZ1 := Lib.hid (show w.heap.size + 3 ≤ w1.heap.size by have := HZ0.out; omega)
      clear hx hO hD hI hS hB hl1 hc1 hT1 HL HI0 HB0 hz1
      go_wp2_with fail
      refine HQ.out.mono ?_
      rintro e w2 ⟨v2, ys, rfl, hy, hO2, hD2, hI2, hS2, hB2⟩
      change ys.map Pq.d = (gtQ b i).1 at hy
      change InvB _ _ A c b (gtQ b i).2 w2 at hI2
      obtain ⟨A2, c2, rfl, hl2, hc2, hT2⟩ := hO2.form
      have HX2 := Lib.hid hy
      have hpt2 : ∀ p ∈ xs, PT w2 p := fun p hp => (HD1.out p hp).keep fun k e q he => hS2 k e q (by unfold Sr; rcases he with rfl | rfl | rfl | rfl | rfl <;> decide)
      have HP2 := Lib.hid (show PO w2 w.heap.size (.slice A1 xs.length c1) (gtL b i).1 from ⟨xs, HX1.out, (HO1.out.kept fun k q => hS2 k _ q (by unfold Sr; decide)).base (by have := HZ0.out; omega), hpt2⟩)
      have HTL := Lib.hid (show TL w2 w2.heap.size A1 xs from ⟨(HT1.out.kept fun k q => hS2 k _ q (by unfold Sr; decide)).lies, fun p hp => (hpt2 p hp).pl⟩)
      have HUL := Lib.hid (show UL w2 w2.heap.size A2 ys from ⟨hT2.lies, fun q hq => (hD2 q hq).ql⟩)
      have HQ2 := Lib.hid (show QO w2 w.heap.size (.slice A2 ys.length c2) (gtQ b i).1 from ⟨ys, hy, hO2.base (by have := HZ1.out; omega), hD2⟩)
      have HB2 := Lib.hid (HB1.out.trans hB2)
      have hx2 : CAt w2 (w.heap.size + 1) 94 _ := (hS2 _ _ HI1.out.x.has (by unfold Sr; decide)).trans HI1.out.x
      have xv2 := hx2.cell (j := 0) (by simp)
      simp only [List.getElem_cons_zero] at xv2
      have n2 := hI2.1.n2
      have a2 := hI2.1.a1
      clear hy hO2 hD2 hI2 hS2 hB2 hx2 hl2 hc2 hT2 HQ xv1 hpt2
      have HOK := Lib.hid (show gtE b i = if gtOk b i = true then 0 else 5 from by unfold gtE; rw [if_neg (by omega)])
      cases hno : (gtQ b i).2.1.no
      · rw [hno] at n2
        have HE := Lib.hid (show gtOk b i = right9 (xs.map Pp.d) (ys.map Pq.d) from by unfold gtOk; rw [hno, HX1.out, HX2.out]; rfl)
        have HR := Lib.hid (right9_any A1 A2 c1 c2 xs ys w2 (got_sm b _ _ xs ys HX1.out HX2.out) HTL.out HUL.out)
        clear hno
        cases hr9 : right9 (xs.map Pp.d) (ys.map Pq.d)
        · rw [hr9] at HR
          have HF := Lib.hid (show gtE b i = 5 from by rw [HOK.out, HE.out, hr9]; rfl)
          clear hr9 HE
          go_wp2_with fail
          refine HR.out.mono ?_
          rintro e w3 ⟨rfl, hb3⟩
          have at3 := (hb3.cell (p := ⟨w.heap.size, 1, none⟩) (World.block_lt_of_cell? w2 _ a2)).trans a2
          have xv3 := (hb3.cell (p := ⟨w.heap.size + 1, 0, none⟩) (World.block_lt_of_cell? w2 _ xv2)).trans xv2
          have HB3 := Lib.hid (HB2.out.trans (hb3.mono HB2.out.size))
          have HW3 := Lib.hid hb3
          clear hb3 HR n2 a2 xv2
          go_wp2_with fail
          refine bodyPost_ret (results_tmp4 rfl _ _ _) rfl ?_
          exact ⟨_, _, by rw [HF.out]; rfl, by rw [HF.out]; exact PO.nil _ _, by rw [HF.out]; exact QO.nil _ _, HB3.out⟩
        · rw [hr9] at HR
          have HF := Lib.hid (show gtE b i = 0 from by rw [HOK.out, HE.out, hr9]; rfl)
          clear hr9 HE
          go_wp2_with fail
          refine HR.out.mono ?_
          rintro e w3 ⟨rfl, hb3⟩
          have at3 := (hb3.cell (p := ⟨w.heap.size, 1, none⟩) (World.block_lt_of_cell? w2 _ a2)).trans a2
          have xv3 := (hb3.cell (p := ⟨w.heap.size + 1, 0, none⟩) (World.block_lt_of_cell? w2 _ xv2)).trans xv2
          have HB3 := Lib.hid (HB2.out.trans (hb3.mono HB2.out.size))
          have HW3 := Lib.hid hb3
          clear hb3 HR n2 a2 xv2
          go_wp2_with fail
          go_quiet (fail)
          have hbq := below_draws (B := w3.heap.size) (w := w3) nq
          go_wp2_with fail
          refine bodyPost_ret (results_tmp4 rfl _ _ _) rfl ?_
          exact ⟨_, _, by rw [HF.out]; rfl, by rw [HF.out]; exact (HP2.out.below HW3.out).below hbq, by rw [HF.out]; exact (HQ2.out.below HW3.out).below hbq, HB3.out.trans (hbq.mono HB3.out.size)⟩
      · rw [hno] at n2
        have HE := Lib.hid (show gtE b i = 5 from by rw [HOK.out]; unfold gtOk; rw [hno]; rfl)
        clear hno
        go_wp2_with fail
        refine bodyPost_ret (results_tmp4 rfl _ _ _) rfl ?_
        exact ⟨_, _, by rw [HE.out]; rfl, by rw [HE.out]; exact PO.nil _ _, by rw [HE.out]; exact QO.nil _ _, HB2.out⟩
end Go.Proofs.YtjagjkogloggpaaGreat

namespace Go.Proofs.YtjagjkogloggpaaGreat
open Go Go.RowKit

def allocs (w : World) : List Obj → World
  | [] => w
  | o :: l => allocs (w.alloc o) l
theorem allocs_below : ∀ (l : List Obj) (w : World), Below w.heap.size w (allocs w l)
  | [], w => Below.refl _ _
  | o :: l, w => (below_lnew w o).trans ((allocs_below l (w.alloc o)).mono (by simp))
theorem allocs_at : ∀ (l : List Obj) (w : World) (j : Nat) (h : j < l.length), (allocs w l).heap[w.heap.size + j]? = some l[j]
  | o :: l, w, 0, h => ((allocs_below l (w.alloc o)).block w.heap.size (by simp)).trans (heap_alloc_new w o)
  | o :: l, w, j + 1, h => by
    have := allocs_at l (w.alloc o) j (by simpa using h)
    rw [World.size_alloc] at this
    rw [show w.heap.size + (j + 1) = w.heap.size + 1 + j by omega]
    exact this
theorem allocs_size : ∀ (l : List Obj) (w : World), (allocs w l).heap.size = w.heap.size + l.length
  | [], w => rfl
  | o :: l, w => by
    rw [show (allocs w (o :: l)) = allocs (w.alloc o) l from rfl, allocs_size l, World.size_alloc, List.length_cons]
    omega

instance decVr : DecidableEq Vr := fun a b => if h : (a.nm, a.kd, a.n, a.tn, a.wd, a.fs) = (b.nm, b.kd, b.n, b.tn, b.wd, b.fs) then isTrue (by cases a; cases b; simp_all) else isFalse (fun e => h (by rw [e]))
instance decPlc : DecidableEq Plc := fun a b => if h : (a.nm, a.fr, a.tt, a.vs, a.ss) = (b.nm, b.fr, b.tt, b.vs, b.ss) then isTrue (by cases a; cases b; simp_all) else isFalse (fun e => h (by rw [e]))
instance decPnt : DecidableEq Pnt := fun a b => if h : (a.fn, a.ln, a.sc) = (b.fn, b.ln, b.sc) then isTrue (by cases a; cases b; simp_all) else isFalse (fun e => h (by rw [e]))
def wLc : Lc := ⟨2, 1⟩
def wV9 : Vr := ⟨[120], 1, 0, [], 1, []⟩
def wL9 : List Plc := [⟨[102], 0, 9, [wV9], [[⟨2, 5, [wLc]⟩]]⟩]
def wQ9 : List Pnt := [⟨0, 3, [0]⟩]
def wB9 : List UInt8 := [1, 1, 102, 0, 9, 1, 1, 120, 1, 1, 2, 3, 1, 2, 1, 1, 0, 3, 1, 0]
def wP9 (n : Nat) : List Pp := [⟨[102], 0, 9, [⟨wV9, none, 0⟩], some ⟨n + 4, 0, none⟩, 1, [⟨[⟨2, 5, [wLc], some ⟨n + 2, 0, none⟩, 1⟩], some ⟨n + 3, 0, none⟩, 1⟩], some ⟨n + 5, 0, none⟩, 1⟩]
def wR9 (n : Nat) : List Pq := [⟨⟨0, 3, [0]⟩, some ⟨n + 7, 0, none⟩, 1⟩]
theorem w9_right : right9 wL9 wQ9 = true := by decide +kernel
theorem w9_own : own9 wL9 wQ9 = wB9 := by decide +kernel
theorem w9_e : gtE wB9 0 = 0 := by decide +kernel
theorem w9_n : (gtQ wB9 0).2.1.at_ = 20 := by decide +kernel
theorem w9_in : inF 8 0 wL9 = (0, true) := by decide +kernel
theorem w9_nm : nmd wL9 wQ9 0 [120] = (0, true) := by decide +kernel
theorem w9_l : (gtL wB9 0).1 = wL9 := by decide +kernel
theorem w9_q : (gtQ wB9 0).1 = wQ9 := by decide +kernel
def wO9 (n : Nat) : List Obj := [.cells #[.slice (some ⟨n + 6, 0, none⟩) 1 1, .slice (some ⟨n + 8, 0, none⟩) 1 1] 35,
  .cells #[.string ⟨#[120]⟩, .int .u8 1, .int .i64 0, .string ⟨#[]⟩, .int .i64 1, .slice none 0 0] 65, .cells #[.int .u8 2, .int .i64 1] 53, .cells #[.int .i64 2, .int .i64 5, .slice (some ⟨n + 2, 0, none⟩) 1 1] 56,
  .cells #[.string ⟨#[120]⟩, .int .u8 1, .int .i64 0, .string ⟨#[]⟩, .int .i64 1, .slice none 0 0] 65, .cells #[.slice (some ⟨n + 3, 0, none⟩) 1 1] 57,
  .cells #[.string ⟨#[102]⟩, .int .i64 0, .int .i64 9, .slice (some ⟨n + 4, 0, none⟩) 1 1, .slice (some ⟨n + 5, 0, none⟩) 1 1] 51, .cells #[.int .i64 0] 3, .cells #[.int .i64 0, .int .i64 3, .slice (some ⟨n + 7, 0, none⟩) 1 1] 60]
theorem el_one {α : Type} (K : El α) (w : World) (g : Nat) (x : α) {e : TypeId} {s : Nat × Nat} (h : w.heap[g]? = some (.cells (K.f x).toArray e s)) : K.Lies w w.heap.size (some ⟨g, 0, none⟩) [x] := fun _ => by
  refine ⟨g, 0, rfl, (Array.getElem?_eq_some_iff.1 h).1, fun j hj f u hu => ?_⟩
  obtain rfl : j = 0 := by simp at hj; omega
  simp only [World.cell?, h]
  simpa using hu
theorem w9_tl (w : World) : TL (allocs w (wO9 w.heap.size)) (allocs w (wO9 w.heap.size)).heap.size (some ⟨w.heap.size + 6, 0, none⟩) (wP9 w.heap.size) := by
  have at_ := fun j h => allocs_at (wO9 w.heap.size) w j h
  refine ⟨el_one eL _ _ _ (at_ 6 (by simp [wO9])), fun p hp => ?_⟩
  rw [wP9, List.mem_singleton] at hp
  subst hp
  refine ⟨el_one eV _ _ _ (at_ 4 (by simp [wO9])), fun x hx => ?_, ⟨by simp, by simp⟩, el_one eR _ _ _ (at_ 5 (by simp [wO9])), fun r hr => ?_, ⟨by simp, by simp⟩⟩
  · rw [List.mem_singleton] at hx
    subst hx
    exact ⟨El.Lies.nil _ _ _, by simp [wV9], by simp⟩
  · rw [List.mem_singleton] at hr
    subst hr
    refine ⟨⟨el_one ePs _ _ _ (at_ 3 (by simp [wO9])), fun q hq => ?_⟩, by simp, by simp⟩
    rw [List.mem_singleton] at hq
    subst hq
    exact ⟨by simp, by simp, el_one eLc _ _ _ (at_ 2 (by simp [wO9]))⟩
theorem w9_ul (w : World) : UL (allocs w (wO9 w.heap.size)) (allocs w (wO9 w.heap.size)).heap.size (some ⟨w.heap.size + 8, 0, none⟩) (wR9 w.heap.size) := by
  have at_ := fun j h => allocs_at (wO9 w.heap.size) w j h
  refine ⟨el_one eQ _ _ _ (at_ 8 (by simp [wO9])), fun p hp => ?_⟩
  rw [wR9, List.mem_singleton] at hp
  subst hp
  exact ⟨el_one eI _ _ _ (at_ 7 (by simp [wO9])), by simp, by simp⟩
theorem w9_d (n : Nat) : (wP9 n).map Pp.d = wL9 ∧ (wR9 n).map Pq.d = wQ9 := ⟨rfl, rfl⟩
theorem w9_sm (n : Nat) : SmT (wP9 n) (wR9 n) := by
  refine ⟨fun p hp r hr => ?_, fun q hq => ?_⟩
  · rw [wP9, List.mem_singleton] at hp
    subst hp
    rw [List.mem_singleton] at hr
    subst hr
    refine ⟨by simp, fun q hq => ?_⟩
    rw [List.mem_singleton] at hq
    subst hq
    simp
  · rw [wR9, List.mem_singleton] at hq
    subst hq
    simp
theorem w9_tab (n : Nat) : TabP (wP9 n) (wR9 n) := by
  refine ⟨w9_sm n, fun p hp r hr q hq x hx => ?_⟩
  rw [wP9, List.mem_singleton] at hp
  subst hp
  rw [List.mem_singleton] at hr
  subst hr
  rw [List.mem_singleton] at hq
  subst hq
  rw [List.mem_singleton] at hx
  subst hx
  exact ⟨⟨by decide, by decide⟩, by decide, by decide⟩

theorem tab_size : (Tryz.prog.info? 35).map (·.size) = some 2 := by kernel_rfl
def PlainR (w : World) (e : Ending) (w' : World) : Prop := w' = allocs w (wO9 w.heap.size) ∧ e = .returned (.agg #[.slice (some ⟨w.heap.size + 6, 0, none⟩) 1 1, .slice (some ⟨w.heap.size + 8, 0, none⟩) 1 1])
set_option maxRecDepth 100000 in
set_option maxHeartbeats 2000000 in
theorem plain9_any (w : World) : Calls Tryz.prog 44 #[] w (PlainR w) := by
  have hc := allocs_at (wO9 w.heap.size) w 0 (by simp [wO9])
  go_enter Tryz.func44, Tryz.ntmps44
  go_wp2_with fail
  refine bodyPost_ret (results_cell_row rfl _ _ _ _ _ _ _ rfl hc Tryz.underlying35 rfl tab_size) rfl ?_
  exact ⟨rfl, rfl⟩
end Go.Proofs.YtjagjkogloggpaaGreat
