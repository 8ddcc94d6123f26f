/-
  What is put is got; what runs together comes to. The contract of the law's vast.
-/
import Derived.Test.YtdnpoeegefkoiaaE6P
import Derived.Test.YtdnpoeegefkoiaaE6O
namespace Go.Proofs.Ytdnpoeegefkoiaa
open Go Go.RowKit

theorem got_put {l : List Lc} (hr : rightC l = true) (hx : ∀ x ∈ l, x.Rng) (a r : List UInt8) : gotO (a ++ ownC l ++ r) a.length = some (l, a.length + (ownC l).length) := by
  have hlen := right_len hr
  have hd : (a ++ ownC l ++ r).drop a.length = nB false l.length ++ (l.flatMap encL ++ r) := by
    rw [List.append_assoc, List.drop_left]
    unfold ownC
    rw [List.append_assoc]
  obtain ⟨g1, g2, g3⟩ := good_put (b := false) (x := (l.length : Int)) (r := (a ++ ownC l ++ r).drop a.length) (by simp only [rng, Bool.false_eq_true, if_false]; omega) (by rw [hd]; exact List.prefix_append _ _)
  have hd2 : (a ++ ownC l ++ r).drop (a.length + size false l.length) = l.flatMap encL ++ r := by
    rw [← List.drop_drop, hd, ← nB_len false, List.drop_left]
  rw [gotO_of (k0 := a.length + size false l.length) (M := l.length) g1 g2 hlen (by rw [g3]), hd2, rdM_enc l r (fun x h => ⟨hx x h, (right_mem hr x h).2⟩)]
  simp only [Option.bind_some, hr, if_true]
  unfold ownC
  rw [List.length_append, nB_len, Nat.add_assoc]

def vastB (l : List Lc) (V : Vw) : Bool := decide (1000 < l.length) || (decide (1000 < V.K.length) || (decide (1000 < V.R.length) || decide (65536 < V.W.length)))
theorem vast_no {l : List Lc} {V : Vw} (h : vastB l V = false) : l.length ≤ 1000 ∧ V.K.length ≤ 1000 ∧ V.R.length ≤ 1000 ∧ V.W.length ≤ 65536 := by
  simp only [vastB, Bool.or_eq_false_iff, decide_eq_false_iff_not] at h
  omega
def VastR (l : List Lc) (V : Vw) (w : World) (e : Ending) (w' : World) : Prop := e = .returned (.bool (vastB l V)) ∧ Below w.heap.size w w'
set_option maxRecDepth 100000 in
theorem vast_any (A : Option Addr) (c : Nat) (l : List Lc) (V : Vw) (P : Vp) (w : World) : Calls Try.prog 20 #[.slice A l.length c, .agg (vK V P)] w (VastR l V w) := by
  have hb := Lib.hid (below_lnew w (.cells (vK V P) 42))
  unfold vK at hb
  unfold vK
  by_cases h1 : 1000 < l.length
  · have HR := Lib.hid (show vastB l V = true by unfold vastB; rw [decide_eq_true h1]; rfl)
    have h1i : (1000 : Int) < (l.length : Int) := by omega
    go_enter Try.func20, Try.ntmps20
    go_wp2
    go_ret
    exact ⟨by rw [HR.out]; rfl, hb.out⟩
  · have h1i : (l.length : Int) ≤ 1000 := by omega
    by_cases h2 : 1000 < V.K.length
    · have HR := Lib.hid (show vastB l V = true by unfold vastB; rw [decide_eq_true h2]; simp)
      have h2i : (1000 : Int) < (V.K.length : Int) := by omega
      go_enter Try.func20, Try.ntmps20
      go_wp2
      go_ret
      exact ⟨by rw [HR.out]; rfl, hb.out⟩
    · have h2i : (V.K.length : Int) ≤ 1000 := by omega
      by_cases h3 : 1000 < V.R.length
      · have HR := Lib.hid (show vastB l V = true by unfold vastB; rw [decide_eq_true h3]; simp)
        have h3i : (1000 : Int) < (V.R.length : Int) := by omega
        go_enter Try.func20, Try.ntmps20
        go_wp2
        go_ret
        exact ⟨by rw [HR.out]; rfl, hb.out⟩
      · have h3i : (V.R.length : Int) ≤ 1000 := by omega
        by_cases h4 : 65536 < V.W.length
        · have HR := Lib.hid (show vastB l V = true by unfold vastB; rw [decide_eq_true h4]; simp)
          have h4i : (65536 : Int) < (V.W.length : Int) := by omega
          go_enter Try.func20, Try.ntmps20
          go_wp2
          go_ret
          exact ⟨by rw [HR.out]; rfl, hb.out⟩
        · have h4i : (V.W.length : Int) ≤ 65536 := by omega
          have HR := Lib.hid (show vastB l V = false by unfold vastB; rw [decide_eq_false h1, decide_eq_false h2, decide_eq_false h3, decide_eq_false h4]; rfl)
          go_enter Try.func20, Try.ntmps20
          go_wp2
          go_ret
          exact ⟨by rw [HR.out]; exact congrArg (fun b => Ending.returned (.bool b)) (show (decide ((1000 : Int) < l.length) || decide ((1000 : Int) < V.K.length) || decide ((1000 : Int) < V.R.length) || decide ((65536 : Int) < V.W.length)) = false by rw [decide_eq_false (by omega), decide_eq_false (by omega), decide_eq_false (by omega), decide_eq_false (by omega)]; rfl), hb.out⟩

/-- a view's cells in a block -/
def VBox (w : World) (g : Nat) (V : Vw) (P : Vp) : Prop := w.cell? ⟨g, 0, none⟩ = some (.slice P.a1 V.K.length P.c1) ∧ w.cell? ⟨g, 1, none⟩ = some (.slice P.a2 V.R.length P.c2) ∧ w.cell? ⟨g, 2, none⟩ = some (.int .i64 V.B) ∧ w.cell? ⟨g, 3, none⟩ = some (.slice P.a3 V.W.length P.c3)
theorem VBox.below {w w' : World} {g B : Nat} {V : Vw} {P : Vp} (h : VBox w g V P) (hb : Below B w w') (hg : g < B) : VBox w' g V P := ⟨(hb.cell hg).trans h.1, (hb.cell hg).trans h.2.1, (hb.cell hg).trans h.2.2.1, (hb.cell hg).trans h.2.2.2⟩
theorem vbox_new (w : World) (V : Vw) (P : Vp) : VBox (w.alloc (.cells (vK V P) 42)) w.heap.size V P := by
  have hh := heap_alloc_new w (.cells (vK V P) 42)
  refine ⟨?_, ?_, ?_, ?_⟩ <;> simp only [World.cell?, hh] <;> rfl
theorem get6_n (A : Option Addr) (n c : Nat) (b : List UInt8) (i : Int) (w : World) (hb : b.length = n) (hn : n ≤ 1099511627776) (h : Lies w w.heap.size A b) :
    Calls Try.prog 18 #[.slice A n c, .int .i64 i] w (GetR6 b i w) := by subst hb; exact get6_any A c b i w hn h
theorem eval6_n (A : Option Addr) (n c : Nat) (l : List Lc) (V : Vw) (P : Vp) (w : World) (hl : l.length = n) (hn : n ≤ 1099511627776) (h : LLies w w.heap.size A l) (hV : VLies w w.heap.size V P) :
    Calls Try.prog 22 #[.slice A n c, .agg (vK V P)] w (EvalR V l w) := by subst hl; exact eval6_any A c l V P w hn h hV
theorem put6_n (A B : Option Addr) (n c d : Nat) (b : List UInt8) (l : List Lc) (w : World) (hl : l.length = n) (hc : B = none → d = 0) (hn : n ≤ 1099511627776) (hbn : b.length ≤ 1099511627776) (hr : ∀ x ∈ l, x.Rng) (hb : Lies w w.heap.size B b) (h : LLies w w.heap.size A l) :
    Calls Try.prog 10 #[.slice B b.length d, .slice A n c] w (PutR6 b l w) := by subst hl; exact put6_any A B c d b l w hc hn hbn hr hb h
theorem copyB_n (A : Option Addr) (n c : Nat) (l : List UInt8) (w : World) (hl : l.length = n) (hn : n ≤ 1099511627776) (h : Lies w w.heap.size A l) :
    Calls Try.prog 21 #[.slice A n c] w (Made w l) := by subst hl; exact copyBytes_any A c l w hn h
theorem eqB6_n (A A2 : Option Addr) (c c2 B B2 n n2 : Nat) (l : List UInt8) (w : World) (hl : l.length = n) (hl2 : l.length = n2) (hn : n ≤ 1099511627776) (h : Lies w B A l) (h2 : Lies w B2 A2 l) :
    Calls Try.prog 12 #[.slice A n c, .slice A2 n2 c2] w fun e w' => e = .returned (.bool true) ∧ w = w' := by
  have := eqBytes_same A A2 c c2 l w B B2 (by omega) h h2
  subst hl; subst hl2; exact this
end Go.Proofs.Ytdnpoeegefkoiaa
