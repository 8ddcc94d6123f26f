/-
  Views as data; what each kind of step lays.
-/
import Derived.Test.YtdnpoeegefkoiaaE6I
namespace Go.Proofs.Ytdnpoeegefkoiaa
open Go Go.RowKit

structure Vw where
  K : List Bool
  R : List Int
  B : Int
  W : List Int
structure Vp where
  a1 : Option Addr
  c1 : Nat
  a2 : Option Addr
  c2 : Nat
  a3 : Option Addr
  c3 : Nat
def iV6 (x : Int) : Value := .int .i64 x
def vK (V : Vw) (P : Vp) : Array Value := #[.slice P.a1 V.K.length P.c1, .slice P.a2 V.R.length P.c2, .int .i64 V.B, .slice P.a3 V.W.length P.c3]
structure VLies (w : World) (B : Nat) (V : Vw) (P : Vp) : Prop where
  k : CLies w B P.a1 (V.K.map .bool)
  r : CLies w B P.a2 (V.R.map iV6)
  w : CLies w B P.a3 (V.W.map iV6)
  nK : V.K.length ≤ 1099511627776
  nR : V.R.length ≤ 1099511627776
  nW : V.W.length ≤ 1099511627776
theorem VLies.below {w w' : World} {B : Nat} {V : Vw} {P : Vp} (h : VLies w B V P) (hb : Below B w w') : VLies w' B V P := ⟨h.k.below hb, h.r.below hb, h.w.below hb, h.nK, h.nR, h.nW⟩
theorem VLies.more {w : World} {B B' : Nat} {V : Vw} {P : Vp} (h : VLies w B V P) (hB : B ≤ B') : VLies w B' V P := ⟨h.k.more hB, h.r.more hB, h.w.more hB, h.nK, h.nR, h.nW⟩
theorem VLies.next {w w' : World} {V : Vw} {P : Vp} (h : VLies w w.heap.size V P) (hb : Below w.heap.size w w') : VLies w' w'.heap.size V P := (h.below hb).more hb.size
theorem CLies.bool {w : World} {B : Nat} {A : Option Addr} {l : List Bool} (h : CLies w B A (l.map .bool)) {j : Nat} (hj : j < l.length) : ∃ g o, A = some ⟨g, o, none⟩ ∧ g < B ∧ w.cell? ⟨g, o + j, none⟩ = some (.bool l[j]) := by
  obtain ⟨g, o, e, hg, hc⟩ := h.at_ (j := j) (by simpa using hj)
  exact ⟨g, o, e, hg, by simpa using hc⟩
theorem CLies.int {w : World} {B : Nat} {A : Option Addr} {l : List Int} (h : CLies w B A (l.map iV6)) {j : Nat} (hj : j < l.length) : ∃ g o, A = some ⟨g, o, none⟩ ∧ g < B ∧ w.cell? ⟨g, o + j, none⟩ = some (.int .i64 l[j]) := by
  obtain ⟨g, o, e, hg, hc⟩ := h.at_ (j := j) (by simpa using hj)
  exact ⟨g, o, e, hg, by simpa [iV6] using hc⟩

def regV (V : Vw) (k : Nat) : Option Int := if V.K[k]? = some true then some (V.R.getD k 0) else none
def wordV (V : Vw) (a : Int) : Option Int := if 0 ≤ a ∧ a < V.W.length then some (V.W.getD a.toNat 0) else none
def layV (V : Vw) (x : Lc) (t : List Int) : Option Int :=
  if x.k = 1 then some x.n else if x.k = 2 then regV V x.n.toNat else if x.k = 3 then some (wrap64 (V.B + x.n)) else if x.k = 4 then wordV V (t.getD 0 0)
  else if x.k = 5 then some (wrap64 (t.getD 0 0 + t.getD 1 0)) else some (wrap64 (-t.getD 0 0))
def LaysR (o : Option Int) (w : World) (e : Ending) (w' : World) : Prop := e = .returned (.tuple #[.int .i64 (o.getD 0), .bool o.isSome]) ∧ Below w.heap.size w w'

set_option maxRecDepth 100000 in
theorem lays_1 (n : Int) (V : Vw) (P : Vp) (t : Value) (w : World) : Calls Try.prog 70 #[.int .i64 n, t, .agg (vK V P)] w (LaysR (some n) w) := by
  have hb := Lib.hid (below_lnew w (.cells (vK V P) 42))
  unfold vK at hb
  unfold vK
  go_enter Try.func70, Try.ntmps70
  go_wp2
  go_ret2
  exact ⟨rfl, hb.out⟩
set_option maxRecDepth 100000 in
theorem lays_3 (n : Int) (V : Vw) (P : Vp) (t : Value) (w : World) : Calls Try.prog 78 #[.int .i64 n, t, .agg (vK V P)] w (LaysR (some (wrap64 (V.B + n))) w) := by
  have hb := Lib.hid (below_lnew w (.cells (vK V P) 42))
  unfold vK at hb
  unfold vK
  go_enter Try.func78, Try.ntmps78
  go_wp2
  go_ret2
  exact ⟨rfl, hb.out⟩
set_option maxRecDepth 100000 in
theorem lays_2 (n : Nat) (V : Vw) (P : Vp) (t : Value) (w : World) (_hn : n < 16) (hV : VLies w w.heap.size V P) : Calls Try.prog 74 #[.int .i64 n, t, .agg (vK V P)] w (LaysR (regV V n) w) := by
  have hb0 := below_lnew w (.cells (vK V P) 42)
  have HV := Lib.hid (hV.below hb0)
  have hb := Lib.hid hb0
  have hnK := hV.nK
  have hnR := hV.nR
  unfold vK at hb HV
  unfold vK
  clear hb0 hV
  by_cases h1 : n < V.K.length
  · obtain ⟨g, o, hA, hg, c1⟩ := HV.out.k.bool h1
    have h1i : (n : Int) < (V.K.length : Int) := by omega
    rw [hA]
    rw [hA] at c1 hb HV
    cases hk : V.K[n] with
    | false =>
      have HR := Lib.hid (show regV V n = none by unfold regV; rw [List.getElem?_eq_getElem h1, hk]; rfl)
      rw [hk] at c1
      go_enter Try.func74, Try.ntmps74
      go_wp2
      go_ret2
      exact ⟨by rw [HR.out]; rfl, hb.out⟩
    | true =>
      rw [hk] at c1
      by_cases h2 : n < V.R.length
      · have HR := Lib.hid (show regV V n = some V.R[n] by unfold regV; rw [List.getElem?_eq_getElem h1, hk, if_pos rfl]; simp [h2])
        obtain ⟨g', o', hA2, hg', c2⟩ := HV.out.r.int h2
        have h2i : (n : Int) < (V.R.length : Int) := by omega
        rw [hA2]
        rw [hA2] at hb c1 c2
        go_enter Try.func74, Try.ntmps74
        go_wp2
        go_ret2
        exact ⟨by rw [HR.out]; rfl, hb.out⟩
      · have HR := Lib.hid (show regV V n = some 0 by unfold regV; rw [List.getElem?_eq_getElem h1, hk, if_pos rfl]; simp [show V.R.length ≤ n by omega])
        have h2i : (V.R.length : Int) ≤ (n : Int) := by omega
        go_enter Try.func74, Try.ntmps74
        go_wp2
        go_ret2
        exact ⟨by rw [HR.out]; rfl, hb.out⟩
  · have HR := Lib.hid (show regV V n = none by unfold regV; rw [List.getElem?_eq_none (by omega)]; rfl)
    have h1i : (V.K.length : Int) ≤ (n : Int) := by omega
    go_enter Try.func74, Try.ntmps74
    go_wp2
    go_ret2
    exact ⟨by rw [HR.out]; rfl, hb.out⟩
set_option maxRecDepth 100000 in
theorem lays_4 (n : Int) (V : Vw) (P : Vp) (g o c : Nat) (a : Int) (w : World) (hV : VLies w w.heap.size V P) (hg : g < w.heap.size) (_hc : 1 ≤ c) (c0 : w.cell? ⟨g, o, none⟩ = some (.int .i64 a)) :
    Calls Try.prog 82 #[.int .i64 n, .slice (some ⟨g, o, none⟩) 1 c, .agg (vK V P)] w (LaysR (wordV V a) w) := by
  have hb0 := below_lnew w (.cells (vK V P) 42)
  have HV := Lib.hid (hV.below hb0)
  have hb := Lib.hid hb0
  have d0 := (hb0.cell (p := ⟨g, o, none⟩) hg).trans c0
  have hnW := hV.nW
  unfold vK at hb HV d0
  unfold vK
  clear hb0 hV c0
  by_cases h0 : a < 0
  · have HR := Lib.hid (show wordV V a = none from if_neg (by omega))
    go_enter Try.func82, Try.ntmps82
    go_wp2
    go_ret2
    exact ⟨by rw [HR.out]; rfl, hb.out⟩
  · by_cases h1 : (V.W.length : Int) ≤ a
    · have HR := Lib.hid (show wordV V a = none from if_neg (by omega))
      go_enter Try.func82, Try.ntmps82
      go_wp2
      go_ret2
      exact ⟨by rw [HR.out]; rfl, hb.out⟩
    · obtain ⟨j, rfl⟩ : ∃ j : Nat, a = j := ⟨a.toNat, by omega⟩
      have h2 : j < V.W.length := by omega
      have HR := Lib.hid (show wordV V j = some V.W[j] by unfold wordV; rw [if_pos (by omega)]; simp [h2])
      obtain ⟨g', o', hA, hg', c1⟩ := HV.out.w.int h2
      rw [hA]
      rw [hA] at c1 hb d0
      go_enter Try.func82, Try.ntmps82
      go_wp2
      go_ret2
      exact ⟨by rw [HR.out]; rfl, hb.out⟩
set_option maxRecDepth 100000 in
theorem lays_5 (n : Int) (V : Vw) (P : Vp) (g o c : Nat) (a b : Int) (w : World) (hg : g < w.heap.size) (_hc : 2 ≤ c) (c0 : w.cell? ⟨g, o, none⟩ = some (.int .i64 a)) (c1 : w.cell? ⟨g, o + 1, none⟩ = some (.int .i64 b)) :
    Calls Try.prog 86 #[.int .i64 n, .slice (some ⟨g, o, none⟩) 2 c, .agg (vK V P)] w (LaysR (some (wrap64 (a + b))) w) := by
  have hb0 := below_lnew w (.cells (vK V P) 42)
  have hb := Lib.hid hb0
  have d0 := (hb0.cell (p := ⟨g, o, none⟩) hg).trans c0
  have d1 := (hb0.cell (p := ⟨g, o + 1, none⟩) hg).trans c1
  unfold vK at hb d0 d1
  unfold vK
  clear hb0 c0 c1
  go_enter Try.func86, Try.ntmps86
  go_wp2
  go_region
  go_wp2
  go_ret2
  exact ⟨rfl, hb.out.drew⟩
set_option maxRecDepth 100000 in
theorem lays_6 (n : Int) (V : Vw) (P : Vp) (g o c : Nat) (a : Int) (w : World) (hg : g < w.heap.size) (_hc : 1 ≤ c) (c0 : w.cell? ⟨g, o, none⟩ = some (.int .i64 a)) :
    Calls Try.prog 90 #[.int .i64 n, .slice (some ⟨g, o, none⟩) 1 c, .agg (vK V P)] w (LaysR (some (wrap64 (-a))) w) := by
  have hb0 := below_lnew w (.cells (vK V P) 42)
  have hb := Lib.hid hb0
  have d0 := (hb0.cell (p := ⟨g, o, none⟩) hg).trans c0
  unfold vK at hb d0
  unfold vK
  clear hb0 c0
  go_enter Try.func90, Try.ntmps90
  go_wp2
  go_ret2
  exact ⟨rfl, hb.out⟩
end Go.Proofs.Ytdnpoeegefkoiaa
