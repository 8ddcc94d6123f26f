/-
  Merged for a claim: L7L.
-/
import Derived.Test.YtbkfkdiadeaooaaGreatHJ11
namespace Go.Proofs.YtbkfkdiadeaooaaGreat
open Go Go.RowKit

/-- the list that stands in bytes at a place, and the place behind it -/
def gotS (b : List UInt8) (k : Nat) : Option (List Sp × Nat) :=
  if good false (b.drop k) ∧ hv false (b.drop k) ≤ 4000 then (runS b (k + lg (b.drop k) 10) (hv false (b.drop k)).toNat).bind fun s => if rightL s.1 = true then some (s.1, s.2.1) else none
  else none
def gsE (b : List UInt8) (i : Int) : Int := if i < 0 ∨ (b.length : Int) < i then 1 else if (gotS b i.toNat).isSome then 0 else 5
def gsO (b : List UInt8) (i : Int) : List Sp × Nat := if i < 0 ∨ (b.length : Int) < i then ([], 0) else (gotS b i.toNat).getD ([], 0)
def gsL (b : List UInt8) (i : Int) : List Sp := (gsO b i).1
def gsN (b : List UInt8) (i : Int) : Int := (gsO b i).2
theorem gs_arg {b : List UInt8} {i : Int} (h : i < 0 ∨ (b.length : Int) < i) : gsE b i = 1 ∧ gsL b i = [] ∧ gsN b i = 0 := by
  unfold gsE gsL gsN gsO; simp only [if_pos h]; exact ⟨trivial, trivial, rfl⟩
theorem gs_none {b : List UInt8} {k : Nat} (h : k ≤ b.length) (hg : gotS b k = none) : gsE b k = 5 ∧ gsL b k = [] ∧ gsN b k = 0 := by
  have h' : ¬ ((k : Int) < 0 ∨ (b.length : Int) < (k : Int)) := by omega
  unfold gsE gsL gsN gsO; simp only [if_neg h', Int.toNat_natCast, hg]; exact ⟨rfl, rfl, rfl⟩
theorem gs_some {b : List UInt8} {k n : Nat} {l : List Sp} (h : k ≤ b.length) (hg : gotS b k = some (l, n)) : gsE b k = 0 ∧ gsL b k = l ∧ gsN b k = n := by
  have h' : ¬ ((k : Int) < 0 ∨ (b.length : Int) < (k : Int)) := by omega
  unfold gsE gsL gsN gsO; simp only [if_neg h', Int.toNat_natCast, hg]; exact ⟨rfl, rfl, rfl⟩
theorem gs_cases {b : List UInt8} (i : Int) : (gsE b i ≠ 0 ∧ gsL b i = [] ∧ gsN b i = 0) ∨ ∃ k n, i = (k : Nat) ∧ k ≤ b.length ∧ gotS b k = some (gsL b i, n) ∧ gsE b i = 0 ∧ gsN b i = n := by
  by_cases h : i < 0 ∨ (b.length : Int) < i
  · obtain ⟨h1, h2, h3⟩ := gs_arg h
    exact .inl ⟨by omega, h2, h3⟩
  · obtain ⟨k, rfl⟩ : ∃ k : Nat, i = k := ⟨i.toNat, by omega⟩
    cases hg : gotS b k with
    | none =>
      obtain ⟨h1, h2, h3⟩ := gs_none (by omega) hg
      exact .inl ⟨by omega, h2, h3⟩
    | some q =>
      obtain ⟨l, n⟩ := q
      obtain ⟨h1, h2, h3⟩ := gs_some (by omega) hg
      exact .inr ⟨k, n, rfl, by omega, by rw [h2]; exact hg, h1, h3⟩
theorem gotS_bad {b : List UInt8} {k : Nat} (h : ¬ good false (b.drop k)) : gotS b k = none := if_neg (fun q => h q.1)
theorem gotS_many {b : List UInt8} {k : Nat} (h : 4000 < hv false (b.drop k)) : gotS b k = none := if_neg (fun q => by omega)
theorem gotS_of {b : List UInt8} {k M k0 : Nat} (hg : good false (b.drop k)) (hM : hv false (b.drop k) = M) (hm : M ≤ 4000) (hk : k + lg (b.drop k) 10 = k0) :
    gotS b k = (runS b k0 M).bind fun s => if rightL s.1 = true then some (s.1, s.2.1) else none := by
  unfold gotS
  rw [if_pos ⟨hg, by omega⟩, hM, hk, Int.toNat_natCast]
theorem gotS_few {b : List UInt8} {k0 M j k : Nat} {ls : List Sp} {last : Int} (h : runS b k0 j = some (ls, k, last)) (hj : j < M) (hr : rdS b k last = none) : ((runS b k0 M).bind fun s => if rightL s.1 = true then some (s.1, s.2.1) else none) = none := by
  have := runS_none (m := M - (j + 1)) (runS_stop h hr)
  rw [show j + 1 + (M - (j + 1)) = M by omega] at this
  rw [this]
  rfl
theorem gotS_end {b : List UInt8} {k0 M k : Nat} {ls : List Sp} {last : Int} (h : runS b k0 M = some (ls, k, last)) : ((runS b k0 M).bind fun s => if rightL s.1 = true then some (s.1, s.2.1) else none) = if rightL ls = true then some (ls, k) else none := by
  rw [h]
  rfl

theorem res_spans {fn : Func} {p u v : Tmp} (h : fn.results = #[.cell p 69, .cell u 3, .tmp v]) (tmps : Array Value) (w : World) (g g2 : Nat) (x y : Value) (hp : tmps.getD p undef = .pointer (some ⟨g, 0, none⟩)) (hp2 : tmps.getD u undef = .pointer (some ⟨g2, 0, none⟩))
    (hc : Boxed w g 69 x) (hc2 : Boxed w g2 3 y) : (results fn tmps).run Tryz.prog w = .ok (.tuple #[x, y, tmps.getD v undef]) w := by
  have hp' : tmps[p]?.getD undef = .pointer (some ⟨g, 0, none⟩) := by simpa using hp
  have hp2' : tmps[u]?.getD undef = .pointer (some ⟨g2, 0, none⟩) := by simpa using hp2
  simp [results, h, hp', hp2', asAddr, run_loadVar_slice Tryz.underlying69 hc.cell, run_loadVar_int Tryz.underlying3 hc2.cell]

def GetR7 (b : List UInt8) (i : Int) (w : World) (e : Ending) (w' : World) : Prop :=
  ∃ v, e = .returned (.tuple #[v, .int .i64 (gsN b i), .int .i64 (gsE b i)]) ∧ SpOwn w' w.heap.size v (gsL b i) ∧ Below w.heap.size w w'
def RunIs (b : List UInt8) (k0 : Nat) (pre : List (Ps × Nat)) (k : Nat) : Prop := ∃ last, runS b k0 pre.length = some (pre.map qsp, k, last)

/-- the two results that lie in variables -/
def GetM (w W : World) (v : Value) (n : Int) : Prop := Boxed W w.heap.size 69 v ∧ Boxed W (w.heap.size + 1) 3 (.int .i64 n) ∧ Below w.heap.size w W
theorem GetM.setL {w W : World} {v : Value} {n : Int} (h : GetM w W v n) (u : Value) : GetM w (W.setCell ⟨w.heap.size, 0, none⟩ u) u n :=
  ⟨Boxed.set u h.1, (Below.heap_setCell W ⟨w.heap.size, 0, none⟩ u (w.heap.size + 1) (by dsimp only; omega)).trans h.2.1, h.2.2.setCell (p := ⟨w.heap.size, 0, none⟩) (Nat.le_refl _) u⟩
theorem GetM.setN {w W : World} {v : Value} {n : Int} (h : GetM w W v n) (m : Int) : GetM w (W.setCell ⟨w.heap.size + 1, 0, none⟩ (.int .i64 m)) v m :=
  ⟨(Below.heap_setCell W ⟨w.heap.size + 1, 0, none⟩ (.int .i64 m) w.heap.size (by dsimp only; omega)).trans h.1, Boxed.set _ h.2.1, h.2.2.setCell (p := ⟨w.heap.size + 1, 0, none⟩) (show w.heap.size ≤ w.heap.size + 1 by omega) _⟩
theorem GetM.put {w W : World} {v : Value} {n : Int} {D : Nat} {o : Obj} (h : GetM w W v n) (o' : Obj) (hD : W.heap[D]? = some o) (ho : o.isCells = false) (hn : w.heap.size ≤ D) : GetM w (W.putObj D o') v n :=
  ⟨Boxed.put h.1 o' hD ho, Boxed.put h.2.1 o' hD ho, below_put h.2.2 o' hn⟩
theorem GetM.below {w W W' : World} {v : Value} {n : Int} (h : GetM w W v n) (hb : Below W.heap.size W W') : GetM w W' v n :=
  ⟨Boxed.below h.1 hb h.1.lt, Boxed.below h.2.1 hb h.2.1.lt, h.2.2.trans (hb.mono h.2.2.size)⟩
theorem GetM.hold {w W : World} {v : Value} {n : Int} {D : Nat} {o : Obj} (_ : GetM w W v n) (hK : W.heap[D]? = some o) (hD : w.heap.size + 2 ≤ D) (u u2 u3 u4 : Value) :
    (((W.setCell ⟨w.heap.size, 0, none⟩ u).setCell ⟨w.heap.size + 1, 0, none⟩ u2)).heap[D]? = some o ∧ u3 = u3 ∧ u4 = u4 :=
  ⟨(Below.heap_setCell _ ⟨w.heap.size + 1, 0, none⟩ u2 D (by dsimp only; omega)).trans ((Below.heap_setCell W ⟨w.heap.size, 0, none⟩ u D (by dsimp only; omega)).trans hK), rfl, rfl⟩

theorem GetM.lets {E : Nat → Prop} {B : Nat} {w W W' : World} {v : Value} {n : Int} (h : GetM w W v n) (hl : Lets E B W W') (hE : ∀ k, E k → w.heap.size + 2 ≤ k) (hB : w.heap.size ≤ B) : GetM w W' v n :=
  ⟨Boxed.lets h.1 hl (fun q => by have := hE _ q; omega), Boxed.lets h.2.1 hl (fun q => by have := hE _ q; omega), hl.below h.2.2 (Nat.le_refl _) (fun k q => by have := hE k q; omega) hB⟩
theorem POwn.set {B : Nat} {W : World} {v : Value} {l : List Ps} {p : Addr} (h : POwn W B v l) (u : Value) (hp : p.block < B) : POwn (W.setCell p u) B v l :=
  h.kept fun k e => Below.heap_setCell W p u k (fun q => by have := (h.lt k e).1; omega)
theorem SpOwn.set {B : Nat} {W : World} {v : Value} {l : List Sp} {p : Addr} (h : SpOwn W B v l) (u : Value) (hp : p.block < B) : SpOwn (W.setCell p u) B v l := by
  obtain ⟨ps, e, ho, hm⟩ := h
  exact ⟨ps, e, ho.set u hp, fun q hq => (hm q hq).set u hp⟩
def GetI7 (b : List UInt8) (k0 : Nat) (w : World) (B : Nat) (pre : List (Ps × Nat)) (W : World) : Prop := ∃ v k, GetM w W v (k : Nat) ∧ RunIs b k0 pre k ∧ SpOwn W B v (pre.map qsp)

attribute [local go_sem] Oper.semAt_some wideFn wideDepth
set_option maxRecDepth 100000 in
set_option maxHeartbeats 4000000 in
theorem get7_any (A : Option Addr) (c : Nat) (b : List UInt8) (i : Int) (w : World) (hn : b.length ≤ 1099511627776) (h : Lies w w.heap.size A b) :
    Calls Tryz.prog 39 #[.slice A b.length c, .int .i64 i] w (GetR7 b i w) := by
  refine calls_loop Tryz.func39 rfl ?_
  simp only [Tryz.ntmps39, List.size_toArray, List.length_cons, List.length_nil, Nat.reduceAdd, Nat.reduceSub, Array.replicate_succ, Array.replicate_zero, List.push_toArray, List.append_toArray, List.nil_append, List.cons_append]
  have hb0 := below_lnew2 w (.cells #[.slice none 0 0] 69) (.cells #[.int .i64 0] 3)
  have hL0 := (h.below hb0).more hb0.size
  have HU := Lib.hid (U_any A c b i _ _ hn hL0)
  have bL := Lib.hid ((Boxed.new w 69 (.slice none 0 0)).alloc (.cells #[.int .i64 0] 3))
  have bN := Lib.hid (Boxed.new (w.alloc (.cells #[.slice none 0 0] 69)) 3 (.int .i64 0))
  simp only [World.size_alloc] at bN
  have hlc := bL.out.cell
  have hlf := bL.out.frozen
  have hnc := bN.out.cell
  have hnf := bN.out.frozen
  have HB := Lib.hid hb0
  have hzW0 := Lib.hid (show ((w.alloc (.cells #[.slice none 0 0] 69)).alloc (.cells #[.int .i64 0] 3)).heap.size = w.heap.size + 2 by simp)
  have HM := Lib.hid (show GetM w _ (.slice none 0 0) 0 from ⟨bL.out, bN.out, hb0⟩)
  by_cases harg : i < 0 ∨ (b.length : Int) < i
  · obtain ⟨q1, q2, q3⟩ := rd_arg (b := false) harg
    rw [q1, q2, q3] at HU
    have HG := Lib.hid (gs_arg harg)
    clear harg h q1 q2 q3 hb0 hL0
    go_wp2_with fail
    generalize (w.alloc (.cells #[.slice none 0 0] 69)).alloc (.cells #[.int .i64 0] 3) = W at *
    refine HU.out.mono ?_
    rintro e w1 ⟨rfl, rfl⟩
    go_wp2_with fail
    exact ret_plain rfl (res_spans rfl _ _ w.heap.size (w.heap.size + 1) _ _ rfl rfl (((HM.out.setN _).setL (.slice none 0 0)).setN 0).1 (((HM.out.setN _).setL (.slice none 0 0)).setN 0).2.1) ⟨_, by rw [HG.out.1, HG.out.2.2]; rfl, by rw [HG.out.2.1]; exact SpOwn.nil _ _, (((HM.out.setN _).setL (.slice none 0 0)).setN 0).2.2⟩
  · obtain ⟨k, rfl⟩ : ∃ k : Nat, i = k := ⟨i.toNat, by omega⟩
    have hk : k ≤ b.length := by omega
    clear harg
    by_cases hg : good false (b.drop k)
    · obtain ⟨q1, q2, q3⟩ := rd_ok hk hg
      rw [q1, q2, q3] at HU
      have hrg := hv_rng hg
      simp only [rng, Bool.false_eq_true, if_false] at hrg
      obtain ⟨hr0, hr1⟩ := hrg
      obtain ⟨g1, g2, _, _⟩ := lg_has 10 (b.drop k) hg.1
      simp at g2
      have h0 := hg.1
      obtain ⟨M, hM⟩ : ∃ M : Nat, hv false (b.drop k) = M := ⟨(hv false (b.drop k)).toNat, by omega⟩
      have HMany := Lib.hid (fun h16 => gotS_many (b := b) (k := k) h16)
      have HOf := Lib.hid (fun h16 => gotS_of (b := b) (k := k) (M := M) hg hM h16 rfl)
      rw [hM] at HU HMany hr1
      clear q1 q2 q3 hr0 hg hM h0
      have hkn : ((k : Int) + (lg (b.drop k) 10 : Int)) = ((k + lg (b.drop k) 10 : Nat) : Int) := by omega
      rw [hkn] at HU
      have hk0 : k + lg (b.drop k) 10 ≤ b.length := by omega
      clear hkn g1 g2
      generalize k + lg (b.drop k) 10 = k0 at *
      by_cases h16 : 4000 < M
      · have HG := Lib.hid (gs_none hk (HMany.out (by omega)))
        have h16i : (4000 : Int) < (M : Int) := by omega
        clear HMany HOf h hb0 hL0
        go_wp2_with fail
        generalize (w.alloc (.cells #[.slice none 0 0] 69)).alloc (.cells #[.int .i64 0] 3) = W at *
        refine HU.out.mono ?_
        rintro e w1 ⟨rfl, rfl⟩
        go_wp2_with fail
        exact ret_plain rfl (res_spans rfl _ _ w.heap.size (w.heap.size + 1) _ _ rfl rfl (((HM.out.setN _).setL (.slice none 0 0)).setN 0).1 (((HM.out.setN _).setL (.slice none 0 0)).setN 0).2.1) ⟨_, by rw [HG.out.1, HG.out.2.2]; rfl, by rw [HG.out.2.1]; exact SpOwn.nil _ _, (((HM.out.setN _).setL (.slice none 0 0)).setN 0).2.2⟩
      · have h16i : (M : Int) ≤ 4000 := by omega
        have HOF := Lib.hid (HOf.out (by omega))
        have HPL := Lib.hid h
        clear HMany HOf h hb0 hL0
        go_wp2_with fail
        generalize (w.alloc (.cells #[.slice none 0 0] 69)).alloc (.cells #[.int .i64 0] 3) = W at *
        refine HU.out.mono ?_
        rintro e w1 ⟨rfl, rfl⟩
        have HM16 := Lib.hid h16
        clear HU hr1 h16
        go_wp2_with fail
        have HM1 := Lib.hid (HM.out.setN (k0 : Int))
        have hzW : W.heap.size = w.heap.size + 2 := hzW0.out
        have hB1 := Lib.hid (below_lnew3 (W.setCell ⟨w.heap.size + 1, 0, none⟩ (.int .i64 k0)) (.cells #[.slice A b.length c] 22) (.cells #[.int .i64 k0] 3) (.cells #[.int .i64 M] 3))
        refine (said_any A _ c k0 M _).mono ?_
        rintro e w1 ⟨rfl, rfl⟩
        obtain ⟨W1, hW1⟩ : ∃ W1, W.setCell ⟨w.heap.size + 1, 0, none⟩ (.int .i64 k0) = W1 := ⟨_, rfl⟩
        rw [hW1] at HM1 hB1 ⊢
        have hzW1 : W1.heap.size = w.heap.size + 2 := by rw [← hW1, World.size_setCell, hzW]
        have b1 := ((Boxed.new W1 22 (.slice A b.length c)).alloc (.cells #[.int .i64 k0] 3)).alloc (.cells #[.int .i64 M] 3)
        have b2 := (Boxed.new (W1.alloc (.cells #[.slice A b.length c] 22)) 3 (.int .i64 k0)).alloc (.cells #[.int .i64 M] 3)
        have b3 := Boxed.new ((W1.alloc (.cells #[.slice A b.length c] 22)).alloc (.cells #[.int .i64 k0] 3)) 3 (.int .i64 M)
        simp only [World.size_alloc, hzW1] at b1 b2 b3
        have hz2 : (((W1.alloc (.cells #[.slice A b.length c] 22)).alloc (.cells #[.int .i64 k0] 3)).alloc (.cells #[.int .i64 M] 3)).heap.size = w.heap.size + 5 := by simp; omega
        have HM2 := Lib.hid (HM1.out.below hB1.out)
        simp only [hzW1]
        obtain ⟨W2, hW2⟩ : ∃ W2, ((W1.alloc (.cells #[.slice A b.length c] 22)).alloc (.cells #[.int .i64 k0] 3)).alloc (.cells #[.int .i64 M] 3) = W2 := ⟨_, rfl⟩
        rw [hW2] at b1 b2 b3 hz2 HM2 ⊢
        have HL2 := Lib.hid (HPL.out.below HM2.out.2.2)
        have hc1 := b1.cell
        have hc3 := b3.cell
        have HB2 := Lib.hid b2
        clear hW1 hW2 hB1 hzW1 b1 b2 b3 HM1 hlc hlf hnc hnf
        have hM4 : M ≤ 4000 := by omega
        go_wp2_with fail
        refine range_wp (gf := 87) (lb := #[.pointer (some ⟨w.heap.size + 2 + 1 + 1, 0, none⟩), .pointer (some ⟨w.heap.size + 2, 0, none⟩), .pointer (some ⟨w.heap.size + 2 + 1, 0, none⟩)]) rfl (run_enterC Tryz.func87 (by kernel_rfl) (by kernel_rfl))
          (said_seq (w.heap.size + 2 + 1 + 1) (w.heap.size + 2) (w.heap.size + 2 + 1) w.heap.size c M k0 A b W2 (by omega) (by omega) (by omega) (by omega) hc3 hc1 HB2.out HL2.out (by omega) hM4 hk0 hn) (fun _ => rfl) (fun k q => by omega) (fun k q => by omega)
          (GetI7 b k0 w (w.heap.size + 5)) (fun _ _ _ => False)
          (fun s A' C hl ⟨v, k, h1, h2, h3⟩ => ⟨v, k, h1.lets hl (fun k q => by omega) (by omega), h2, h3.lets hl (fun k q => by omega)⟩)
          (fun c s => fun _ _ _ h => h)
          ⟨_, k0, HM2.out, ⟨0, rfl⟩, SpOwn.nil _ _⟩ ?round ?done ?stop
        case round =>
          rintro l pre x Wr W hzr ⟨v, kk, hg, hrun, psr, epr, hpo, hpm⟩ hle _ hnx
          obtain ⟨k', last', hr', hlen', hrd', hlo'⟩ := hnx
          have hpl : psr.length = pre.length := by have := congrArg List.length epr; simpa using this
          have hrun2 := runS_succ hr' hrd'
          have HRN := Lib.hid (show RunIs b k0 (pre ++ [x]) x.2 from ⟨_, by
            rw [List.length_append, List.map_append]
            exact hrun2⟩)
          have hvr := Lib.hid (fun k e => (hpo.lt k e).2)
          have hzw := hle.size
          have hg0 := hg.lets hle (fun k q => by omega) (by omega)
          have ho0 := hpo.lets hle (fun k q => by omega)
          have hm0 := fun p hp => (hpm p hp).lets hle (fun k q => by omega)
          have hbx := below_lnew W (.cells (pK x.1) 77)
          have hg1 := Lib.hid (hg0.below hbx)
          have ho1 := Lib.hid (ho0.below hbx)
          have hm1 := Lib.hid (fun p hp => (hm0 p hp).below hbx)
          have hlo1 := Lib.hid (hlo'.below hbx)
          have hX1 := Lib.hid (spAt_new W x.1)
          have hS1 := Lib.hid (Same.of_all (K := fun k => (k < w.heap.size ∨ k = w.heap.size + 2 ∨ k = w.heap.size + 2 + 1) ∨ Wr.heap.size ≤ k) hbx)
          have hlow := Lib.hid (fun k e => (ho0.lt k e))
          clear hg hpo hpm hrun hle hg0 ho0 hm0 hbx hr' hrd' hlo' hrun2
          obtain ⟨⟨f, t, a, A', c'⟩, n⟩ := x
          simp only [pK] at hg1 ho1 hm1 hX1 hS1 hlo1
          dsimp only at HRN hlo1
          unfold pK
          gi_wp2
          refine ⟨nocs_alloc _ _, hS1.out, fun W3 hl2 hs2 hz3 => ?_⟩
          have hX2 : SpAt W3 W.heap.size ⟨f, t, a, A', c'⟩ := (hl2 (fun _ => False)).blk _ _ hX1.out (fun q => q) (.inr rfl)
          have hg2 := hg1.out.lets (hl2 (fun _ => False)) (fun _ q => q.elim) (by omega)
          have ho2 := ho1.out.lets (hl2 (fun _ => False)) (fun _ q => q.elim)
          have HM3 := Lib.hid (fun p hp => (hm1.out p hp).lets (hl2 (fun _ => False)) (fun _ q => q.elim))
          have HLO := Lib.hid (hlo1.out.lets (hl2 (fun _ => False)) (fun _ q => q.elim))
          have hz4 : W3.heap.size = W.heap.size + 1 := by simpa using hz3
          have hw4 : w.heap.size + 5 ≤ W3.heap.size := by omega
          have x0 := hX2.fr
          have x1 := hX2.to
          have x2 := hX2.at_
          have xf := hX2.frozen
          dsimp only at x0 x1 x2
          have HG3 := Lib.hid hg2
          have HO3 := Lib.hid ho2
          have hlc3 := hg2.1.cell
          have hlf3 := hg2.1.frozen
          have HZ5 := Lib.hid (show w.heap.size + 5 ≤ (W3.alloc (.cells #[.int .i64 f, .int .i64 t, .slice A' a.length c'] 77)).heap.size by simp; omega)
          have HP := Lib.hid (POwn.below ho2 (below_lnew W3 (.cells #[.int .i64 f, .int .i64 t, .slice A' a.length c'] 77)))
          have HY := Lib.hid (spAt_new W3 ⟨f, t, a, A', c'⟩)
          have hG4 := hg2.below (below_lnew W3 (.cells #[.int .i64 f, .int .i64 t, .slice A' a.length c'] 77))
          have HG4 := Lib.hid hG4
          simp only [pK] at HY
          have hln : psr.length ≤ 1000000 := by omega
          have HZ4 := Lib.hid hz4
          clear hl2 hX2 hg2 ho2 hz3 hz4 hg1 ho1 hm1 hX1 hS1 hlo1 hG4
          gi_wp2_with (gi_at_builtin
                       refine app_spanIn _ rfl (.tmp 29) (.tmp 31) rfl (w.heap.size + 5) v psr rfl HP.out W3.heap.size 1 ⟨f, t, a, A', c'⟩ rfl HY.out hln HZ5.out ?_
                       intro v6 W6 hp6 hg6
                       have hb6 : GetM w W6 v kk := ⟨Boxed.kept HG4.out.1 hg6 (fun e => by have := (hlow.out _ e.symm).1; omega), Boxed.kept HG4.out.2.1 hg6 (fun e => by have := (hlow.out _ e.symm).1; omega), HG4.out.2.2.grown hg6 (by have := HZ5.out; omega) (fun k e => by have := (hlow.out _ e).1; omega)⟩
                       have hc6 := hb6.1.cell
                       have hf6 := hb6.1.frozen
                       have hc7 := hb6.2.1.cell
                       have hf7 := hb6.2.1.frozen
                       have HB6 := Lib.hid hb6
                       have HP6 := Lib.hid hp6
                       have HG6 := Lib.hid hg6
                       obtain ⟨A6, c6, e6, _⟩ := hp6.form
                       rw [List.length_append, List.length_singleton, hpl] at e6
                       subst e6
                       clear hb6 hp6 hg6)
          have hlc := fun k => hlow.out k
          have hnl : ∀ u u2 : Value, ∀ {B' : Nat} {vl : Value} {ls : List Lc}, w.heap.size + 5 ≤ B' → LOwn W3 B' vl ls → LOwn ((W6.setCell ⟨w.heap.size, 0, none⟩ u).setCell ⟨w.heap.size + 1, 0, none⟩ u2) B' vl ls := fun u u2 B' vl ls hB' ho => by
            have h3 := (ho.below (below_lnew W3 (.cells #[.int .i64 f, .int .i64 t, .slice A' a.length c'] 77))).grown HP.out HG6.out
            exact (h3.set _ (show w.heap.size < B' by omega)).set _ (show w.heap.size + 1 < B' by omega)
          refine ⟨?_, ?_, .slice A6 (pre.length + 1) c6, n, (HB6.out.setL _).setN _, HRN.out, psr ++ [⟨f, t, a, A', c'⟩], ?_, ?_, ?_⟩
          · exact (((nocs_alloc _ _).trans (Nocs.of_grown HG6.out HP.out.cells)).trans (nocs_set _ _ _)).trans (nocs_set _ _ _)
          · have h3 := hs2.trans (Same.of_all (below_lnew _ (.cells #[.int .i64 f, .int .i64 t, .slice A' a.length c'] 77)))
            have h4 := h3.trans (same_grown HG6.out (fun k e q => by have h5 := hlc k e; have h6 := hvr.out k e; omega))
            exact (h4.trans (same_set _ _ _ (fun q => by dsimp only at q; omega))).trans (same_set _ _ _ (fun q => by dsimp only at q; omega))
          · rw [List.map_append, epr, List.map_append]
            rfl
          · refine HP6.out.kept fun k e => ?_
            have := (HP6.out.lt k e).1
            exact (Below.heap_setCell _ ⟨w.heap.size + 1, 0, none⟩ _ k (by dsimp only; omega)).trans (Below.heap_setCell W6 ⟨w.heap.size, 0, none⟩ _ k (by dsimp only; omega))
          · intro p hp
            rcases List.mem_append.1 hp with h | h
            · exact hnl _ _ (Nat.le_refl _) (HM3.out p h)
            · rw [List.mem_singleton] at h
              subst h
              exact hnl _ _ (Nat.le_refl _) (HLO.out.base (by omega))
        case done =>
          rintro D xs W hD ⟨kk, last, hrun, hcase⟩ ⟨v, k', hg, hrun', hso⟩ hK
          obtain ⟨last', hrun'⟩ := hrun'
          have hkk : k' = kk := by
            rw [hrun] at hrun'
            simp only [Option.some.injEq, Prod.mk.injEq] at hrun'
            exact hrun'.2.1.symm
          subst hkk
          obtain ⟨_, _, _, _, _, hsm⟩ := runS_has hk0 hrun
          have hxs : xs.length ≤ M := by rcases hcase with h | h <;> omega
          obtain ⟨A4, c4, ps4, rfl, e4, h41, h42, h43⟩ := hso.form
          have hln : ps4.length = xs.length := by have := congrArg List.length e4; simpa using this
          have hc4 := hg.1.cell
          have hf4 := hg.1.frozen
          have hc5 := hg.2.1.cell
          have hf5 := hg.2.1.frozen
          have HSM := Lib.hid (show Sm ps4 from ⟨by omega, fun p hp => by
            have h1 := hsm p.sp (by rw [← e4]; exact List.mem_map_of_mem hp)
            have h2 : p.sp.a = p.a := rfl
            rw [h2] at h1
            omega⟩)
          have HSL := Lib.hid h43
          have HE4 := Lib.hid e4
          have HGG := Lib.hid hg
          have HSO := Lib.hid hso
          have HRUN := Lib.hid hrun
          have HK1 := Lib.hid hK
          have HLN := Lib.hid hln
          clear hsm h43 e4 hg hso hK hrun' h42
          rcases hcase with hfull | ⟨hfew, hrn⟩
          · have HFU := Lib.hid hfull
            have hlM : (ps4.length : Int) = M := by omega
            have HRT := Lib.hid (right7_any A4 c4 ps4 W HSM.out HSL.out)
            unfold BoolR at HRT
            rw [HE4.out] at HRT
            have HEN := Lib.hid (gotS_end (show runS b k0 M = some (xs.map qsp, k', last) by rw [← hfull]; exact hrun))
            clear hln hfull hrun
            cases hrt : rightL (xs.map qsp)
            · have HG := Lib.hid (gs_none hk (HOF.out.trans (HEN.out.trans (by rw [hrt]; rfl))))
              rw [hrt] at HRT
              clear hrt
              go_wp2_with fail
              refine HRT.out.mono ?_
              rintro e W4 ⟨rfl, hb4⟩
              have hg4 := HGG.out.below hb4
              have hc4' := hg4.1.cell
              have hf4' := hg4.1.frozen
              have hc5' := hg4.2.1.cell
              have hf5' := hg4.2.1.frozen
              have hDl : D < W.heap.size := (Array.getElem?_eq_some_iff.1 HK1.out).1
              have HK2 := Lib.hid (show ((W4.setCell ⟨w.heap.size, 0, none⟩ (.slice none 0 0)).setCell ⟨w.heap.size + 1, 0, none⟩ (.int .i64 0)).heap[D]? = some (.deferred (some [])) from
                (Below.heap_setCell _ ⟨w.heap.size + 1, 0, none⟩ _ D (by dsimp only; omega)).trans ((Below.heap_setCell W4 ⟨w.heap.size, 0, none⟩ _ D (by dsimp only; omega)).trans ((hb4.block D hDl).trans HK1.out)))
              have HG9 := Lib.hid ((hg4.setL (.slice none 0 0)).setN 0)
              clear hb4 hg4
              go_wp2_with fail
              exact ret_mark HK2.out (res_spans rfl _ _ w.heap.size (w.heap.size + 1) _ _ rfl rfl (HG9.out.put (.deferred none) HK2.out rfl (by omega)).1 (HG9.out.put (.deferred none) HK2.out rfl (by omega)).2.1) ⟨_, by rw [HG.out.1, HG.out.2.2]; rfl, by rw [HG.out.2.1]; exact SpOwn.nil _ _, (HG9.out.put (.deferred none) HK2.out rfl (by omega)).2.2⟩
            · have HG := Lib.hid (gs_some hk (HOF.out.trans (HEN.out.trans (by rw [hrt]; rfl))))
              rw [hrt] at HRT
              clear hrt
              go_wp2_with fail
              refine HRT.out.mono ?_
              rintro e W4 ⟨rfl, hb4⟩
              have hg4 := HGG.out.below hb4
              have hc4' := hg4.1.cell
              have hf4' := hg4.1.frozen
              have hc5' := hg4.2.1.cell
              have hf5' := hg4.2.1.frozen
              have hDl : D < W.heap.size := (Array.getElem?_eq_some_iff.1 HK1.out).1
              have HKD := Lib.hid ((hb4.block D hDl).trans HK1.out)
              have HG4 := Lib.hid hg4
              have HO4 := Lib.hid (HSO.out.below hb4)
              clear hb4 hg4
              go_wp2_with fail
              go_region
              go_wp2_with fail
              have HG9 : GetM w ((W4.setCell ⟨w.heap.size, 0, none⟩ (.slice A4 ps4.length c4)).setCell ⟨w.heap.size + 1, 0, none⟩ (.int .i64 k')).drew (.slice A4 ps4.length c4) k' := by
                obtain ⟨g1, g2, g3⟩ := (HG4.out.setL (.slice A4 ps4.length c4)).setN k'
                exact ⟨g1, g2, g3.drew⟩
              have HK2 : ((W4.setCell ⟨w.heap.size, 0, none⟩ (.slice A4 ps4.length c4)).setCell ⟨w.heap.size + 1, 0, none⟩ (.int .i64 k')).drew.heap[D]? = some (.deferred (some [])) :=
                (Below.heap_setCell _ ⟨w.heap.size + 1, 0, none⟩ _ D (by dsimp only; omega)).trans ((Below.heap_setCell W4 ⟨w.heap.size, 0, none⟩ _ D (by dsimp only; omega)).trans HKD.out)
              have HO9 : SpOwn ((W4.setCell ⟨w.heap.size, 0, none⟩ (.slice A4 ps4.length c4)).setCell ⟨w.heap.size + 1, 0, none⟩ (.int .i64 k')).drew (w.heap.size + 5) (.slice A4 ps4.length c4) (xs.map qsp) :=
                SpOwn.lets (E := fun _ => False) (B' := 0) ((HO4.out.set _ (show w.heap.size < w.heap.size + 5 by omega)).set _ (show w.heap.size + 1 < w.heap.size + 5 by omega)) ⟨rfl, rfl, rfl, Nat.le_refl _, fun _ _ h _ _ => h⟩ (fun _ q => q.elim)
              exact ret_mark HK2 (res_spans rfl _ _ w.heap.size (w.heap.size + 1) _ _ rfl rfl (HG9.put (.deferred none) HK2 rfl (by omega)).1 (HG9.put (.deferred none) HK2 rfl (by omega)).2.1)
                ⟨_, by rw [HG.out.1, HG.out.2.2]; rfl, by rw [HG.out.2.1]; exact (HO9.put _ HK2 rfl).base (by omega), (HG9.put (.deferred none) HK2 rfl (by omega)).2.2⟩
          · have HG := Lib.hid (gs_none hk (HOF.out.trans (gotS_few hrun hfew hrn)))
            have hlM : (ps4.length : Int) < M := by omega
            have HK2 := Lib.hid (show ((W.setCell ⟨w.heap.size, 0, none⟩ (.slice none 0 0)).setCell ⟨w.heap.size + 1, 0, none⟩ (.int .i64 0)).heap[D]? = some (.deferred (some [])) from
              (Below.heap_setCell _ ⟨w.heap.size + 1, 0, none⟩ _ D (by dsimp only; omega)).trans ((Below.heap_setCell W ⟨w.heap.size, 0, none⟩ _ D (by dsimp only; omega)).trans HK1.out))
            have HG9 := Lib.hid ((HGG.out.setL (.slice none 0 0)).setN 0)
            clear hrn hfew hln hrun
            go_wp2_with fail
            exact ret_mark HK2.out (res_spans rfl _ _ w.heap.size (w.heap.size + 1) _ _ rfl rfl (HG9.out.put (.deferred none) HK2.out rfl (by omega)).1 (HG9.out.put (.deferred none) HK2.out rfl (by omega)).2.1) ⟨_, by rw [HG.out.1, HG.out.2.2]; rfl, by rw [HG.out.2.1]; exact SpOwn.nil _ _, (HG9.out.put (.deferred none) HK2.out rfl (by omega)).2.2⟩
        case stop =>
          rintro D c pre W hD h hK
          exact h.elim
    · obtain ⟨q1, q2, q3⟩ := rd_form hk hg
      rw [q1, q2, q3] at HU
      have HG := Lib.hid (gs_none hk (gotS_bad hg))
      clear hg h q1 q2 q3 hb0 hL0
      go_wp2_with fail
      generalize (w.alloc (.cells #[.slice none 0 0] 69)).alloc (.cells #[.int .i64 0] 3) = W at *
      refine HU.out.mono ?_
      rintro e w1 ⟨rfl, rfl⟩
      go_wp2_with fail
      exact ret_plain rfl (res_spans rfl _ _ w.heap.size (w.heap.size + 1) _ _ rfl rfl (((HM.out.setN _).setL (.slice none 0 0)).setN 0).1 (((HM.out.setN _).setL (.slice none 0 0)).setN 0).2.1) ⟨_, by rw [HG.out.1, HG.out.2.2]; rfl, by rw [HG.out.2.1]; exact SpOwn.nil _ _, (((HM.out.setN _).setL (.slice none 0 0)).setN 0).2.2⟩
end Go.Proofs.YtbkfkdiadeaooaaGreat
