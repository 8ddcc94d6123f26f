/-
  Contract of unwind.entry.
-/
import Derived.Test.YtpbopehhalicjaaU8F
namespace Go.Proofs.Ytpbopehhalicjaa
open Go Go.RowKit

theorem rdU_none {s : Bool} {b : List UInt8} {k : Nat} {a : Int} (h : nums8 b [16777216, 16777216, bU s, bC s] k = none) : rdU s b k a = none := by
  rw [nums8_four] at h
  unfold rdU
  cases h0 : num8 16777216 b k with
  | none => rfl
  | some g0 =>
    rw [h0] at h
    simp only [Option.bind_some] at h ⊢
    cases h1 : num8 16777216 b g0.2 with
    | none => rfl
    | some g1 =>
      rw [h1] at h
      simp only [Option.bind_some] at h ⊢
      cases h2 : num8 (bU s) b g1.2 with
      | none => rfl
      | some g2 =>
        rw [h2] at h
        simp only [Option.bind_some] at h ⊢
        cases h3 : num8 (bC s) b g2.2 with
        | none => rfl
        | some g3 => rw [h3] at h; cases h
theorem rdU_four {s : Bool} {b : List UInt8} {k n x0 x1 x2 x3 : Nat} {a : Int} (h : nums8 b [16777216, 16777216, bU s, bC s] k = some ([x0, x1, x2, x3], n)) :
    rdU s b k a = (if farE s a x0 x1 x3 = true then none else (rdWs s b x3 n).map fun r => (⟨a + x0, a + x0 + x1, x2, r.1⟩, r.2)) ∧ x0 ≤ 16777216 ∧ x1 ≤ 16777216 ∧ x2 ≤ bU s ∧ x3 ≤ bC s ∧ k + 4 ≤ n ∧ n ≤ b.length := by
  rw [nums8_four] at h
  obtain ⟨⟨g0, n0⟩, h0, h⟩ := obind h
  obtain ⟨⟨g1, n1⟩, h1, h⟩ := obind h
  obtain ⟨⟨g2, n2⟩, h2, h⟩ := obind h
  obtain ⟨⟨g3, n3⟩, h3, h⟩ := omap h
  simp only [Prod.mk.injEq, List.cons.injEq, and_true] at h
  obtain ⟨⟨rfl, rfl, rfl, rfl⟩, rfl⟩ := h
  obtain ⟨_, _, _, a1, a2, a3, _⟩ := num8_has h0
  obtain ⟨_, _, _, b1, b2, b3, _⟩ := num8_has h1
  obtain ⟨_, _, _, c1, c2, c3, _⟩ := num8_has h2
  obtain ⟨_, _, _, d1, d2, d3, _⟩ := num8_has h3
  refine ⟨?_, a3, b3, c3, d3, by omega, d2⟩
  unfold rdU
  rw [h0]
  simp only [Option.bind_some]
  dsimp only at h1
  rw [h1]
  simp only [Option.bind_some]
  dsimp only at h2
  rw [h2]
  simp only [Option.bind_some]
  dsimp only at h3
  rw [h3]
  rfl
def AtW (s : Bool) (b : List UInt8) (M k0 j kk : Nat) (ls : List Lc) : Prop := rdWs s b M k0 = (rdWs s b (M - j) kk).map fun r => (ls ++ r.1, r.2)
theorem atW_start (s : Bool) (b : List UInt8) (M k0 : Nat) : AtW s b M k0 0 k0 [] := by
  unfold AtW
  rw [Nat.sub_zero]
  cases h : rdWs s b M k0 <;> simp
theorem AtW.step {s : Bool} {b : List UInt8} {M k0 j kk n : Nat} {x : Lc} {ls : List Lc} (h : AtW s b M k0 j kk ls) (hj : j < M) (hr : rdW s b kk = some (x, n)) : AtW s b M k0 (j + 1) n (ls ++ [x]) := by
  unfold AtW at h ⊢
  rw [h, show M - j = (M - (j + 1)) + 1 by omega, rdWs, hr]
  simp only [Option.bind_some, Option.map_map]
  congr 1
  funext r
  simp
theorem AtW.stop {s : Bool} {b : List UInt8} {M k0 j kk : Nat} {ls : List Lc} (h : AtW s b M k0 j kk ls) (hj : j < M) (hr : rdW s b kk = none) : rdWs s b M k0 = none := by
  unfold AtW at h
  rw [h, show M - j = (M - (j + 1)) + 1 by omega, rdWs, hr]
  rfl
theorem AtW.last {s : Bool} {b : List UInt8} {M k0 kk : Nat} {ls : List Lc} (h : AtW s b M k0 M kk ls) : rdWs s b M k0 = some (ls, kk) := by
  unfold AtW at h
  rw [h, Nat.sub_self, rdWs]
  simp
def EntryR (o : Option (Sp × Nat)) (w : World) (e : Ending) (w' : World) : Prop :=
  Below w.heap.size w w' ∧ ((o = none ∧ e = .returned (.tuple #[.agg #[.int .i64 0, .int .i64 0, .int .i64 0, .slice none 0 0], .int .i64 0, .bool false])) ∨
    ∃ (y : Sp) (n : Nat) (A : Option Addr) (c : Nat), o = some (y, n) ∧ e = .returned (.tuple #[.agg #[.int .i64 y.f, .int .i64 y.t, .int .i64 y.u, .slice A y.a.length c], .int .i64 n, .bool true]) ∧ LOwn w' w.heap.size (.slice A y.a.length c) y.a)
theorem spAt_res {fn : Func} {p u v : Tmp} (h : fn.results = #[.cell p 29, .tmp u, .tmp v]) (tmps : Array Value) (w : World) (g : Nat) (r : Ps) (hp : tmps.getD p undef = .pointer (some ⟨g, 0, none⟩)) (hs : SpAt w g r) :
    (results fn tmps).run Try.prog w = .ok (.tuple #[.agg (pK r), tmps.getD u undef, tmps.getD v undef]) w := res_row_tmp2 h tmps w g 29 (pK r) (0, 0) _ hp hs Try.underlying29 rfl (by kernel_rfl)
theorem below_all {B : Nat} {w W : World} {g : Nat} (h : Below B w W) (hg : B ≤ g) (u0 u1 u2 u3 : Value) : Below B w ((((W.setCell ⟨g, 0, none⟩ u0).setCell ⟨g, 1, none⟩ u1).setCell ⟨g, 2, none⟩ u2).setCell ⟨g, 3, none⟩ u3) :=
  (((h.setCell (p := ⟨g, 0, none⟩) hg _).setCell (p := ⟨g, 1, none⟩) hg _).setCell (p := ⟨g, 2, none⟩) hg _).setCell (p := ⟨g, 3, none⟩) hg _
theorem SpAt.set3 {w : World} {g : Nat} {r : Ps} (h : SpAt w g r) (f t u : Int) : SpAt (((w.setCell ⟨g, 0, none⟩ (.int .i64 f)).setCell ⟨g, 1, none⟩ (.int .i64 t)).setCell ⟨g, 2, none⟩ (.int .i64 u)) g ⟨f, t, u, r.a, r.A, r.c⟩ := by
  unfold SpAt at h ⊢
  simp only [World.setCell, Array.getElem?_modify, h]
  simp [pK]
theorem SpAt.putA {w : World} {g : Nat} {r : Ps} (h : SpAt w g r) (A : Option Addr) (c n : Nat) (l : List Lc) (hl : l.length = n) : SpAt (w.setCell ⟨g, 3, none⟩ (.slice A n c)) g ⟨r.f, r.t, r.u, l, A, c⟩ := by
  subst hl
  unfold SpAt at h ⊢
  simp only [World.setCell, Array.getElem?_modify, h]
  simp [pK]
theorem SpAt.kept8 {w w' : World} {g : Nat} {r : Ps} {row : Option Nat} (h : SpAt w g r) (hg : w.grownBy w' row) (hne : row ≠ some g) : SpAt w' g r := (hg.block g h.lt (fun e => hne e.symm)).trans h
theorem LOwn.set8 {B : Nat} {W : World} {v : Value} {l : List Lc} {p : Addr} (h : LOwn W B v l) (u : Value) (hp : p.block < B) : LOwn (W.setCell p u) B v l :=
  h.kept fun k e => Below.heap_setCell W p u k (fun q => by have := (h.lt k e).1; omega)
theorem entry_res {b : List UInt8} {k n x0 x1 x2 x3 : Nat} {a : Int} (h : rdU true b k a = (if farE true a x0 x1 x3 = true then none else (rdWs true b x3 n).map fun r => (⟨a + x0, a + x0 + x1, x2, r.1⟩, r.2))) : rdU true b k a = (rdWs true b x3 n).map fun r => (⟨a + x0, a + x0 + x1, x2, r.1⟩, r.2) := by
  rw [h, if_neg (by simp [farE])]

set_option maxRecDepth 100000 in
set_option maxHeartbeats 4000000 in
theorem entry8_any (A : Option Addr) (c : Nat) (b : List UInt8) (k : Nat) (last : Int) (w : World) (hk : k ≤ b.length) (hn : b.length ≤ 1099511627776) (hl0 : 0 ≤ last) (hl1 : last ≤ 1099511627776) (h : Lies w w.heap.size A b) :
    Calls Try.prog 20 #[.slice A b.length c, .int .i64 k, .int .i64 last] w (EntryR (rdU true b k last) w) := by
  have hb1 := below_lnew w (.cells #[.int .i64 0, .int .i64 0, .int .i64 0, .slice none 0 0] 29)
  have hb2 := below_lnew (w.alloc (.cells #[.int .i64 0, .int .i64 0, .int .i64 0, .slice none 0 0] 29)) (.cells #[.int .u64 16777216, .int .u64 16777216, .int .u64 65536, .int .u64 6] 58)
  have hX0 := spAt_new w ⟨0, 0, 0, [], none, 0⟩
  simp only [pK, List.length_nil] at hX0
  have HX := Lib.hid (hX0.below hb2 (by simp))
  have HB := Lib.hid (hb1.trans (hb2.mono hb1.size))
  have hU := ulies_four (w.alloc (.cells #[.int .i64 0, .int .i64 0, .int .i64 0, .slice none 0 0] 29)) 16777216 16777216 65536 6 16777216 16777216 65536 6 rfl rfl rfl rfl
  simp only [World.size_alloc] at hU
  have HGET := Lib.hid (get8_four A c b k (w.heap.size + 1) 4 16777216 16777216 65536 6 _ hk hn (by omega) ((h.below HB.out).more HB.out.size) (by simpa only [World.size_alloc] using hU))
  have HL := Lib.hid h
  have HZ := Lib.hid (show ((w.alloc (.cells #[.int .i64 0, .int .i64 0, .int .i64 0, .slice none 0 0] 29)).alloc (.cells #[.int .u64 16777216, .int .u64 16777216, .int .u64 65536, .int .u64 6] 58)).heap.size = w.heap.size + 2 by simp)
  clear hb1 hb2 hX0 hU h
  go_enter Try.func20, Try.ntmps20
  go_wp2_with fail
  generalize ((w.alloc (.cells #[.int .i64 0, .int .i64 0, .int .i64 0, .slice none 0 0] 29)).alloc (.cells #[.int .u64 16777216, .int .u64 16777216, .int .u64 65536, .int .u64 6] 58)) = W at *
  refine HGET.out.mono ?_
  rintro e w1 ⟨hb1, ⟨hno, rfl⟩ | ⟨x0, x1, x2, x3, n, g, p, c4, hso, rfl, hc4, hg4, d0, d1, d2, d3⟩⟩
  · have HR := Lib.hid (rdU_none (s := true) (a := last) hno)
    have hX1 := HX.out.below hb1 (by have := HZ.out; omega)
    have f0 := hX1.frozen
    have f1 := hX1.fr
    have f2 := hX1.to
    have f3 := hX1.up
    have f4 := hX1.at_
    dsimp only [List.length_nil] at f1 f2 f3 f4
    have HB1 := Lib.hid (HB.out.trans (hb1.mono (by have := HZ.out; omega)))
    clear hno hb1 HGET
    go_wp2_with fail
    refine bodyPost_ret (spAt_res rfl _ _ w.heap.size ⟨0, 0, 0, [], none, 0⟩ rfl (hX1.setAll ⟨0, 0, 0, [], none, 0⟩)) rfl ?_
    unfold EntryR
    rw [HR.out]
    exact ⟨below_all HB1.out (Nat.le_refl _) _ _ _ _, .inl ⟨rfl, rfl⟩⟩
  · obtain ⟨hR0, hx0, hx1, hx2, hx3, hn4, hnb⟩ := rdU_four (s := true) (a := last) hso
    have HR := Lib.hid (entry_res hR0)
    have hx2' : x2 ≤ 65536 := hx2
    have hx3' : x3 ≤ 6 := hx3
    have hX1 := HX.out.below hb1 (by have := HZ.out; omega)
    have f0 := hX1.frozen
    have f1 := hX1.fr
    have f2 := hX1.to
    have f3 := hX1.up
    have f4 := hX1.at_
    dsimp only [List.length_nil] at f1 f2 f3 f4
    have HB1 := Lib.hid (HB.out.trans (hb1.mono (by have := HZ.out; omega)))
    have HX1 := Lib.hid hX1
    have hz1 := hb1.size
    have hzW := HZ.out
    clear hso hb1 HGET hR0 hx2 hx3 hX1 HX HB
    go_wp2_with fail
    go_region
    go_wp2_with fail
    have HX2 := Lib.hid (show SpAt (((w1.setCell ⟨w.heap.size, 0, none⟩ (.int .i64 (last + x0))).setCell ⟨w.heap.size, 1, none⟩ (.int .i64 (last + x0 + x1))).setCell ⟨w.heap.size, 2, none⟩ (.int .i64 x2)).drew w.heap.size ⟨last + x0, last + x0 + x1, x2, [], none, 0⟩ from HX1.out.set3 (last + x0) (last + x0 + x1) x2)
    have HB2 := Lib.hid (((HB1.out.setCell (p := ⟨w.heap.size, 0, none⟩) (Nat.le_refl _) (.int .i64 (last + x0))).setCell (p := ⟨w.heap.size, 1, none⟩) (Nat.le_refl _) (.int .i64 (last + x0 + x1))).setCell (p := ⟨w.heap.size, 2, none⟩) (Nat.le_refl _) (.int .i64 x2)).drew
    have HO2 := Lib.hid (LOwn.nil (((w1.setCell ⟨w.heap.size, 0, none⟩ (.int .i64 (last + x0))).setCell ⟨w.heap.size, 1, none⟩ (.int .i64 (last + x0 + x1))).setCell ⟨w.heap.size, 2, none⟩ (.int .i64 x2)).drew (w.heap.size + 1))
    have hz2 : w.heap.size + 2 ≤ (((w1.setCell ⟨w.heap.size, 0, none⟩ (.int .i64 (last + x0))).setCell ⟨w.heap.size, 1, none⟩ (.int .i64 (last + x0 + x1))).setCell ⟨w.heap.size, 2, none⟩ (.int .i64 x2)).drew.heap.size := by simp [World.setCell]; omega
    clear f0 f1 f2 f3 f4 d0 d1 d2 d3 HX1 HB1
    generalize (((w1.setCell ⟨w.heap.size, 0, none⟩ (.int .i64 (last + x0))).setCell ⟨w.heap.size, 1, none⟩ (.int .i64 (last + x0 + x1))).setCell ⟨w.heap.size, 2, none⟩ (.int .i64 x2)).drew = w2 at *
    go_loopw [7, 53] (fun nx i wr => ∃ (j kk : Nat) (ls : List Lc) (A5 : Option Addr) (c5 : Nat), j ≤ x3 ∧ i = .int .i64 j ∧ nx = .int .i64 kk ∧ kk ≤ b.length ∧ Hid (AtW true b x3 n j kk ls) ∧ Hid (SpAt wr w.heap.size ⟨last + x0, last + x0 + x1, x2, ls, A5, c5⟩) ∧ Hid (LOwn wr (w.heap.size + 1) (.slice A5 ls.length c5) ls) ∧ Hid (ls.length = j) ∧ Hid (Below w.heap.size w wr) ∧ w.heap.size + 2 ≤ wr.heap.size) (fun _ i _ => x3 - (intOf i).toNat)
    case atStart => exact ⟨0, n, [], none, 0, by omega, rfl, rfl, hnb, atW_start _ _ _ _, HX2.out, HO2.out, rfl, HB2.out, hz2⟩
    case round =>
      obtain ⟨j, kk, ls, A5, c5, hj, rfl, rfl, hkk, hA, hX, hO, hll, hB, hzr⟩ := hrel
      clear HX2 HO2 HB2 hz2
      by_cases hlt : j < x3
      · have hji : (j : Int) < x3 := by omega
        have HSV := Lib.hid (saved8_any A c b kk wr hn hkk ((HL.out.below hB.out).more hB.out.size))
        unfold SavedR at HSV
        cases hrd : rdW true b kk with
        | none =>
          rw [hrd] at HSV
          have HN := Lib.hid (hA.out.stop hlt hrd)
          clear hrd hA
          go_wp2_with fail
          refine HSV.out.mono ?_
          rintro e w3 ⟨hb3, rfl⟩
          have hb4 := below_lnew w3 (.cells #[.int .i64 0, .int .i64 0] 31)
          have hX4 := Lib.hid ((hX.out.below hb3 (by omega)).below hb4 (by have := hb3.size; omega))
          have HB4 := Lib.hid ((hB.out.trans (hb3.mono hB.out.size)).trans (hb4.mono (by have := hb3.size; omega)))
          have f0 := hX4.out.frozen
          have f1 := hX4.out.fr
          have f2 := hX4.out.to
          have f3 := hX4.out.up
          have f4 := hX4.out.at_
          dsimp only at f1 f2 f3 f4
          clear hb3 hb4 HSV
          go_wp2_with fail
          refine bodyPost_ret (spAt_res rfl _ _ w.heap.size ⟨0, 0, 0, [], none, 0⟩ rfl (hX4.out.setAll ⟨0, 0, 0, [], none, 0⟩)) rfl ?_
          unfold EntryR
          rw [HR.out, HN.out]
          exact ⟨below_all HB4.out (Nat.le_refl _) _ _ _ _, .inl ⟨rfl, rfl⟩⟩
        | some q =>
          obtain ⟨x, m⟩ := q
          rw [hrd] at HSV
          have HN := Lib.hid (hA.out.step hlt hrd)
          have hm := (rdW_has hrd).2.1
          clear hrd hA
          go_wp2_with fail
          refine HSV.out.mono ?_
          rintro e w3 ⟨hb3, rfl⟩
          have hb4 := below_lnew w3 (.cells (cK x) 31)
          have hb5 := below_lnew (w3.alloc (.cells (cK x) 31)) (.cells (cK x) 31)
          have hX5 := Lib.hid (((hX.out.below hb3 (by omega)).below hb4 (by have := hb3.size; omega)).below hb5 (by have := hb3.size; simp; omega))
          have HB5 := Lib.hid (((hB.out.trans (hb3.mono hB.out.size)).trans (hb4.mono (by have := hb3.size; omega))).trans (hb5.mono (by have := hb3.size; simp; omega)))
          have HO5 := Lib.hid (((hO.out.below hb3).below hb4).below hb5)
          have HX4 := Lib.hid ((hX.out.below hb3 (by omega)).below hb4 (by have := hb3.size; omega))
          have HLA := Lib.hid (locAt_new (w3.alloc (.cells (cK x) 31)) x)
          have hz3 := hb3.size
          have f4 := HX4.out.at_
          have l0 := (locAt_new w3 x).kd
          have l1 := (locAt_new w3 x).nm
          have hll6 : ls.length ≤ 1000000 := by have := hll.out; omega
          unfold cK at hX5 HB5 HO5 HLA f4 l0 l1 HX4
          simp only [World.size_alloc] at HLA
          dsimp only at f4
          clear hb3 hb4 hb5 HSV
          go_wp2_with (at_builtin
                       refine app_loc _ rfl (.tmp 66) (.tmp 68) rfl (w.heap.size + 1) _ ls rfl HO5.out (w3.heap.size + 1) 1 x rfl HLA.out hll6 (by simp; omega) ?_
                       intro v6 w6 ho6 hg6
                       have hX6 := Lib.hid (hX5.out.kept8 hg6 (fun e => by have := (HO5.out.lt _ e).1; omega))
                       have HB6 := Lib.hid (HB5.out.grown hg6 (by simp; omega) (fun j e => by have := (HO5.out.lt _ e).1; omega))
                       have hz6 := hg6.size
                       obtain ⟨A6, n6, c6, rfl, hn6, _, _, _⟩ := ho6.formN
                       have f0 := hX6.out.frozen
                       have f1 := hX6.out.at_
                       have HO6 := Lib.hid ho6
                       have HX7 := Lib.hid (hX6.out.putA A6 c6 n6 (ls ++ [x]) hn6.out)
                       dsimp only at f1 HX7
                       clear hg6)
          go_roundw
          case rel => exact ⟨j + 1, m, ls ++ [x], A6, c6, by omega, by go_num, rfl, hm, HN, HX7, by rw [hn6.out]; exact HO6.out.set8 _ (by dsimp only; omega), by rw [List.length_append, hll.out]; rfl, HB6.out.setCell (p := ⟨w.heap.size, 3, none⟩) (Nat.le_refl _) _, by simp [World.setCell] at hz6 ⊢; omega⟩
          case measure => simp [intOf]; omega
      · have hji : (x3 : Int) ≤ j := by omega
        have HN := Lib.hid (show rdWs true b x3 n = some (ls, kk) from by have := hA.out; rw [show j = x3 by omega] at this; exact this.last)
        have f0 := hX.out.frozen
        have f1 := hX.out.fr
        have f2 := hX.out.to
        have f3 := hX.out.up
        have f4 := hX.out.at_
        dsimp only at f1 f2 f3 f4
        clear hA
        go_wp2_with fail
        refine bodyPost_ret (spAt_res rfl _ _ w.heap.size _ rfl (hX.out.setAll ⟨last + x0, last + x0 + x1, x2, ls, A5, c5⟩)) rfl ?_
        unfold EntryR
        rw [HR.out, HN.out]
        exact ⟨below_all hB.out (Nat.le_refl _) _ _ _ _, .inr ⟨_, _, A5, c5, rfl, rfl, ((((hO.out.set8 _ (show w.heap.size < w.heap.size + 1 by omega)).set8 _ (show w.heap.size < w.heap.size + 1 by omega)).set8 _ (show w.heap.size < w.heap.size + 1 by omega)).set8 _ (show w.heap.size < w.heap.size + 1 by omega)).base (by omega)⟩⟩
end Go.Proofs.Ytpbopehhalicjaa
