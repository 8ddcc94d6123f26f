/-
  Merged for a claim: I3M.
-/
import Derived.Test.YtdnpoeegefkoiaaGreatFJ3
import Derived.RegionTactic
import Derived.Deep.QuietTactic
import Derived.BigQuiet
namespace Go.Proofs.YtdnpoeegefkoiaaGreat
open Go.RowKit

/-- the world where Get begins -/
def getW (w : World) (A : Option Addr) (n c : Nat) : World :=
  (((w.alloc (.cells #[.slice A n c] 23)).alloc (.cells #[.int .u8 0, .int .u8 0, .int .i64 0, .int .i64 0, .int .i64 0, .int .i64 0, .int .i64 0] 53)).alloc (.cells #[.int .i64 0] 3)).alloc (.cells #[.int .i64 0] 32)
theorem getW_below (w : World) (A : Option Addr) (n c : Nat) : Below w.heap.size w (getW w A n c) :=
  (((below_box2 w _ _).alloc (by simp; omega) _).alloc (by simp; omega) _)

theorem four (w : World) (a b c d : Obj) :
    ((((w.alloc a).alloc b).alloc c).alloc d).heap[w.heap.size]? = some a ∧ ((((w.alloc a).alloc b).alloc c).alloc d).heap[w.heap.size + 1]? = some b ∧
    ((((w.alloc a).alloc b).alloc c).alloc d).heap[w.heap.size + 2]? = some c ∧ ((((w.alloc a).alloc b).alloc c).alloc d).heap[w.heap.size + 3]? = some d := by
  refine ⟨hk3 w a b c d, ?_, ?_, ?_⟩
  · have := hk2 (w.alloc a) b c d
    rwa [show (w.alloc a).heap.size = w.heap.size + 1 from by simp] at this
  · have := hk1 ((w.alloc a).alloc b) c d
    rwa [show ((w.alloc a).alloc b).heap.size = w.heap.size + 2 from by simp] at this
  · have := hk0 (((w.alloc a).alloc b).alloc c) d
    rwa [show (((w.alloc a).alloc b).alloc c).heap.size = w.heap.size + 3 from by simp] at this
theorem below4 (w : World) (a b c d : Obj) : Below w.heap.size w ((((w.alloc a).alloc b).alloc c).alloc d) :=
  (((below_box2 w _ _).alloc (by simp; omega) _).alloc (by simp; omega) _)
theorem get_start (w : World) (A : Option Addr) (c : Nat) (l : List UInt8) (k x : Int) :
    GetJ w.heap.size A c l (ptsOf k) (insOf k, x) w 0 ((((w.alloc (.cells #[.slice A l.length c] 23)).alloc (.cells #[.int .u8 k, .int .u8 0, .int .i64 0, .int .i64 0, .int .i64 0, .int .i64 0, .int .i64 0] 53)).alloc (.cells #[.int .i64 x] 3)).alloc (.cells #[.int .i64 0] 32)) :=
  ⟨(insOf k, x), 0, rfl, ⟨(four w _ _ _ _).1, (four w _ _ _ _).2.1, (four w _ _ _ _).2.2.1, (four w _ _ _ _).2.2.2⟩, below4 _ _ _ _ _, Nat.le_refl _⟩

theorem Holds.drew {w : World} {b : Nat} {A : Option Addr} {c : Nat} {l : List UInt8} {i : Ins} {x er : Int} (h : Holds w b A c l i x er) : Holds w.drew b A c l i x er := ⟨h.sl, h.ins, h.at_, h.err⟩
theorem get_none {l : List UInt8} {x : Int} (h : gR l x = none) (hE : gE l x = if (gR l x).isSome then 0 else 5) : gI l x = insOf 0 ∧ gN l x = 0 ∧ gE l x = 5 := by
  refine ⟨by rw [gI, h]; rfl, by rw [gN, h]; rfl, by rw [hE, h]; rfl⟩

set_option maxRecDepth 100000 in
set_option maxHeartbeats 400000 in
theorem isaGet_any (A : Option Addr) (c : Nat) (l : List UInt8) (x : Int) (w : World) (hcap : l.length ≤ c) (hn : l.length ≤ 1099511627776) (h : Lies w w.heap.size A l) :
    Calls Tryz.prog 38 #[.slice A l.length c, .int .i64 x] w (GetR l x w) := by
  have hb := getW_below w A l.length c
  have HO := Lib.hid (one_any A c l x (getW w A l.length c) w.heap.size hn (h.below hb))
  unfold getW at HO
  by_cases h0 : stV l.length x 1 = 0
  · rw [h0] at HO
    have HL := Lib.hid h
    have HE := Lib.hid (get_each (oneX l x) w.heap.size A c l _ w _ hcap hn h (get_start w A c l (oneX l x) (oneN l x)))
    have HG := Lib.hid (show gR l x = if isK (oneX l x) = true then runP l (ptsOf (oneX l x)) (insOf (oneX l x), oneN l x) else none by simp [gR, h0])
    have HX := Lib.hid (show gE l x = if (gR l x).isSome then 0 else 5 by simp [gE, h0])
    clear h0 h
    generalize oneX l x = k at *
    generalize oneN l x = n at *
    go_enter Tryz.func38, Tryz.ntmps38
    go_wp2_with fail
    refine HO.out.mono ?_
    rintro e w1 ⟨rfl, rfl⟩
    clear HO
    go_wp2_with fail
    refine HE.out.mono ?_
    rintro e w2 (⟨rfl, s, er, h1, h2, h3, -⟩ | ⟨rfl, ⟨i, y, er, h2⟩, h3, h1⟩)
    · rw [List.take_length] at h1
      obtain ⟨⟨c0, c1, c2, c3, c4, c5, c6⟩, cf⟩ := ins_cells h2.ins
      obtain ⟨d8, df8⟩ := h2.at_.cell
      obtain ⟨d9, df9⟩ := h2.err.cell
      rcases hk : isK k with _ | _
      · rw [hk] at HG
        have HN := Lib.hid (get_none (l := l) (x := x) (by rw [HG.out]; rfl) HX.out)
        clear hk
        have HS := Lib.hid (h2.set (insOf 0) 0 5)
        have HW := Lib.hid (setAll_below h3 (Nat.le_refl _) (insOf 0) 0 5)
        clear h1 h2 h3 HE HX HG
        go_wp2_with fail
        refine bodyPost_ret (get_back rfl rfl rfl rfl (i := insOf 0) (x := 0) (er := 5) HS.out.ins HS.out.at_ HS.out.err) rfl ?_
        unfold GetR
        rw [HN.out.1, HN.out.2.1, HN.out.2.2]
        exact ⟨rfl, HW.out⟩
      · have H1 := Lib.hid h1
        have H2 := Lib.hid h2
        have H3 := Lib.hid h3
        clear h1 h2 h3 HE
        rw [hk] at HG
        clear hk
        go_wp2_with fail
        go_region
        go_wp2_with fail
        have hs : gR l x = some s := by rw [HG.out, if_pos trivial]; exact H1.out
        have HS := H2.out.set s.1 s.2 0
        generalize hW : World.drew _ = W
        have HD := HS.drew
        have HB := (setAll_below H3.out (Nat.le_refl _) s.1 s.2 0).drew
        unfold setAll put7 at HD HB
        simp only [Nat.add_assoc] at hW
        rw [hW] at HD HB
        clear HS hW
        refine bodyPost_ret (get_back rfl rfl rfl rfl (i := s.1) (x := s.2) (er := 0) HD.ins HD.at_ HD.err) rfl ?_
        unfold GetR
        rw [HX.out, gI, gN, hs]
        exact ⟨rfl, HB⟩
    · have HN := Lib.hid (get_none (l := l) (x := x) (by rw [HG.out, h1]; simp) HX.out)
      obtain ⟨⟨c0, c1, c2, c3, c4, c5, c6⟩, cf⟩ := ins_cells h2.ins
      obtain ⟨d8, df8⟩ := h2.at_.cell
      obtain ⟨d9, df9⟩ := h2.err.cell
      have HS := Lib.hid (h2.set (insOf 0) 0 5)
      have HW := Lib.hid (setAll_below h3 (Nat.le_refl _) (insOf 0) 0 5)
      clear h1 h2 h3 HE HX HG
      go_wp2_with fail
      refine bodyPost_ret (get_back rfl rfl rfl rfl (i := insOf 0) (x := 0) (er := 5) HS.out.ins HS.out.at_ HS.out.err) rfl ?_
      unfold GetR
      rw [HN.out.1, HN.out.2.1, HN.out.2.2]
      exact ⟨rfl, HW.out⟩
  · have b0 : (stV l.length x 1 != 0) = true := by simpa using h0
    have HI := Lib.hid (show gI l x = insOf 0 by simp [gI, gR, h0])
    have HN := Lib.hid (show gN l x = 0 by simp [gN, gR, h0])
    have HE := Lib.hid (show gE l x = stV l.length x 1 by simp [gE, h0])
    clear h0 h
    generalize stV l.length x 1 = v at *
    go_enter Tryz.func38, Tryz.ntmps38
    go_wp2_with fail
    refine HO.out.mono ?_
    rintro e w1 ⟨rfl, rfl⟩
    go_wp2_with fail
    go_region
    go_wp2_with fail
    refine bodyPost_ret (get_back rfl rfl rfl rfl (i := insOf 0) (x := 0) (er := v) (four w _ _ _ _).2.1 (four w _ _ _ _).2.2.1 (four w _ _ _ _).2.2.2) rfl ?_
    unfold GetR
    rw [HI.out, HN.out, HE.out]
    exact ⟨rfl, (below4 _ _ _ _ _).drew⟩

end Go.Proofs.YtdnpoeegefkoiaaGreat
