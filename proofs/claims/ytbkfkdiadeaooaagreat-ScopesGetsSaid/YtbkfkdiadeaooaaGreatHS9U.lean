/-
  Merged for a claim: S9U.
-/
import Derived.Test.YtbkfkdiadeaooaaGreatHJ17
import Derived.Test.YtbkfkdiadeaooaaGreatHJ13
namespace Go.Proofs.YtbkfkdiadeaooaaGreat
open Go Go.RowKit

theorem sps_info : (Tryz.prog.info? 69).map (fun i => (i.zero, i.size, i.bytes)) = some (some (.slice none 0 0), 1, 24) := by kernel_rfl
/-- the same with a variable in the making -/
structure PvW (w0 : World) (gr B gx gp : Nat) (A : Option Addr) (c : Nat) (b : List UInt8) (nm : List UInt8) (fr tt : Int) (s : RS) (l : List (List Sp)) (v : Value) (w : World) (x : Pv) (g2 g3 : Nat) (W : World) : Prop where
  i : PlI w0 gr B gx gp A c b nm fr tt s l v W
  t : VT W x
  c3 : CAt W g3 67 (vK x).toList
  c2 : CAt W g2 67 [.string ⟨#[]⟩, .int .u8 0, .int .i64 0, .string ⟨#[]⟩, .int .i64 0, .slice none 0 0]
  o : OnlyS Sp9 w W
  l : Below B w W
  n : w.heap.size ≤ g2 ∧ g2 < g3
section
variable {w0 : World} {gr B gx gp : Nat} {A : Option Addr} {c : Nat} {b nm : List UInt8} {fr tt : Int} {s s' : RS} {l : List (List Sp)} {v : Value} {w W w' : World} {x : Pv} {g2 g3 : Nat}
theorem PvW.after (h : PvW w0 gr B gx gp A c b nm fr tt s l v w x g2 g3 W) (hr : RdAt w' gr A c b s') (ho : OnlyS Sr W w') (hb : Below B W w') : PvW w0 gr B gx gp A c b nm fr tt s' l v w x g2 g3 w' :=
  ⟨h.i.after hr ho hb, h.t.only ho (by unfold Sr; decide), (ho g3 _ h.c3.has (by unfold Sr; decide)).trans h.c3, (ho g2 _ h.c2.has (by unfold Sr; decide)).trans h.c2, h.o.trans ho.sp, h.l.trans hb, h.n⟩
theorem PvW.read (h : PvW w0 gr B gx gp A c b nm fr tt s l v w x g2 g3 W) (hr : RdAt w' gr A c b s') (hg : W.grownBy w' (some gr)) : PvW w0 gr B gx gp A c b nm fr tt s' l v w x g2 g3 w' :=
  h.after hr (OnlyS.grown hg h.i.r.has rfl) (below_gr hg h.i.n.1 (by have := h.i.r.lt; have := h.i.n; omega))
theorem PvW.below (h : PvW w0 gr B gx gp A c b nm fr tt s l v w x g2 g3 W) (hb : Below W.heap.size W w') : PvW w0 gr B gx gp A c b nm fr tt s l v w x g2 g3 w' :=
  h.after (h.i.r.below hb h.i.r.lt) (OnlyS.below hb) (hb.mono (by have := h.i.r.lt; have := h.i.n; omega))
/-- a list of spans is put behind the others -/
theorem PvW.add (h : PvW w0 gr B gx gp A c b nm fr tt s l v w x g2 g3 W) {rs : List Rs} {y : Rs} {v9 : Value} {Z : World} (_hwB : w.heap.size ≤ W.heap.size) (hrs : rs.map Rs.d = l) (ho : eR.Own W w0.heap.size v rs) (ht : ∀ r ∈ rs, RT W r) (hty : RT W y) (hg : W.grownBy Z v.ownBlock) (ho9 : eR.Own Z w0.heap.size v9 (rs ++ [y])) :
    PvW w0 gr B gx gp A c b nm fr tt s (l ++ [y.d]) v9 w x g2 g3 (Z.setCell ⟨gp, 4, none⟩ v9) := by
  have hb : ButT 69 W Z := ButT.grown hg (fun q e => ho.has q e)
  have hz : B ≤ W.heap.size := by have := h.i.r.lt; have := h.i.n; omega
  have hl : Below B W Z := El.below_grown (Below.refl B W) hg (ho.base h.i.n.2.2.2) hz
  have hzk : w0.heap.size ≤ W.heap.size := by have := h.i.p.lt; have := h.i.n; omega
  have hk0 : OnlyS Sr w0 (Z.setCell ⟨gp, 4, none⟩ v9) := (h.i.k.own hzk hg (fun q e => (ho.lt q e).1)).set (p := ⟨gp, 4, none⟩) h.i.n.2.2.1 v9
  have hpZ : HasT Z gp 49 := h.i.p.has.same (hb gp _ h.i.p.has (by decide))
  have hs : ButT 49 Z (Z.setCell ⟨gp, 4, none⟩ v9) := ButT.set (p := ⟨gp, 4, none⟩) hpZ v9
  have two : ∀ k e, HasT W k e → e ≠ 69 → e ≠ 49 → (Z.setCell ⟨gp, 4, none⟩ v9).heap[k]? = W.heap[k]? := fun k e q h1 h2 => (hs k e (q.same (hb k e q h1)) h2).trans (hb k e q h1)
  have hL : Below B W (Z.setCell ⟨gp, 4, none⟩ v9) := hl.setCell (p := ⟨gp, 4, none⟩) h.i.n.2.1 v9
  refine ⟨⟨(two gr _ h.i.r.has (by decide) (by decide)).trans h.i.r, h.i.b.below hL, (two gx _ h.i.x.has (by decide) (by decide)).trans h.i.x, ?_, ?_, h.i.n, hk0⟩, ⟨h.t.1.kept fun k q => two k _ q (by decide) (by decide), h.t.2⟩, (two g3 _ h.c3.has (by decide) (by decide)).trans h.c3, (two g2 _ h.c2.has (by decide) (by decide)).trans h.c2, fun k e q he => ?_, h.l.trans hL, h.n⟩
  · have h4 : CAt Z gp 49 [.string (str nm), .int .i64 fr, .int .i64 tt, .slice none 0 0, v] := (hb gp _ h.i.p.has (by decide)).trans h.i.p
    exact h4.set 4 v9
  · refine ⟨rs ++ [y], by rw [List.map_append, hrs]; rfl, ho9.but hs (by decide), fun r hr => ?_⟩
    have : RT W r := by
      rcases List.mem_append.1 hr with hr | hr
      · exact ht r hr
      · rw [List.mem_singleton.1 hr]; exact hty
    exact this.keep fun k e q he => two k e q (by rcases he with rfl | rfl <;> decide) (by rcases he with rfl | rfl <;> decide)
  · have hk := h.o k e q he
    have q2 := q.same hk
    exact (two k e q2 (fun e2 => he (by rw [e2]; exact .inr (.inr rfl))) (fun e2 => he (by rw [e2]; exact .inr (.inl rfl)))).trans hk
theorem PvW.back (h : PvW w0 gr B gx gp A c b nm fr tt s l v w x g2 g3 W) (h3 : w0.heap.size ≤ g2) (u0 u1 u2 u3 u4 u5 : Value) :
    VT ((((((W.setCell ⟨g2, 0, none⟩ u0).setCell ⟨g2, 1, none⟩ u1).setCell ⟨g2, 2, none⟩ u2).setCell ⟨g2, 3, none⟩ u3).setCell ⟨g2, 4, none⟩ u4).setCell ⟨g2, 5, none⟩ u5) x ∧ PlI w0 gr B gx gp A c b nm fr tt s l v ((((((W.setCell ⟨g2, 0, none⟩ u0).setCell ⟨g2, 1, none⟩ u1).setCell ⟨g2, 2, none⟩ u2).setCell ⟨g2, 3, none⟩ u3).setCell ⟨g2, 4, none⟩ u4).setCell ⟨g2, 5, none⟩ u5) ∧ OnlyS Sp9 w ((((((W.setCell ⟨g2, 0, none⟩ u0).setCell ⟨g2, 1, none⟩ u1).setCell ⟨g2, 2, none⟩ u2).setCell ⟨g2, 3, none⟩ u3).setCell ⟨g2, 4, none⟩ u4).setCell ⟨g2, 5, none⟩ u5) ∧ Below B w ((((((W.setCell ⟨g2, 0, none⟩ u0).setCell ⟨g2, 1, none⟩ u1).setCell ⟨g2, 2, none⟩ u2).setCell ⟨g2, 3, none⟩ u3).setCell ⟨g2, 4, none⟩ u4).setCell ⟨g2, 5, none⟩ u5) := by
  have hn := h.n
  have t : HasT W g2 67 := ⟨_, _, h.c2⟩
  have hq := (((((ButT.set (p := ⟨g2, 0, none⟩) t u0).trans (ButT.set (p := ⟨g2, 1, none⟩) (t.set _ _) u1)).trans (ButT.set (p := ⟨g2, 2, none⟩) ((t.set _ _).set _ _) u2)).trans (ButT.set (p := ⟨g2, 3, none⟩) (((t.set _ _).set _ _).set _ _) u3)).trans (ButT.set (p := ⟨g2, 4, none⟩) ((((t.set _ _).set _ _).set _ _).set _ _) u4)).trans (ButT.set (p := ⟨g2, 5, none⟩) (((((t.set _ _).set _ _).set _ _).set _ _).set _ _) u5)
  have hb : Below w0.heap.size W _ := ((((((Below.refl w0.heap.size W).setCell (p := ⟨g2, 0, none⟩) h3 u0).setCell (p := ⟨g2, 1, none⟩) h3 u1).setCell (p := ⟨g2, 2, none⟩) h3 u2).setCell (p := ⟨g2, 3, none⟩) h3 u3).setCell (p := ⟨g2, 4, none⟩) h3 u4).setCell (p := ⟨g2, 5, none⟩) h3 u5
  exact ⟨h.t.but hq (by decide), h.i.but hq hb, (((((h.o.set hn.1 _).set hn.1 _).set hn.1 _).set hn.1 _).set hn.1 _).set hn.1 _, h.l.trans (hb.mono h.i.n.2.2.2)⟩
end
/-- what the call within a place answers -/
def PlcR (w0 : World) (gr B gx gp : Nat) (A : Option Addr) (c : Nat) (b nm : List UInt8) (fr tt : Int) (s : RS) (l : List (List Sp)) (w : World) (e : Ending) (w' : World) : Prop :=
  ∃ (x : Pv) (v : Value), e = .returned (.agg (vK x)) ∧ x.d = (vaX b s).1 ∧ VT w' x ∧ PlI w0 gr B gx gp A c b nm fr tt (spS b (vaX b s).2) (l ++ [spX b (vaX b s).2]) v w' ∧ OnlyS Sp9 w w' ∧ Below B w w'

set_option maxRecDepth 100000 in
set_option maxHeartbeats 8000000 in
theorem inplace_any (w0 : World) (gr B gx gp : Nat) (A : Option Addr) (c : Nat) (b nm : List UInt8) (fr tt : Int) (s : RS) (l : List (List Sp)) (v : Value) (w : World) (hc : b.length ≤ c) (hbn : b.length ≤ 1099511627776) (hln : l.length ≤ 100000) (hi : PlI w0 gr B gx gp A c b nm fr tt s l v w) :
    Calls Tryz.prog 36 #[.pointer (some ⟨gx, 0, none⟩), .pointer (some ⟨gp, 0, none⟩)] w (PlcR w0 gr B gx gp A c b nm fr tt s l w) := by
  have hb0 := below_lnew w (.cells #[.string ⟨#[]⟩, .int .u8 0, .int .i64 0, .string ⟨#[]⟩, .int .i64 0, .slice none 0 0] 67)
  have hz : B ≤ w.heap.size := by have := hi.r.lt; have := hi.n; omega
  have hzB : w0.heap.size ≤ w.heap.size := by have := hi.p.lt; have := hi.n; omega
  have HI1 := Lib.hid (hi.below hb0)
  have HO1 := Lib.hid (OnlyS.below (S := Sr) hb0)
  have HB1 := Lib.hid (hb0.mono hz)
  have c0 := heap_alloc_new w (.cells #[.string ⟨#[]⟩, .int .u8 0, .int .i64 0, .string ⟨#[]⟩, .int .i64 0, .slice none 0 0] 67)
  have x0 := HI1.out.x.cell (j := 0) (by simp)
  simp only [List.getElem_cons_zero] at x0
  have HZ1 := Lib.hid (show w.heap.size + 1 ≤ (w.alloc (.cells #[.string ⟨#[]⟩, .int .u8 0, .int .i64 0, .string ⟨#[]⟩, .int .i64 0, .slice none 0 0] 67)).heap.size by simp)
  have HN := Lib.hid (variable_any gr B A c b s _ hc hbn hi.n.1 ⟨HI1.out.r, HI1.out.b⟩)
  unfold PlcR
  clear hi hb0 hz
  go_enter Tryz.func36, Tryz.ntmps36
  go_wp2_with fail
  refine HN.out.mono ?_
  rintro e w2 ⟨x, rfl, hx, ht, hi2, ho2, hb2⟩
  have d0 := (ho2 w.heap.size _ ⟨_, _, c0⟩ (by unfold Sr; decide)).trans c0
  have hi3 := HI1.out.after hi2.1 ho2 hb2
  have hz2 : w.heap.size + 1 ≤ w2.heap.size := Nat.le_trans HZ1.out hb2.size
  have hb3 := below_lnew w2 (.cells (vK x) 67)
  have HV0 := Lib.hid (show PvW w0 gr B gx gp A c b nm fr tt (vaX b s).2 l v w x w.heap.size w2.heap.size (w2.alloc (.cells (vK x) 67)) from
    ⟨hi3.below hb3, ht.below hb3, heap_alloc_new w2 _, (hb3.block w.heap.size (by omega)).trans d0, ((HO1.out.trans ho2).trans (OnlyS.below hb3)).sp, (HB1.out.trans hb2).trans (hb3.mono (by have := hi3.r.lt; have := hi3.n; omega)), Nat.le_refl _, by omega⟩)
  have HX := Lib.hid hx
  clear hx ht hi2 ho2 hb2 d0 hi3 hb3 HN HI1 HO1 HB1 HZ1 c0 x0
  obtain ⟨s1, hs1⟩ : ∃ q, (vaX b s).2 = q := ⟨_, rfl⟩
  rw [hs1] at HV0
  have HS1 := Lib.hid hs1
  have HBZ := Lib.hid (show w0.heap.size ≤ w.heap.size from hzB)
  clear hs1
  unfold vK tv at HV0 ⊢
  go_wp2_with fail
  obtain ⟨W3, hW3⟩ : ∃ W3, w2.alloc (.cells #[.string (str x.d.nm), .int .u8 x.d.kd, .int .i64 x.d.n, .string (str x.d.tn), .int .i64 x.d.wd, .slice x.A x.d.fs.length x.c] 67) = W3 := ⟨_, rfl⟩
  rw [hW3] at HV0 ⊢
  have HV := HV0
  have x0 := HV.out.i.x.cell (j := 0) (by simp)
  simp only [List.getElem_cons_zero] at x0
  clear HV0 hW3
  refine wp_region_held_drew (S := fun W9 => W9.cell? ⟨gx, 0, none⟩ = some (.pointer (some ⟨gr, 0, none⟩))) (by kernel_rfl) (x0) (fun hHeld => ?_)
  have HVd := Lib.hid (HV.out.below ((Below.refl _ _).drew))
  clear HV x0
  generalize W3.drew = Wd at *
  have p4 := HVd.out.i.p.cell (j := 4) (by simp)
  simp only [List.getElem_cons_zero, List.getElem_cons_succ] at p4
  have HC := Lib.hid (spans9_any gr A c b s1 Wd hbn (HVd.out.i.b.more HVd.out.i.n.1) HVd.out.i.r)
  refine heldTake (i := 0) (d := some 6) (v := ?_) rfl rfl (by kernel_rfl) (by kernel_rfl) (by kernel_rfl) (fun _ _ _ h => h) (by kernel_rfl) ?hyq_1 (by assumption) ?restq_1
  case hyq_1 => (intro W9 hSw; (try dsimp only at hSw); go_simp; try (with_reducible rfl))
  (try simp only [Act.put, List.setIfInBounds_toArray, List.set_cons_zero, List.set_cons_succ])
  refine heldTake (i := 2) (d := some 8) (v := ?_) rfl rfl (by kernel_rfl) (by kernel_rfl) (by kernel_rfl) (fun _ _ _ h => h) (by kernel_rfl) ?hyq_2 (by assumption) ?restq_2
  case hyq_2 => (intro W9 hSw; (try dsimp only at hSw); go_simp; try (with_reducible rfl))
  (try simp only [Act.put, List.setIfInBounds_toArray, List.set_cons_zero, List.set_cons_succ])
  refine wpAnyH_ready (rs := [1, 3]) (by kernel_rfl) (by simp) ?_
  refine AllReadyH.cons rfl (fun K hK => ?_) (AllReadyH.cons rfl (fun K hK => ?_) AllReadyH.nil)
  · go_simp
    refine hK.out _ _ hHeld (fun hHeld => ?_)
    clear hK K
    (try simp only [Act.put, List.setIfInBounds_toArray, List.set_cons_zero, List.set_cons_succ])
    refine wpAnyH_ready (rs := [3]) (by kernel_rfl) (by simp) ?_
    refine AllReadyH.cons rfl (fun K hK => ?_) AllReadyH.nil
    go_simp
    go_at_call 38
    refine HC.out.mono ?_
    rintro e9 X ⟨vX, rfl, hoX, hrX, hgX⟩
    have HVX := Lib.hid (HVd.out.read hrX hgX)
    obtain ⟨y, rfl, hyd, hyt⟩ := rt_of_own hoX
    have HYT := Lib.hid hyt
    have HYD := Lib.hid hyd
    have xX := HVX.out.i.x.cell (j := 0) (by simp)
    have pX := HVX.out.i.p.cell (j := 4) (by simp)
    simp only [List.getElem_cons_zero, List.getElem_cons_succ] at xX pX
    unfold rV
    clear hoX hrX hgX hyt hyd
    go_wp2_with fail
    refine hK.out _ _ xX (fun hHeld => ?_)
    clear hK K
    (try simp only [Act.put, List.setIfInBounds_toArray, List.set_cons_zero, List.set_cons_succ])
    refine wpAnyH_ready (rs := [4]) (by kernel_rfl) (by simp) ?_
    refine AllReadyH.cons rfl (fun K hK => ?_) AllReadyH.nil
    go_simp
    have hbY := below_lnew X (.cells #[rV y] 69)
    have hcY := heap_alloc_new X (.cells #[rV y] 69)
    unfold rV at hbY hcY
    obtain ⟨Y, hY⟩ : ∃ Y, X.alloc (.cells #[.slice y.A y.l.length y.c] 69) = Y := ⟨_, rfl⟩
    rw [hY] at hbY hcY ⊢
    have HVY := Lib.hid (HVX.out.below hbY)
    have HTY := Lib.hid (HYT.out.below hbY)
    have xY := HVY.out.i.x.cell (j := 0) (by simp)
    have pY := HVY.out.i.p.cell (j := 4) (by simp)
    simp only [List.getElem_cons_zero, List.getElem_cons_succ] at xY pY
    have hzXY := hbY.size
    clear hY hbY
    refine hK.out _ _ xY (fun hHeld => ?_)
    clear hK K
    (try simp only [Act.put, List.setIfInBounds_toArray, List.set_cons_zero, List.set_cons_succ])
    refine wpAnyH_ready (rs := [5]) (by kernel_rfl) (by simp) ?_
    refine AllReadyH.cons rfl (fun K hK => ?_) AllReadyH.nil
    rw [if_pos (by kernel_rfl)]
    obtain ⟨rs, hrs, hors, htrs⟩ := HVY.out.i.o
    refine El.op_app1 eR Y 47 (.slice none 0 0) 24 Tryz.underlying47 sps_info rfl (by omega) (by decide) (.tmp 7) (.tmp 10) rfl w0.heap.size v rs rfl hors X.heap.size 1 y rfl 69 hcY (by have := congrArg List.length hrs; rw [List.length_map] at this; omega) (by have := HVY.out.i.p.lt; have := HVY.out.i.n; omega) ?_
    intro v9 Z ho9 hg9
    obtain ⟨A9, n9, c9, rfl, hn9, hc9, _, _⟩ := ho9.formN
    change K (Act.put _ (some 11) (.slice A9 n9 c9)) Z
    have hTZ : ButT 69 Y Z := ButT.grown hg9 (fun q e => hors.has q e)
    have xZ := (hTZ.cell (p := ⟨gx, 0, none⟩) HVY.out.i.x.has (by decide)).trans xY
    have pZ := (hTZ.cell (p := ⟨gp, 4, none⟩) HVY.out.i.p.has (by decide)).trans pY
    have hfZ : CAt Z gp 49 _ := (hTZ gp _ HVY.out.i.p.has (by decide)).trans HVY.out.i.p
    have fZ := hfZ.frozen 4
    have HVZ := Lib.hid (HVY.out.add (by have := HVY.out.l.size; omega) hrs hors htrs HTY.out hg9 ho9)
    have xS := HVZ.out.i.x.cell (j := 0) (by simp)
    simp only [List.getElem_cons_zero] at xS
    clear hfZ hTZ
    refine hK.out _ _ xZ (fun hHeld => ?_)
    clear hK K
    (try simp only [Act.put, List.setIfInBounds_toArray, List.set_cons_zero, List.set_cons_succ])
    refine heldTake (i := 6) (d := some 12) (v := ?_) rfl rfl (by kernel_rfl) (by kernel_rfl) (by kernel_rfl) (fun _ _ _ h => h) (by kernel_rfl) ?hyq_3 (by assumption) ?restq_3
    case hyq_3 => (intro W9 hSw; (try dsimp only at hSw); go_simp; try (with_reducible rfl))
    (try simp only [Act.put, List.setIfInBounds_toArray, List.set_cons_zero, List.set_cons_succ])
    refine wpAnyH_ready (rs := [7]) (by kernel_rfl) (by simp) ?_
    refine AllReadyH.cons rfl (fun K hK => ?_) AllReadyH.nil
    go_simp
    refine hK.out _ _ xS (fun hHeld => ?_)
    clear hK K
    (try simp only [Act.put, List.setIfInBounds_toArray, List.set_cons_zero, List.set_cons_succ])
    refine wpAnyH_done (by kernel_rfl) ?_ _
    obtain ⟨W9, hW9⟩ : ∃ W9, Z.setCell ⟨gp, 4, none⟩ (.slice A9 n9 c9) = W9 := ⟨_, rfl⟩
    rw [hW9] at HVZ ⊢
    have hC := HVZ.out.c3
    unfold vK tv at hC
    have y0 := hC.cell (j := 0) (by simp)
    have yf0 := hC.frozen 0
    have z0 := HVZ.out.c2.cell (j := 0) (by simp)
    have zf0 := HVZ.out.c2.frozen 0
    have y1 := hC.cell (j := 1) (by simp)
    have yf1 := hC.frozen 1
    have z1 := HVZ.out.c2.cell (j := 1) (by simp)
    have zf1 := HVZ.out.c2.frozen 1
    have y2 := hC.cell (j := 2) (by simp)
    have yf2 := hC.frozen 2
    have z2 := HVZ.out.c2.cell (j := 2) (by simp)
    have zf2 := HVZ.out.c2.frozen 2
    have y3 := hC.cell (j := 3) (by simp)
    have yf3 := hC.frozen 3
    have z3 := HVZ.out.c2.cell (j := 3) (by simp)
    have zf3 := HVZ.out.c2.frozen 3
    have y4 := hC.cell (j := 4) (by simp)
    have yf4 := hC.frozen 4
    have z4 := HVZ.out.c2.cell (j := 4) (by simp)
    have zf4 := HVZ.out.c2.frozen 4
    have y5 := hC.cell (j := 5) (by simp)
    have yf5 := hC.frozen 5
    have z5 := HVZ.out.c2.cell (j := 5) (by simp)
    have zf5 := HVZ.out.c2.frozen 5
    simp only [List.getElem_cons_zero, List.getElem_cons_succ] at y0 y1 y2 y3 y4 y5 z0 z1 z2 z3 z4 z5
    have hne := HVZ.out.n.2
    clear hC hW9 ho9 hg9 hors htrs xZ pZ fZ xS
    go_wp2_with fail
    refine bodyPost_ret (va_back rfl rfl ((((((HVZ.out.c2.set 0 _).set 1 _).set 2 _).set 3 _).set 4 _).set 5 _)) rfl ?_
    obtain ⟨q1, q2, q3, q4⟩ := HVZ.out.back HBZ.out (.string (str x.d.nm)) (.int .u8 x.d.kd) (.int .i64 x.d.n) (.string (str x.d.tn)) (.int .i64 x.d.wd) (.slice x.A x.d.fs.length x.c)
    rw [HYD.out] at q2
    exact ⟨x, _, rfl, HX.out, q1, by rw [HS1.out]; exact q2, q3, q4⟩
  · go_simp
    go_at_call 38
    refine HC.out.mono ?_
    rintro e9 X ⟨vX, rfl, hoX, hrX, hgX⟩
    have HVX := Lib.hid (HVd.out.read hrX hgX)
    obtain ⟨y, rfl, hyd, hyt⟩ := rt_of_own hoX
    have HYT := Lib.hid hyt
    have HYD := Lib.hid hyd
    have xX := HVX.out.i.x.cell (j := 0) (by simp)
    have pX := HVX.out.i.p.cell (j := 4) (by simp)
    simp only [List.getElem_cons_zero, List.getElem_cons_succ] at xX pX
    unfold rV
    clear hoX hrX hgX hyt hyd
    go_wp2_with fail
    refine hK.out _ _ xX (fun hHeld => ?_)
    clear hK K
    (try simp only [Act.put, List.setIfInBounds_toArray, List.set_cons_zero, List.set_cons_succ])
    refine wpAnyH_ready (rs := [1, 4]) (by kernel_rfl) (by simp) ?_
    refine AllReadyH.cons rfl (fun K hK => ?_) (AllReadyH.cons rfl (fun K hK => ?_) AllReadyH.nil)
    · go_simp
      refine hK.out _ _ xX (fun hHeld => ?_)
      clear hK K
      (try simp only [Act.put, List.setIfInBounds_toArray, List.set_cons_zero, List.set_cons_succ])
      refine wpAnyH_ready (rs := [4]) (by kernel_rfl) (by simp) ?_
      refine AllReadyH.cons rfl (fun K hK => ?_) AllReadyH.nil
      go_simp
      have hbY := below_lnew X (.cells #[rV y] 69)
      have hcY := heap_alloc_new X (.cells #[rV y] 69)
      unfold rV at hbY hcY
      obtain ⟨Y, hY⟩ : ∃ Y, X.alloc (.cells #[.slice y.A y.l.length y.c] 69) = Y := ⟨_, rfl⟩
      rw [hY] at hbY hcY ⊢
      have HVY := Lib.hid (HVX.out.below hbY)
      have HTY := Lib.hid (HYT.out.below hbY)
      have xY := HVY.out.i.x.cell (j := 0) (by simp)
      have pY := HVY.out.i.p.cell (j := 4) (by simp)
      simp only [List.getElem_cons_zero, List.getElem_cons_succ] at xY pY
      have hzXY := hbY.size
      clear hY hbY
      refine hK.out _ _ xY (fun hHeld => ?_)
      clear hK K
      (try simp only [Act.put, List.setIfInBounds_toArray, List.set_cons_zero, List.set_cons_succ])
      refine wpAnyH_ready (rs := [5]) (by kernel_rfl) (by simp) ?_
      refine AllReadyH.cons rfl (fun K hK => ?_) AllReadyH.nil
      rw [if_pos (by kernel_rfl)]
      obtain ⟨rs, hrs, hors, htrs⟩ := HVY.out.i.o
      refine El.op_app1 eR Y 47 (.slice none 0 0) 24 Tryz.underlying47 sps_info rfl (by omega) (by decide) (.tmp 7) (.tmp 10) rfl w0.heap.size v rs rfl hors X.heap.size 1 y rfl 69 hcY (by have := congrArg List.length hrs; rw [List.length_map] at this; omega) (by have := HVY.out.i.p.lt; have := HVY.out.i.n; omega) ?_
      intro v9 Z ho9 hg9
      obtain ⟨A9, n9, c9, rfl, hn9, hc9, _, _⟩ := ho9.formN
      change K (Act.put _ (some 11) (.slice A9 n9 c9)) Z
      have hTZ : ButT 69 Y Z := ButT.grown hg9 (fun q e => hors.has q e)
      have xZ := (hTZ.cell (p := ⟨gx, 0, none⟩) HVY.out.i.x.has (by decide)).trans xY
      have pZ := (hTZ.cell (p := ⟨gp, 4, none⟩) HVY.out.i.p.has (by decide)).trans pY
      have hfZ : CAt Z gp 49 _ := (hTZ gp _ HVY.out.i.p.has (by decide)).trans HVY.out.i.p
      have fZ := hfZ.frozen 4
      have HVZ := Lib.hid (HVY.out.add (by have := HVY.out.l.size; omega) hrs hors htrs HTY.out hg9 ho9)
      have xS := HVZ.out.i.x.cell (j := 0) (by simp)
      simp only [List.getElem_cons_zero] at xS
      clear hfZ hTZ
      refine hK.out _ _ xZ (fun hHeld => ?_)
      clear hK K
      (try simp only [Act.put, List.setIfInBounds_toArray, List.set_cons_zero, List.set_cons_succ])
      refine heldTake (i := 6) (d := some 12) (v := ?_) rfl rfl (by kernel_rfl) (by kernel_rfl) (by kernel_rfl) (fun _ _ _ h => h) (by kernel_rfl) ?hyq_4 (by assumption) ?restq_4
      case hyq_4 => (intro W9 hSw; (try dsimp only at hSw); go_simp; try (with_reducible rfl))
      (try simp only [Act.put, List.setIfInBounds_toArray, List.set_cons_zero, List.set_cons_succ])
      refine wpAnyH_ready (rs := [7]) (by kernel_rfl) (by simp) ?_
      refine AllReadyH.cons rfl (fun K hK => ?_) AllReadyH.nil
      go_simp
      refine hK.out _ _ xS (fun hHeld => ?_)
      clear hK K
      (try simp only [Act.put, List.setIfInBounds_toArray, List.set_cons_zero, List.set_cons_succ])
      refine wpAnyH_done (by kernel_rfl) ?_ _
      obtain ⟨W9, hW9⟩ : ∃ W9, Z.setCell ⟨gp, 4, none⟩ (.slice A9 n9 c9) = W9 := ⟨_, rfl⟩
      rw [hW9] at HVZ ⊢
      have hC := HVZ.out.c3
      unfold vK tv at hC
      have y0 := hC.cell (j := 0) (by simp)
      have yf0 := hC.frozen 0
      have z0 := HVZ.out.c2.cell (j := 0) (by simp)
      have zf0 := HVZ.out.c2.frozen 0
      have y1 := hC.cell (j := 1) (by simp)
      have yf1 := hC.frozen 1
      have z1 := HVZ.out.c2.cell (j := 1) (by simp)
      have zf1 := HVZ.out.c2.frozen 1
      have y2 := hC.cell (j := 2) (by simp)
      have yf2 := hC.frozen 2
      have z2 := HVZ.out.c2.cell (j := 2) (by simp)
      have zf2 := HVZ.out.c2.frozen 2
      have y3 := hC.cell (j := 3) (by simp)
      have yf3 := hC.frozen 3
      have z3 := HVZ.out.c2.cell (j := 3) (by simp)
      have zf3 := HVZ.out.c2.frozen 3
      have y4 := hC.cell (j := 4) (by simp)
      have yf4 := hC.frozen 4
      have z4 := HVZ.out.c2.cell (j := 4) (by simp)
      have zf4 := HVZ.out.c2.frozen 4
      have y5 := hC.cell (j := 5) (by simp)
      have yf5 := hC.frozen 5
      have z5 := HVZ.out.c2.cell (j := 5) (by simp)
      have zf5 := HVZ.out.c2.frozen 5
      simp only [List.getElem_cons_zero, List.getElem_cons_succ] at y0 y1 y2 y3 y4 y5 z0 z1 z2 z3 z4 z5
      have hne := HVZ.out.n.2
      clear hC hW9 ho9 hg9 hors htrs xZ pZ fZ xS
      go_wp2_with fail
      refine bodyPost_ret (va_back rfl rfl ((((((HVZ.out.c2.set 0 _).set 1 _).set 2 _).set 3 _).set 4 _).set 5 _)) rfl ?_
      obtain ⟨q1, q2, q3, q4⟩ := HVZ.out.back HBZ.out (.string (str x.d.nm)) (.int .u8 x.d.kd) (.int .i64 x.d.n) (.string (str x.d.tn)) (.int .i64 x.d.wd) (.slice x.A x.d.fs.length x.c)
      rw [HYD.out] at q2
      exact ⟨x, _, rfl, HX.out, q1, by rw [HS1.out]; exact q2, q3, q4⟩
    · go_simp
      have hbY := below_lnew X (.cells #[rV y] 69)
      have hcY := heap_alloc_new X (.cells #[rV y] 69)
      unfold rV at hbY hcY
      obtain ⟨Y, hY⟩ : ∃ Y, X.alloc (.cells #[.slice y.A y.l.length y.c] 69) = Y := ⟨_, rfl⟩
      rw [hY] at hbY hcY ⊢
      have HVY := Lib.hid (HVX.out.below hbY)
      have HTY := Lib.hid (HYT.out.below hbY)
      have xY := HVY.out.i.x.cell (j := 0) (by simp)
      have pY := HVY.out.i.p.cell (j := 4) (by simp)
      simp only [List.getElem_cons_zero, List.getElem_cons_succ] at xY pY
      have hzXY := hbY.size
      clear hY hbY
      refine hK.out _ _ xY (fun hHeld => ?_)
      clear hK K
      (try simp only [Act.put, List.setIfInBounds_toArray, List.set_cons_zero, List.set_cons_succ])
      refine wpAnyH_ready (rs := [1]) (by kernel_rfl) (by simp) ?_
      refine AllReadyH.cons rfl (fun K hK => ?_) AllReadyH.nil
      go_simp
      refine hK.out _ _ xY (fun hHeld => ?_)
      clear hK K
      (try simp only [Act.put, List.setIfInBounds_toArray, List.set_cons_zero, List.set_cons_succ])
      refine wpAnyH_ready (rs := [5]) (by kernel_rfl) (by simp) ?_
      refine AllReadyH.cons rfl (fun K hK => ?_) AllReadyH.nil
      rw [if_pos (by kernel_rfl)]
      obtain ⟨rs, hrs, hors, htrs⟩ := HVY.out.i.o
      refine El.op_app1 eR Y 47 (.slice none 0 0) 24 Tryz.underlying47 sps_info rfl (by omega) (by decide) (.tmp 7) (.tmp 10) rfl w0.heap.size v rs rfl hors X.heap.size 1 y rfl 69 hcY (by have := congrArg List.length hrs; rw [List.length_map] at this; omega) (by have := HVY.out.i.p.lt; have := HVY.out.i.n; omega) ?_
      intro v9 Z ho9 hg9
      obtain ⟨A9, n9, c9, rfl, hn9, hc9, _, _⟩ := ho9.formN
      change K (Act.put _ (some 11) (.slice A9 n9 c9)) Z
      have hTZ : ButT 69 Y Z := ButT.grown hg9 (fun q e => hors.has q e)
      have xZ := (hTZ.cell (p := ⟨gx, 0, none⟩) HVY.out.i.x.has (by decide)).trans xY
      have pZ := (hTZ.cell (p := ⟨gp, 4, none⟩) HVY.out.i.p.has (by decide)).trans pY
      have hfZ : CAt Z gp 49 _ := (hTZ gp _ HVY.out.i.p.has (by decide)).trans HVY.out.i.p
      have fZ := hfZ.frozen 4
      have HVZ := Lib.hid (HVY.out.add (by have := HVY.out.l.size; omega) hrs hors htrs HTY.out hg9 ho9)
      have xS := HVZ.out.i.x.cell (j := 0) (by simp)
      simp only [List.getElem_cons_zero] at xS
      clear hfZ hTZ
      refine hK.out _ _ xZ (fun hHeld => ?_)
      clear hK K
      (try simp only [Act.put, List.setIfInBounds_toArray, List.set_cons_zero, List.set_cons_succ])
      refine heldTake (i := 6) (d := some 12) (v := ?_) rfl rfl (by kernel_rfl) (by kernel_rfl) (by kernel_rfl) (fun _ _ _ h => h) (by kernel_rfl) ?hyq_5 (by assumption) ?restq_5
      case hyq_5 => (intro W9 hSw; (try dsimp only at hSw); go_simp; try (with_reducible rfl))
      (try simp only [Act.put, List.setIfInBounds_toArray, List.set_cons_zero, List.set_cons_succ])
      refine wpAnyH_ready (rs := [7]) (by kernel_rfl) (by simp) ?_
      refine AllReadyH.cons rfl (fun K hK => ?_) AllReadyH.nil
      go_simp
      refine hK.out _ _ xS (fun hHeld => ?_)
      clear hK K
      (try simp only [Act.put, List.setIfInBounds_toArray, List.set_cons_zero, List.set_cons_succ])
      refine wpAnyH_done (by kernel_rfl) ?_ _
      obtain ⟨W9, hW9⟩ : ∃ W9, Z.setCell ⟨gp, 4, none⟩ (.slice A9 n9 c9) = W9 := ⟨_, rfl⟩
      rw [hW9] at HVZ ⊢
      have hC := HVZ.out.c3
      unfold vK tv at hC
      have y0 := hC.cell (j := 0) (by simp)
      have yf0 := hC.frozen 0
      have z0 := HVZ.out.c2.cell (j := 0) (by simp)
      have zf0 := HVZ.out.c2.frozen 0
      have y1 := hC.cell (j := 1) (by simp)
      have yf1 := hC.frozen 1
      have z1 := HVZ.out.c2.cell (j := 1) (by simp)
      have zf1 := HVZ.out.c2.frozen 1
      have y2 := hC.cell (j := 2) (by simp)
      have yf2 := hC.frozen 2
      have z2 := HVZ.out.c2.cell (j := 2) (by simp)
      have zf2 := HVZ.out.c2.frozen 2
      have y3 := hC.cell (j := 3) (by simp)
      have yf3 := hC.frozen 3
      have z3 := HVZ.out.c2.cell (j := 3) (by simp)
      have zf3 := HVZ.out.c2.frozen 3
      have y4 := hC.cell (j := 4) (by simp)
      have yf4 := hC.frozen 4
      have z4 := HVZ.out.c2.cell (j := 4) (by simp)
      have zf4 := HVZ.out.c2.frozen 4
      have y5 := hC.cell (j := 5) (by simp)
      have yf5 := hC.frozen 5
      have z5 := HVZ.out.c2.cell (j := 5) (by simp)
      have zf5 := HVZ.out.c2.frozen 5
      simp only [List.getElem_cons_zero, List.getElem_cons_succ] at y0 y1 y2 y3 y4 y5 z0 z1 z2 z3 z4 z5
      have hne := HVZ.out.n.2
      clear hC hW9 ho9 hg9 hors htrs xZ pZ fZ xS
      go_wp2_with fail
      refine bodyPost_ret (va_back rfl rfl ((((((HVZ.out.c2.set 0 _).set 1 _).set 2 _).set 3 _).set 4 _).set 5 _)) rfl ?_
      obtain ⟨q1, q2, q3, q4⟩ := HVZ.out.back HBZ.out (.string (str x.d.nm)) (.int .u8 x.d.kd) (.int .i64 x.d.n) (.string (str x.d.tn)) (.int .i64 x.d.wd) (.slice x.A x.d.fs.length x.c)
      rw [HYD.out] at q2
      exact ⟨x, _, rfl, HX.out, q1, by rw [HS1.out]; exact q2, q3, q4⟩
end Go.Proofs.YtbkfkdiadeaooaaGreat
