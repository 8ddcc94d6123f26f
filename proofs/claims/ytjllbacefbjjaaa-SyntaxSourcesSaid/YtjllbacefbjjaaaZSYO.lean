/-
  Merged for a claim: SYO.
-/
import Derived.Test.YtjllbacefbjjaaaZJ8
namespace Go.Proofs.Ytjllbacefbjjaaa
open Go Go.RowKit

def begP (u : List To) : Option (Ha × List To) :=
 if isU u = true then some (.un (hd u).tx, u.tail) else if isS [40] u = true then some (.par, u.tail) else if isE u = true then some (.elem (hd u).tx, u.tail.tail) else none
def zH : List Value := [.int .u8 0, .int .i64 0, .string ⟨#[]⟩, .string ⟨#[]⟩, .string ⟨#[]⟩, .slice none 0 0, .int .i64 0, .string ⟨#[]⟩]
def hLeaf (kd : Int) (nm op : List UInt8) (b : Int) (en : List UInt8) : HM := ⟨xLeaf kd 0 nm [] op, b, en⟩
def BgR (w : World) (gp : Nat) (A : Option Addr) (c : Nat) (l u : List To) (r : Option (Ha × List To)) (e : Ending) (w' : World) : Prop := match r with
 | some (h, v) => ∃ m : HM, e = .returned (.tuple #[hV m, .bool true]) ∧ (∀ W P, m.Is h W P) ∧ Ps w' gp A c l v ∧ w.grownBy w' (some gp)
 | none => e = .returned (.tuple #[hV (hLeaf 0 [] [] 0 []), .bool false]) ∧ Ps w' gp A c l u ∧ w.grownBy w' (some gp)
theorem two_kd {t : To} {s : List UInt8} (h : t.kd ≠ 0) : ∀ x ∈ [t, (⟨4, s, 0, 0⟩ : To)], x.kd ≠ 0 := by
 intro x hx
 rcases List.mem_cons.1 hx with rfl | hx
 · exact h
 · rw [List.mem_singleton.1 hx]
   exact (by decide : (4 : Int) ≠ 0)
theorem half_size : (Try.prog.info? 139).map (·.size) = some 8 := by kernel_rfl
theorem half_back {fn : Func} {p q : Tmp} (h : fn.results = #[.cell p 139, .tmp q]) {tmps : Array Value} {w : World} {g : Nat} (hp : tmps.getD p undef = .pointer (some ⟨g, 0, none⟩)) {v : Value} (hq : tmps.getD q undef = v)
 {m : HM} (hg : CAt w g 139 m.cs) : (results fn tmps).run Try.prog w = .ok (.tuple #[hV m, v]) w := by
 subst hq
 obtain ⟨x, b, en⟩ := m
 cases x
 exact res_row_tmp h tmps w g _ _ _ _ hp hg Try.underlying139 rfl half_size
def setH (W : World) (g : Nat) (m : HM) : World := ((setE W g m.x).setCell ⟨g, 6, none⟩ (.int .i64 m.b)).setCell ⟨g, 7, none⟩ (.string (str m.en))
theorem setH_at {W : World} {g : Nat} {z0 z1 z2 z3 z4 z5 z6 z7 : Value} (m : HM) (h : CAt W g 139 [z0, z1, z2, z3, z4, z5, z6, z7]) : CAt (setH W g m) g 139 m.cs := by
 obtain ⟨x, b, en⟩ := m
 cases x
 exact (((((((h.set 0 _).set 1 _).set 2 _).set 3 _).set 4 _).set 5 _).set 6 _).set 7 _
theorem setH_below {W : World} {B g : Nat} (m : HM) (h : B ≤ g) : Below B W (setH W g m) :=
 ((setE_below m.x h).setCell (p := ⟨g, 6, none⟩) h _).setCell (p := ⟨g, 7, none⟩) h _
theorem leaf_is (kd : Int) (nm op : List UInt8) (b : Int) (en : List UInt8) (h : Ha) (hd : h.pe = .mk kd 0 nm [] op []) (hb : b = h.b) (he : en = h.en) (W : World) (P : Nat → Prop) : (hLeaf kd nm op b en).Is h W P :=
 ⟨by rw [hd]; exact leaf_d _ _ _ _ _, hb, he, Nat.le_refl _, xLeaf_ok _ _ _ _ _ _ _⟩
structure BgW (w : World) (gp : Nat) (A : Option Addr) (c : Nat) (l : List To) (gt : Nat) (t : To) (W : World) (u : List To) : Prop where
 p : Ps W gp A c l u
 z : CAt W w.heap.size 139 zH
 q : CAt W gt 77 (tS t)
 g : w.grownBy W (some gp)
 n : gp < w.heap.size ∧ w.heap.size < gt
section
variable {w W W' : World} {gp : Nat} {A : Option Addr} {c : Nat} {l u u' : List To} {gt : Nat} {t : To}
theorem BgW.drew (h : BgW w gp A c l gt t W u) : BgW w gp A c l gt t W.drew u := ⟨h.p.next ((Below.refl _ W).drew), h.z, h.q, grown_trans h.g (grown_below ((Below.refl _ W).drew) _), h.n⟩
theorem BgW.below (h : BgW w gp A c l gt t W u) (hb : Below W.heap.size W W') : BgW w gp A c l gt t W' u := ⟨h.p.next hb, h.z.below hb h.z.lt, h.q.below hb h.q.lt, grown_trans h.g (grown_below hb _), h.n⟩
theorem BgW.step (h : BgW w gp A c l gt t W u) (hp : Ps W' gp A c l u') (hg : W.grownBy W' (some gp)) : BgW w gp A c l gt t W' u' :=
 ⟨hp, (hg.block _ h.z.lt (fun e => by injection e with e; have := h.n; omega)).trans h.z, (hg.block _ h.q.lt (fun e => by injection e with e; have := h.n; omega)).trans h.q, grown_trans h.g hg, h.n⟩
theorem back_beg {fn : Func} (hf : fn.results = #[.cell 2 139, .tmp 3]) {tmps : Array Value} (hp : tmps.getD 2 undef = .pointer (some ⟨w.heap.size, 0, none⟩)) (hq : tmps.getD 3 undef = .bool true) (h : BgW w gp A c l gt t W u') (m : HM) (hh : Ha) (hm : ∀ W P, m.Is hh W P) (r : Option (Ha × List To)) (hr : r = some (hh, u')) :
 bodyPost Try.prog fn (BgR w gp A c l u r) .ret { tmps := tmps, defers := [] } (setH W w.heap.size m) := by
 subst hr
 have hb := setH_below (W := W) (B := w.heap.size) (g := w.heap.size) m (Nat.le_refl _)
 exact bodyPost_ret (half_back hf hp hq (setH_at m h.z)) rfl ⟨m, rfl, hm, h.p.below hb h.n.1, grown_new h.g hb⟩
theorem back_no {fn : Func} (hf : fn.results = #[.cell 2 139, .tmp 3]) {tmps : Array Value} (hp : tmps.getD 2 undef = .pointer (some ⟨w.heap.size, 0, none⟩)) (hq : tmps.getD 3 undef = .bool false) (h : BgW w gp A c l gt t W u) (r : Option (Ha × List To)) (hr : r = none) :
 bodyPost Try.prog fn (BgR w gp A c l u r) .ret { tmps := tmps, defers := [] } (setH W w.heap.size (hLeaf 0 [] [] 0 [])) := by
 subst hr
 have hb := setH_below (W := W) (B := w.heap.size) (g := w.heap.size) (hLeaf 0 [] [] 0 []) (Nat.le_refl _)
 exact bodyPost_ret (half_back hf hp hq (setH_at (hLeaf 0 [] [] 0 []) h.z)) rfl ⟨rfl, h.p.below hb h.n.1, grown_new h.g hb⟩
theorem hasT_any (h : Ps W gp A c l u) (kd : Int) (tx : List UInt8) (ht : kd ≠ 0) :
 Calls Try.prog 88 #[.pointer (some ⟨gp, 0, none⟩), tV ⟨kd, tx, 0, 0⟩] W (fun e w' => e = .returned (.bool (isK 1 u && isT kd tx u.tail)) ∧ Below W.heap.size W w') := hasName_any h ⟨kd, tx, 0, 0⟩ ht
set_option maxRecDepth 100000 in
set_option maxHeartbeats 4000000 in
theorem begin_any (hP : Ps w gp A c l u) : Calls Try.prog 91 #[.pointer (some ⟨gp, 0, none⟩)] w (BgR w gp A c l u (begP u)) := by
 have hb0 := below_lnew w (.cells #[.int .u8 0, .int .i64 0, .string ⟨#[]⟩, .string ⟨#[]⟩, .string ⟨#[]⟩, .slice none 0 0, .int .i64 0, .string ⟨#[]⟩] 139)
 have HZ0 := Lib.hid (show CAt _ w.heap.size 139 zH from heap_alloc_new w (.cells #[.int .u8 0, .int .i64 0, .string ⟨#[]⟩, .string ⟨#[]⟩, .string ⟨#[]⟩, .slice none 0 0, .int .i64 0, .string ⟨#[]⟩] 139))
 have HLK := Lib.hid (look_any (hP.next hb0) 0 (by omega))
 have HP := Lib.hid hP
 have HB0 := Lib.hid hb0
 rw [List.drop_zero] at HLK
 obtain ⟨r, hr⟩ : ∃ r, begP u = r := ⟨_, rfl⟩
 rw [hr]
 have HR := Lib.hid hr.symm
 clear hP hr hb0
 unfold tV tS at HLK
 go_enter Try.func91, Try.ntmps91
 go_wp2_with fail
 refine HLK.out.mono ?_
 rintro e w1 ⟨rfl, hb1⟩
 have hsz : w.heap.size < w1.heap.size := Nat.lt_of_lt_of_le HZ0.out.lt hb1.size
 have hq := tok_box w1 (hd u)
 have hb2 := below_lnew w1 (.cells #[.int .u8 (hd u).kd, .string (str (hd u).tx), .int .i64 (hd u).nu, .int .i64 (hd u).ln] 77)
 have h0 : BgW w gp A c l w1.heap.size (hd u) (w1.alloc (.cells #[.int .u8 (hd u).kd, .string (str (hd u).tx), .int .i64 (hd u).nu, .int .i64 (hd u).ln] 77)) u :=
  ⟨((HP.out.next HB0.out).next hb1).next hb2, (HZ0.out.below hb1 HZ0.out.lt).below hb2 (Nat.lt_of_lt_of_le HZ0.out.lt hb1.size), hq, grown_trans (grown_trans (grown_below HB0.out _) (grown_below hb1 _)) (grown_below hb2 _), HP.out.lt, hsz⟩
 obtain ⟨w2, hw2⟩ : ∃ w2, w1.alloc (.cells #[.int .u8 (hd u).kd, .string (str (hd u).tx), .int .i64 (hd u).nu, .int .i64 (hd u).ln] 77) = w2 := ⟨_, rfl⟩
 rw [hw2] at h0
 have HW2 := Lib.hid hw2
 have H0 := Lib.hid h0
 obtain ⟨gt, hgt⟩ : ∃ gt, w1.heap.size = gt := ⟨_, rfl⟩
 have HGT := Lib.hid hgt
 rw [hgt] at H0 hsz
 clear h0 hq hb2 hb1 hw2 HLK HZ0 HB0 HP hgt
 go_wp2_with fail
 rw [HW2.out, HGT.out]
 clear HW2 HGT
 refine wp_region_held_drew (S := fun W9 => True) (by kernel_rfl) (trivial) (fun hHeld => ?_)
 refine heldTake (i := 0) (d := some 10) (v := ?_) rfl rfl (by kernel_rfl) (by kernel_rfl) (by kernel_rfl) (fun _ _ _ h => h) (by kernel_rfl) ?hyq_1 (by assumption) ?restq_1
 case hyq_1 => (intro W9 hSw; (try dsimp only at hSw); go_simp; try (with_reducible rfl))
 (try simp only [Act.put, nA, nB, nC])
 refine heldTake (i := 1) (d := some 11) (v := ?_) rfl rfl (by kernel_rfl) (by kernel_rfl) (by kernel_rfl) (fun _ _ _ h => h) (by kernel_rfl) ?hyq_2 (by assumption) ?restq_2
 case hyq_2 => (intro W9 hSw; (try dsimp only at hSw); go_simp; try (with_reducible rfl))
 (try simp only [Act.put, nA, nB, nC])
 refine heldTake (i := 2) (d := some 12) (v := ?_) rfl rfl (by kernel_rfl) (by kernel_rfl) (by kernel_rfl) (fun _ _ _ h => h) (by kernel_rfl) ?hyq_3 (by assumption) ?restq_3
 case hyq_3 => (intro W9 hSw; (try dsimp only at hSw); go_simp; try (with_reducible rfl))
 (try simp only [Act.put, nA, nB, nC])
 refine wpAnyH_ready (rs := [3]) (by kernel_rfl) (by simp) ?_
 refine AllReadyH.cons rfl (fun K hK => ?_) AllReadyH.nil
 go_simp
 go_at_call 58
 refine (sign_any [45] _).mono ?_
 rintro e9 X1 ⟨rfl, hbX1⟩
 have K1x := Lib.hid (H0.out.drew.below hbX1)
 clear hbX1
 go_wp2_with fail
 refine hK.out _ _ trivial (fun hHeld => ?_)
 clear hK K
 (try simp only [Act.put, nA, nB, nC])
 refine wpAnyH_ready (rs := [4]) (by kernel_rfl) (by simp) ?_
 refine AllReadyH.cons rfl (fun K hK => ?_) AllReadyH.nil
 go_simp
 go_at_call 59
 refine (takeT_any K1x.out.p 4 [45] (by decide)).mono ?_
 rintro e9 Y1 ⟨rfl, hpY1, hgY1⟩
 have K1 := Lib.hid (K1x.out.step hpY1 hgY1)
 clear hpY1 hgY1 K1x
 go_wp2_with fail
 refine hK.out _ _ trivial (fun hHeld => ?_)
 clear hK K
 (try simp only [Act.put, nA, nB, nC])
 refine heldTake (i := 5) (d := some 9) (v := ?_) rfl rfl (by kernel_rfl) (by kernel_rfl) (by kernel_rfl) (fun _ _ _ h => h) (by kernel_rfl) ?hyq_4 (by assumption) ?restq_4
 case hyq_4 => (intro W9 hSw; (try dsimp only at hSw); go_simp; try (with_reducible rfl))
 (try simp only [Act.put, nA, nB, nC])
 refine wpAnyH_done (by kernel_rfl) ?_ _
 cases hy : isT 4 [45] u
 · rw [show stp 4 [45] u = u by unfold stp; rw [hy]; rfl] at K1
   go_wp2_with fail
   refine wp_region_held_drew (S := fun W9 => True) (by kernel_rfl) (trivial) (fun hHeld => ?_)
   refine heldTake (i := 0) (d := some 15) (v := ?_) rfl rfl (by kernel_rfl) (by kernel_rfl) (by kernel_rfl) (fun _ _ _ h => h) (by kernel_rfl) ?hyq_5 (by assumption) ?restq_5
   case hyq_5 => (intro W9 hSw; (try dsimp only at hSw); go_simp; try (with_reducible rfl))
   (try simp only [Act.put, nA, nB, nC])
   refine heldTake (i := 1) (d := some 16) (v := ?_) rfl rfl (by kernel_rfl) (by kernel_rfl) (by kernel_rfl) (fun _ _ _ h => h) (by kernel_rfl) ?hyq_6 (by assumption) ?restq_6
   case hyq_6 => (intro W9 hSw; (try dsimp only at hSw); go_simp; try (with_reducible rfl))
   (try simp only [Act.put, nA, nB, nC])
   refine heldTake (i := 2) (d := some 17) (v := ?_) rfl rfl (by kernel_rfl) (by kernel_rfl) (by kernel_rfl) (fun _ _ _ h => h) (by kernel_rfl) ?hyq_7 (by assumption) ?restq_7
   case hyq_7 => (intro W9 hSw; (try dsimp only at hSw); go_simp; try (with_reducible rfl))
   (try simp only [Act.put, nA, nB, nC])
   refine wpAnyH_ready (rs := [3]) (by kernel_rfl) (by simp) ?_
   refine AllReadyH.cons rfl (fun K hK => ?_) AllReadyH.nil
   go_simp
   go_at_call 58
   refine (sign_any [33] _).mono ?_
   rintro e9 X2 ⟨rfl, hbX2⟩
   have K2x := Lib.hid (K1.out.drew.below hbX2)
   clear hbX2
   go_wp2_with fail
   refine hK.out _ _ trivial (fun hHeld => ?_)
   clear hK K
   (try simp only [Act.put, nA, nB, nC])
   refine wpAnyH_ready (rs := [4]) (by kernel_rfl) (by simp) ?_
   refine AllReadyH.cons rfl (fun K hK => ?_) AllReadyH.nil
   go_simp
   go_at_call 59
   refine (takeT_any K2x.out.p 4 [33] (by decide)).mono ?_
   rintro e9 Y2 ⟨rfl, hpY2, hgY2⟩
   have K2 := Lib.hid (K2x.out.step hpY2 hgY2)
   clear hpY2 hgY2 K2x
   go_wp2_with fail
   refine hK.out _ _ trivial (fun hHeld => ?_)
   clear hK K
   (try simp only [Act.put, nA, nB, nC])
   refine heldTake (i := 5) (d := some 9) (v := ?_) rfl rfl (by kernel_rfl) (by kernel_rfl) (by kernel_rfl) (fun _ _ _ h => h) (by kernel_rfl) ?hyq_8 (by assumption) ?restq_8
   case hyq_8 => (intro W9 hSw; (try dsimp only at hSw); go_simp; try (with_reducible rfl))
   (try simp only [Act.put, nA, nB, nC])
   refine wpAnyH_done (by kernel_rfl) ?_ _
   cases hy2 : isT 4 [33] u
   · rw [show stp 4 [33] u = u by unfold stp; rw [hy2]; rfl] at K2
     have HU := Lib.hid (show ¬ isU u = true by unfold isU isS; rw [hy, hy2]; decide)
     clear K1 H0 hy hy2
     go_wp2_with fail
     refine wp_region_held_drew (S := fun W9 => True) (by kernel_rfl) (trivial) (fun hHeld => ?_)
     refine heldTake (i := 0) (d := some 25) (v := ?_) rfl rfl (by kernel_rfl) (by kernel_rfl) (by kernel_rfl) (fun _ _ _ h => h) (by kernel_rfl) ?hyq_9 (by assumption) ?restq_9
     case hyq_9 => (intro W9 hSw; (try dsimp only at hSw); go_simp; try (with_reducible rfl))
     (try simp only [Act.put, nA, nB, nC])
     refine heldTake (i := 1) (d := some 26) (v := ?_) rfl rfl (by kernel_rfl) (by kernel_rfl) (by kernel_rfl) (fun _ _ _ h => h) (by kernel_rfl) ?hyq_10 (by assumption) ?restq_10
     case hyq_10 => (intro W9 hSw; (try dsimp only at hSw); go_simp; try (with_reducible rfl))
     (try simp only [Act.put, nA, nB, nC])
     refine heldTake (i := 2) (d := some 27) (v := ?_) rfl rfl (by kernel_rfl) (by kernel_rfl) (by kernel_rfl) (fun _ _ _ h => h) (by kernel_rfl) ?hyq_11 (by assumption) ?restq_11
     case hyq_11 => (intro W9 hSw; (try dsimp only at hSw); go_simp; try (with_reducible rfl))
     (try simp only [Act.put, nA, nB, nC])
     refine wpAnyH_ready (rs := [3]) (by kernel_rfl) (by simp) ?_
     refine AllReadyH.cons rfl (fun K hK => ?_) AllReadyH.nil
     go_simp
     go_at_call 58
     refine (sign_any [40] _).mono ?_
     rintro e9 X3 ⟨rfl, hbX3⟩
     have K3x := Lib.hid (K2.out.drew.below hbX3)
     clear hbX3
     go_wp2_with fail
     refine hK.out _ _ trivial (fun hHeld => ?_)
     clear hK K
     (try simp only [Act.put, nA, nB, nC])
     refine wpAnyH_ready (rs := [4]) (by kernel_rfl) (by simp) ?_
     refine AllReadyH.cons rfl (fun K hK => ?_) AllReadyH.nil
     go_simp
     go_at_call 59
     refine (takeT_any K3x.out.p 4 [40] (by decide)).mono ?_
     rintro e9 Y3 ⟨rfl, hpY3, hgY3⟩
     have K3 := Lib.hid (K3x.out.step hpY3 hgY3)
     clear hpY3 hgY3 K3x
     go_wp2_with fail
     refine hK.out _ _ trivial (fun hHeld => ?_)
     clear hK K
     (try simp only [Act.put, nA, nB, nC])
     refine heldTake (i := 5) (d := some 24) (v := ?_) rfl rfl (by kernel_rfl) (by kernel_rfl) (by kernel_rfl) (fun _ _ _ h => h) (by kernel_rfl) ?hyq_12 (by assumption) ?restq_12
     case hyq_12 => (intro W9 hSw; (try dsimp only at hSw); go_simp; try (with_reducible rfl))
     (try simp only [Act.put, nA, nB, nC])
     refine wpAnyH_done (by kernel_rfl) ?_ _
     cases hy3 : isT 4 [40] u
     · rw [show stp 4 [40] u = u by unfold stp; rw [hy3]; rfl] at K3
       have HS := Lib.hid (show ¬ isS [40] u = true by unfold isS; rw [hy3]; decide)
       clear K2 hy3
       go_wp2_with fail
       refine wp_region_held_drew (S := fun W9 => True) (by kernel_rfl) (trivial) (fun hHeld => ?_)
       refine heldTake (i := 0) (d := some 32) (v := ?_) rfl rfl (by kernel_rfl) (by kernel_rfl) (by kernel_rfl) (fun _ _ _ h => h) (by kernel_rfl) ?hyq_13 (by assumption) ?restq_13
       case hyq_13 => (intro W9 hSw; (try dsimp only at hSw); go_simp; try (with_reducible rfl))
       (try simp only [Act.put, nA, nB, nC])
       refine heldTake (i := 1) (d := some 33) (v := ?_) rfl rfl (by kernel_rfl) (by kernel_rfl) (by kernel_rfl) (fun _ _ _ h => h) (by kernel_rfl) ?hyq_14 (by assumption) ?restq_14
       case hyq_14 => (intro W9 hSw; (try dsimp only at hSw); go_simp; try (with_reducible rfl))
       (try simp only [Act.put, nA, nB, nC])
       refine heldTake (i := 2) (d := some 34) (v := ?_) rfl rfl (by kernel_rfl) (by kernel_rfl) (by kernel_rfl) (fun _ _ _ h => h) (by kernel_rfl) ?hyq_15 (by assumption) ?restq_15
       case hyq_15 => (intro W9 hSw; (try dsimp only at hSw); go_simp; try (with_reducible rfl))
       (try simp only [Act.put, nA, nB, nC])
       refine wpAnyH_ready (rs := [3]) (by kernel_rfl) (by simp) ?_
       refine AllReadyH.cons rfl (fun K hK => ?_) AllReadyH.nil
       go_simp
       go_at_call 58
       refine (sign_any [91] _).mono ?_
       rintro e9 X4 ⟨rfl, hbX4⟩
       have K4x := Lib.hid (K3.out.drew.below hbX4)
       clear hbX4
       go_wp2_with fail
       refine hK.out _ _ trivial (fun hHeld => ?_)
       clear hK K
       (try simp only [Act.put, nA, nB, nC])
       refine wpAnyH_ready (rs := [4]) (by kernel_rfl) (by simp) ?_
       refine AllReadyH.cons rfl (fun K hK => ?_) AllReadyH.nil
       go_simp
       go_at_call 88
       refine (hasT_any K4x.out.p 4 [91] (by decide)).mono ?_
       rintro e9 Y4 ⟨rfl, hbY4⟩
       have K4 := Lib.hid (K4x.out.below hbY4)
       clear hbY4 K4x
       go_wp2_with fail
       refine hK.out _ _ trivial (fun hHeld => ?_)
       clear hK K
       (try simp only [Act.put, nA, nB, nC])
       refine heldTake (i := 5) (d := some 31) (v := ?_) rfl rfl (by kernel_rfl) (by kernel_rfl) (by kernel_rfl) (fun _ _ _ h => h) (by kernel_rfl) ?hyq_16 (by assumption) ?restq_16
       case hyq_16 => (intro W9 hSw; (try dsimp only at hSw); go_simp; try (with_reducible rfl))
       (try simp only [Act.put, nA, nB, nC])
       refine wpAnyH_done (by kernel_rfl) ?_ _
       cases hE : (isK 1 u && isT 4 [91] u.tail)
       · have HE := Lib.hid (show r = none by rw [HR.out, begP, if_neg HU.out, if_neg HS.out, if_neg (show ¬ isE u = true by unfold isE isS; rw [hE]; decide)])
         have hz := K4.out.z
         unfold zH at hz
         have z0 := hz.cell (j := 0) (by simp)
         have zf0 := hz.frozen 0
         have z1 := hz.cell (j := 1) (by simp)
         have zf1 := hz.frozen 1
         have z2 := hz.cell (j := 2) (by simp)
         have zf2 := hz.frozen 2
         have z3 := hz.cell (j := 3) (by simp)
         have zf3 := hz.frozen 3
         have z4 := hz.cell (j := 4) (by simp)
         have zf4 := hz.frozen 4
         have z5 := hz.cell (j := 5) (by simp)
         have zf5 := hz.frozen 5
         have z6 := hz.cell (j := 6) (by simp)
         have zf6 := hz.frozen 6
         have z7 := hz.cell (j := 7) (by simp)
         have zf7 := hz.frozen 7
         simp only [List.getElem_cons_zero, List.getElem_cons_succ] at z0 z1 z2 z3 z4 z5 z6 z7
         clear hz K3 hE
         go_wp2_with fail
         exact back_no rfl rfl rfl K4.out r HE.out
       · have HE := Lib.hid (show r = some (.elem (hd u).tx, u.tail.tail) by rw [HR.out, begP, if_neg HU.out, if_neg HS.out, if_pos (show isE u = true by unfold isE isS; rw [hE])])
         have hE2 : isK 1 u = true ∧ isT 4 [91] u.tail = true := by rw [Bool.and_eq_true] at hE; exact hE
         have HK1 := Lib.hid (show (hd u).kd ≠ 0 by have h9 := isK_hd (kd := 1) (u := u) (by decide); rw [hE2.1] at h9; rw [of_decide_eq_true h9]; decide)
         have HND := Lib.hid (show ndP [hd u, ⟨4, [91], 0, 0⟩] u = .ok () u.tail.tail by
          have h9 := isT_hd (kd := (hd u).kd) (tx := (hd u).tx) (u := u) HK1.out
          rw [decide_eq_true rfl, decide_eq_true rfl] at h9
          rw [ndP, if_pos (show isT (hd u).kd (hd u).tx u = true from h9.symm), ndP, if_pos hE2.2, ndP])
         obtain ⟨t0, t1, t2, t3⟩ := K4.out.q.tc
         clear K3 hE hE2
         go_wp2_with fail
         refine wp_region_held_drew (S := fun W9 => (W9.cell? ⟨gt, 0, none⟩ = some (.int .u8 (hd u).kd) ∧ W9.cell? ⟨gt, 1, none⟩ = some (.string (str (hd u).tx)) ∧ W9.cell? ⟨gt, 2, none⟩ = some (.int .i64 (hd u).nu) ∧ W9.cell? ⟨gt, 3, none⟩ = some (.int .i64 (hd u).ln))) (by kernel_rfl) (⟨t0, t1, t2, t3⟩) (fun hHeld => ?_)
         refine heldTake (i := 0) (d := some 37) (v := ?_) rfl rfl (by kernel_rfl) (by kernel_rfl) (by kernel_rfl) (fun _ _ _ h => h) (by kernel_rfl) ?hyq_17 (by assumption) ?restq_17
         case hyq_17 => (intro W9 hSw; (try dsimp only at hSw); go_simp; try (with_reducible rfl))
         (try simp only [Act.put, nA, nB, nC])
         refine heldTake (i := 1) (d := some 38) (v := ?_) rfl rfl (by kernel_rfl) (by kernel_rfl) (by kernel_rfl) (fun _ _ _ h => h) (by kernel_rfl) ?hyq_18 (by assumption) ?restq_18
         case hyq_18 => (intro W9 hSw; (try dsimp only at hSw); go_simp; try (with_reducible rfl))
         (try simp only [Act.put, nA, nB, nC])
         refine heldTake (i := 2) (d := some 39) (v := ?_) rfl rfl (by kernel_rfl) (by kernel_rfl) (by kernel_rfl) (fun _ _ _ h => h) (by kernel_rfl) ?hyq_19 (by assumption) ?restq_19
         case hyq_19 => (intro W9 hSw; (try dsimp only at hSw); go_simp; try (with_reducible rfl))
         (try simp only [Act.put, nA, nB, nC])
         refine heldTake (i := 3) (d := some 40) (v := ?_) rfl rfl (by kernel_rfl) (by kernel_rfl) (by kernel_rfl) (fun _ _ _ h => h) (by kernel_rfl) ?hyq_20 (by assumption) ?restq_20
         case hyq_20 => (intro W9 hSw; (try dsimp only at hSw); go_simp; try (with_reducible rfl))
         (try simp only [Act.put, nA, nB, nC])
         refine wpAnyH_ready (rs := [4]) (by kernel_rfl) (by simp) ?_
         refine AllReadyH.cons rfl (fun K hK => ?_) AllReadyH.nil
         go_simp
         go_at_call 58
         refine (sign_any [91] _).mono ?_
         rintro e9 X8 ⟨rfl, hbX8⟩
         have K5 := Lib.hid (K4.out.drew.below hbX8)
         clear hbX8
         go_wp2_with fail
         refine hK.out _ _ K5.out.q.tc (fun hHeld => ?_)
         clear hK K
         (try simp only [Act.put, nA, nB, nC])
         refine wpAnyH_ready (rs := [5]) (by kernel_rfl) (by simp) ?_
         refine AllReadyH.cons rfl (fun K hK => ?_) AllReadyH.nil
         go_simp
         have hT8 : eTo.LiesT (X8.alloc (.cells #[.int .u8 (hd u).kd, .string (str (hd u).tx), .int .i64 (hd u).nu, .int .i64 (hd u).ln, .int .u8 4, .string (str [91]), .int .i64 0, .int .i64 0] 77)) (some ⟨X8.heap.size, 0, none⟩) [hd u, ⟨4, [91], 0, 0⟩] := El.liesT_new eTo X8 [hd u, ⟨4, [91], 0, 0⟩] #[.int .u8 (hd u).kd, .string (str (hd u).tx), .int .i64 (hd u).nu, .int .i64 (hd u).ln, .int .u8 4, .string (str [91]), .int .i64 0, .int .i64 0] (fun i v h => by simpa [eTo, tS] using h)
         have K6 := Lib.hid (K5.out.below (below_lnew X8 (.cells #[.int .u8 (hd u).kd, .string (str (hd u).tx), .int .i64 (hd u).nu, .int .i64 (hd u).ln, .int .u8 4, .string (str [91]), .int .i64 0, .int .i64 0] 77)))
         refine hK.out _ _ K6.out.q.tc (fun hHeld => ?_)
         clear hK K
         (try simp only [Act.put, nA, nB, nC])
         refine wpAnyH_ready (rs := [6]) (by kernel_rfl) (by simp) ?_
         refine AllReadyH.cons rfl (fun K hK => ?_) AllReadyH.nil
         go_simp
         go_at_call 56
         refine (need_any K6.out.p [hd u, ⟨4, [91], 0, 0⟩] (two_kd HK1.out) (some ⟨X8.heap.size, 0, none⟩) 2 hT8 (by simp)).mono ?_
         rintro e9 Y8 hN8
         rw [HND.out] at hN8
         obtain ⟨rfl, hpY8, hgY8⟩ := hN8
         have K7 := Lib.hid (K6.out.step hpY8 hgY8)
         go_wp2_with fail
         refine hK.out _ _ K7.out.q.tc (fun hHeld => ?_)
         clear hK K
         (try simp only [Act.put, nA, nB, nC])
         refine wpAnyH_done (by kernel_rfl) ?_ _
         have hz := K7.out.z
         unfold zH at hz
         have z0 := hz.cell (j := 0) (by simp)
         have zf0 := hz.frozen 0
         have z1 := hz.cell (j := 1) (by simp)
         have zf1 := hz.frozen 1
         have z2 := hz.cell (j := 2) (by simp)
         have zf2 := hz.frozen 2
         have z3 := hz.cell (j := 3) (by simp)
         have zf3 := hz.frozen 3
         have z4 := hz.cell (j := 4) (by simp)
         have zf4 := hz.frozen 4
         have z5 := hz.cell (j := 5) (by simp)
         have zf5 := hz.frozen 5
         have z6 := hz.cell (j := 6) (by simp)
         have zf6 := hz.frozen 6
         have z7 := hz.cell (j := 7) (by simp)
         have zf7 := hz.frozen 7
         simp only [List.getElem_cons_zero, List.getElem_cons_succ] at z0 z1 z2 z3 z4 z5 z6 z7
         clear hz
         obtain ⟨t0, t1, t2, t3⟩ := K7.out.q.tc
         go_wp2_with fail
         exact back_beg rfl rfl rfl K7.out (hLeaf 4 (hd u).tx [] 0 [93]) (.elem (hd u).tx) (fun W P => leaf_is 4 (hd u).tx [] 0 [93] (.elem (hd u).tx) rfl rfl rfl W P) r HE.out
     · rw [show stp 4 [40] u = u.tail by unfold stp; rw [hy3]; rfl] at K3
       have HE := Lib.hid (show r = some (.par, u.tail) by rw [HR.out, begP, if_neg HU.out, if_pos (show isS [40] u = true from hy3)])
       have hz := K3.out.z
       unfold zH at hz
       have z0 := hz.cell (j := 0) (by simp)
       have zf0 := hz.frozen 0
       have z1 := hz.cell (j := 1) (by simp)
       have zf1 := hz.frozen 1
       have z2 := hz.cell (j := 2) (by simp)
       have zf2 := hz.frozen 2
       have z3 := hz.cell (j := 3) (by simp)
       have zf3 := hz.frozen 3
       have z4 := hz.cell (j := 4) (by simp)
       have zf4 := hz.frozen 4
       have z5 := hz.cell (j := 5) (by simp)
       have zf5 := hz.frozen 5
       have z6 := hz.cell (j := 6) (by simp)
       have zf6 := hz.frozen 6
       have z7 := hz.cell (j := 7) (by simp)
       have zf7 := hz.frozen 7
       simp only [List.getElem_cons_zero, List.getElem_cons_succ] at z0 z1 z2 z3 z4 z5 z6 z7
       clear hz K2 hy3
       go_wp2_with fail
       exact back_beg rfl rfl rfl K3.out (hLeaf 0 [] [] 0 [41]) .par (fun W P => leaf_is 0 [] [] 0 [41] .par rfl rfl rfl W P) r HE.out
   · rw [show stp 4 [33] u = u.tail by unfold stp; rw [hy2]; rfl] at K2
     have HE := Lib.hid (show r = some (.un (hd u).tx, u.tail) by rw [HR.out, begP, if_pos (show isU u = true by unfold isU isS; rw [hy2, Bool.or_true])])
     have hz := K2.out.z
     unfold zH at hz
     have z0 := hz.cell (j := 0) (by simp)
     have zf0 := hz.frozen 0
     have z1 := hz.cell (j := 1) (by simp)
     have zf1 := hz.frozen 1
     have z2 := hz.cell (j := 2) (by simp)
     have zf2 := hz.frozen 2
     have z3 := hz.cell (j := 3) (by simp)
     have zf3 := hz.frozen 3
     have z4 := hz.cell (j := 4) (by simp)
     have zf4 := hz.frozen 4
     have z5 := hz.cell (j := 5) (by simp)
     have zf5 := hz.frozen 5
     have z6 := hz.cell (j := 6) (by simp)
     have zf6 := hz.frozen 6
     have z7 := hz.cell (j := 7) (by simp)
     have zf7 := hz.frozen 7
     simp only [List.getElem_cons_zero, List.getElem_cons_succ] at z0 z1 z2 z3 z4 z5 z6 z7
     clear hz K1 H0 hy hy2
     obtain ⟨t0, t1, t2, t3⟩ := K2.out.q.tc
     go_wp2_with fail
     exact back_beg rfl rfl rfl K2.out (hLeaf 6 [] (hd u).tx 6 []) (.un (hd u).tx) (fun W P => leaf_is 6 [] (hd u).tx 6 [] (.un (hd u).tx) rfl rfl rfl W P) r HE.out
 · rw [show stp 4 [45] u = u.tail by unfold stp; rw [hy]; rfl] at K1
   have HE := Lib.hid (show r = some (.un (hd u).tx, u.tail) by rw [HR.out, begP, if_pos (show isU u = true by unfold isU isS; rw [hy, Bool.true_or])])
   have hz := K1.out.z
   unfold zH at hz
   have z0 := hz.cell (j := 0) (by simp)
   have zf0 := hz.frozen 0
   have z1 := hz.cell (j := 1) (by simp)
   have zf1 := hz.frozen 1
   have z2 := hz.cell (j := 2) (by simp)
   have zf2 := hz.frozen 2
   have z3 := hz.cell (j := 3) (by simp)
   have zf3 := hz.frozen 3
   have z4 := hz.cell (j := 4) (by simp)
   have zf4 := hz.frozen 4
   have z5 := hz.cell (j := 5) (by simp)
   have zf5 := hz.frozen 5
   have z6 := hz.cell (j := 6) (by simp)
   have zf6 := hz.frozen 6
   have z7 := hz.cell (j := 7) (by simp)
   have zf7 := hz.frozen 7
   simp only [List.getElem_cons_zero, List.getElem_cons_succ] at z0 z1 z2 z3 z4 z5 z6 z7
   clear hz H0 hy
   obtain ⟨t0, t1, t2, t3⟩ := K1.out.q.tc
   go_wp2_with fail
   exact back_beg rfl rfl rfl K1.out (hLeaf 6 [] (hd u).tx 6 []) (.un (hd u).tx) (fun W P => leaf_is 6 [] (hd u).tx 6 [] (.un (hd u).tx) rfl rfl rfl W P) r HE.out
end
end Go.Proofs.Ytjllbacefbjjaaa
