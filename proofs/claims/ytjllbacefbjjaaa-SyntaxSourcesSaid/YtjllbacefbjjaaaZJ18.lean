/-
  Merged for a claim: S3D, S3E.
-/
import Derived.Test.YtjllbacefbjjaaaZJ17
namespace Go.Proofs.Ytjllbacefbjjaaa
open Go.ChangeShapes Go.WideShapes Go.ChangeAt Go.Deep
open Go Go.RowKit

theorem exp_cells {W : World} {b : Nat} {kd nu : Int} {nm f op : List UInt8} {B : Option Addr} {d : Nat} {ks : List XT} (h : CAt W b 53 (XT.mk kd nu nm f op B d ks).cs) : W.cell? ⟨b, 0, none⟩ = some (.int .u8 kd) ∧ W.cell? ⟨b, 1, none⟩ = some (.int .i64 nu) ∧ W.cell? ⟨b, 2, none⟩ = some (.string (str nm)) ∧ W.cell? ⟨b, 3, none⟩ = some (.string (str f)) ∧ W.cell? ⟨b, 4, none⟩ = some (.string (str op)) ∧ W.cell? ⟨b, 5, none⟩ = some (.slice B ks.length d) :=
 ⟨h.cell (j := 0) (by simp [XT.cs]), h.cell (j := 1) (by simp [XT.cs]), h.cell (j := 2) (by simp [XT.cs]), h.cell (j := 3) (by simp [XT.cs]), h.cell (j := 4) (by simp [XT.cs]), h.cell (j := 5) (by simp [XT.cs])⟩
section
variable {w W : World} {gp : Nat} {A : Option Addr} {c : Nat} {l u u' : List To} {fl f' : Bool} {b z bx : Nat} {s s' : XS} {x : XT}
theorem Sx.set (h : Sx w gp A c l b z bx s x W u fl) (j : Nat) (v : Value) (hs : Sw w gp A c l b z s' (W.setCell ⟨b, j, none⟩ v) u fl) : Sx w gp A c l b z bx s' x (W.setCell ⟨b, j, none⟩ v) u fl := by
 have hb : ButT 51 W (W.setCell ⟨b, j, none⟩ v) := ButT.set (p := ⟨b, j, none⟩) ⟨_, _, h.s.s⟩ _
 have key : ∀ g, g ≠ b → (W.setCell ⟨b, j, none⟩ v).heap[g]? = W.heap[g]? := fun g hg => Below.heap_setCell _ _ _ g hg
 exact ⟨hs, (hb bx _ ⟨_, _, h.x⟩ (by decide)).trans h.x, XT.Ok.keep (fun g q _ => key g q.2.1) (fun _ q => q) x h.o, h.n⟩
set_option maxRecDepth 100000 in
set_option maxHeartbeats 1000000 in
theorem rnamed_any (h : Rp w gp A c l u fl) (ln : Int) :
 Calls Try.prog 75 #[.pointer (some ⟨gp, 0, none⟩), sV (.mk 0 ln [] [] [] ty0 none 0 [] none 0 [] none 0 [])] w (RS w gp A c l u fl ((nmdP ln u).bind semi)) := by
 have H0 := Lib.hid (Sw.new1 h ln [])
 obtain ⟨r, hr⟩ : ∃ r, (nmdP ln u).bind semi = r := ⟨_, rfl⟩
 rw [hr]
 have HR := Lib.hid hr.symm
 clear h hr
 unfold sV XS.cs
 go_enter Try.func75, Try.ntmps75
 go_wp2_with fail
 refine H0.out.name.mono ?_
 rintro e X1 ⟨t, u1, g1, rfl, HA1, K1⟩
 have K1 := Lib.hid K1
 clear H0
 have HR := Lib.hid (show r = (takeR 1 [] u).bind fun t v => (nmdA ln t v).bind semi by rw [HR.out, nmd_eq, R.bind_assoc])
 obtain ⟨⟨sc0, sc1, sc2, sc3, sc4, sc5, sc6, sc7, sc8, sc9, sc10⟩, sf0, sf1, sf2, sf3, sf4, sf5, sf6, sf7, sf8, sf9, sf10⟩ := K1.out.cells
 obtain ⟨⟨zc0, zc1, zc2, zc3, zc4, zc5, zc6, zc7, zc8, zc9, zc10⟩, zf0, zf1, zf2, zf3, zf4, zf5, zf6, zf7, zf8, zf9, zf10⟩ := K1.out.zeros
 obtain ⟨k2, _, _, _, l1, l2, l3, l4, l5, l6, l7, _⟩ := K1.out.at_
 go_wp2_with fail
 clear sc0 sc1 sc2 sc3 sc4 sc5 sc6 sc7 sc8 sc9 sc10 sf0 sf1 sf2 sf3 sf4 sf5 sf6 sf7 sf8 sf9 sf10 zc0 zc1 zc2 zc3 zc4 zc5 zc6 zc7 zc8 zc9 zc10 zf0 zf1 zf2 zf3 zf4 zf5 zf6 zf7 zf8 zf9 zf10 l1 l2 l3 l4 l5 l6 l7
 refine ((K1.out.nm_ t.tx).is 4 [40]).mono ?_
 rintro e X2 ⟨rfl, K2⟩
 have K2 := Lib.hid K2
 clear K1
 rw [isX_T (by decide)]
 cases b1 : (!g1 && isT 4 [40] u1) with
 | true =>
  obtain ⟨hf, ht⟩ := and_not b1
  subst hf
  have HT := Lib.hid ht
  clear ht
  obtain ⟨⟨sc0, sc1, sc2, sc3, sc4, sc5, sc6, sc7, sc8, sc9, sc10⟩, sf0, sf1, sf2, sf3, sf4, sf5, sf6, sf7, sf8, sf9, sf10⟩ := K2.out.cells
  obtain ⟨⟨zc0, zc1, zc2, zc3, zc4, zc5, zc6, zc7, zc8, zc9, zc10⟩, zf0, zf1, zf2, zf3, zf4, zf5, zf6, zf7, zf8, zf9, zf10⟩ := K2.out.zeros
  obtain ⟨k2, _, _, _, l1, l2, l3, l4, l5, l6, l7, _⟩ := K2.out.at_
  go_wp2_with fail
  clear sc0 sc1 sc2 sc3 sc4 sc5 sc6 sc7 sc8 sc9 sc10 sf0 sf1 sf2 sf3 sf4 sf5 sf6 sf7 sf8 sf9 sf10 zc0 zc1 zc2 zc3 zc4 zc5 zc6 zc7 zc8 zc9 zc10 zf0 zf1 zf2 zf3 zf4 zf5 zf6 zf7 zf8 zf9 zf10 l1 l2 l3 l4 l5 l6 l7
  refine (((K2.out.kd_ 5).cl_ t.tx).nm_ []).args.mono ?_
  rintro e Y1 ⟨kA, kc, xs, v1, g1, rfl, HA2, HX, M1⟩
  have M1 := Lib.hid M1
  clear K2
  obtain ⟨⟨sc0, sc1, sc2, sc3, sc4, sc5, sc6, sc7, sc8, sc9, sc10⟩, sf0, sf1, sf2, sf3, sf4, sf5, sf6, sf7, sf8, sf9, sf10⟩ := M1.out.cells
  obtain ⟨⟨zc0, zc1, zc2, zc3, zc4, zc5, zc6, zc7, zc8, zc9, zc10⟩, zf0, zf1, zf2, zf3, zf4, zf5, zf6, zf7, zf8, zf9, zf10⟩ := M1.out.zeros
  obtain ⟨k2, _, _, _, l1, l2, l3, l4, l5, l6, l7, _⟩ := M1.out.at_
  go_wp2_with fail
  clear sc0 sc1 sc2 sc3 sc4 sc5 sc6 sc7 sc8 sc9 sc10 sf0 sf1 sf2 sf3 sf4 sf5 sf6 sf7 sf8 sf9 sf10 zc0 zc1 zc2 zc3 zc4 zc5 zc6 zc7 zc8 zc9 zc10 zf0 zf1 zf2 zf3 zf4 zf5 zf6 zf7 zf8 zf9 zf10 l1 l2 l3 l4 l5 l6 l7
  refine ((M1.out.ks_ HX.out).sign [59] (by decide)).mono ?_
  rintro e Y2 ⟨rfl, v2, g2, HA3, M2⟩
  have M2 := Lib.hid M2
  obtain ⟨⟨sc0, sc1, sc2, sc3, sc4, sc5, sc6, sc7, sc8, sc9, sc10⟩, sf0, sf1, sf2, sf3, sf4, sf5, sf6, sf7, sf8, sf9, sf10⟩ := M2.out.cells
  obtain ⟨⟨zc0, zc1, zc2, zc3, zc4, zc5, zc6, zc7, zc8, zc9, zc10⟩, zf0, zf1, zf2, zf3, zf4, zf5, zf6, zf7, zf8, zf9, zf10⟩ := M2.out.zeros
  obtain ⟨k2, _, _, _, l1, l2, l3, l4, l5, l6, l7, _⟩ := M2.out.at_
  go_wp2_with fail
  refine sw_end rfl rfl M2.out rfl ?_
  rw [HR.out]
  refine Ans.then HA1.out ?_
  rw [nmdA, if_pos (show isS [40] u1 = true from HT.out)]
  exact Ans.semi (g := fun x => stm 5 ln [] [] t.tx ty0 x) HA2.out HA3.out
 | false =>
 go_wp2_with fail
 refine (K2.out.is 4 [91]).mono ?_
 rintro e X3 ⟨rfl, K3⟩
 have K3 := Lib.hid K3
 clear K2
 rw [isX_T (by decide)]
 cases b2 : (!g1 && isT 4 [91] u1) with
 | true =>
  obtain ⟨k, hk, p1, f1, l1, l2, l3, l4, l5, l6, l7, HI⟩ := K3.out.at_
  obtain ⟨hf, ht⟩ := and_not b2
  subst hf
  have HT := Lib.hid ht
  have K4 := Lib.hid (HI.out (isT_ne ht))
  clear ht HI K3
  go_wp2_with fail
  clear p1 f1 l1 l2 l3 l4 l5 l6 l7
  refine K4.out.exp.mono ?_
  rintro e Y1 ⟨x, v1, g1, rfl, HA2, HX, M1⟩
  have M1 := Lib.hid M1
  clear K4
  obtain ⟨kd, nu, nm2, f2, op, B, d, ks⟩ := x
  unfold xV XT.cs
  have M2 := Lib.hid (Sx.new M1.out (.mk kd nu nm2 f2 op B d ks) HX.out #[.int .u8 kd, .int .i64 nu, .string (str nm2), .string (str f2), .string (str op), .slice B ks.length d] rfl)
  have lx := M1.out.g.size
  go_wp2_with fail
  refine (M2.out.sign [93] (by decide)).mono ?_
  rintro e Y2 ⟨rfl, v2, g2, HA3, M3⟩
  have M3 := Lib.hid M3
  clear M2
  go_wp2_with fail
  refine (M3.out.sign [61] (by decide)).mono ?_
  rintro e Y3 ⟨rfl, v3, g3, HA4, M4⟩
  have M4 := Lib.hid M4
  have M4s := Lib.hid M4.out.s
  clear M3
  obtain ⟨⟨sc0, sc1, sc2, sc3, sc4, sc5, sc6, sc7, sc8, sc9, sc10⟩, sf0, sf1, sf2, sf3, sf4, sf5, sf6, sf7, sf8, sf9, sf10⟩ := M4s.out.cells
  obtain ⟨⟨zc0, zc1, zc2, zc3, zc4, zc5, zc6, zc7, zc8, zc9, zc10⟩, zf0, zf1, zf2, zf3, zf4, zf5, zf6, zf7, zf8, zf9, zf10⟩ := M4s.out.zeros
  obtain ⟨k2, _, _, _, l1, l2, l3, l4, l5, l6, l7, _⟩ := M4s.out.at_
  go_wp2_with fail
  clear sc0 sc1 sc2 sc3 sc4 sc5 sc6 sc7 sc8 sc9 sc10 sf0 sf1 sf2 sf3 sf4 sf5 sf6 sf7 sf8 sf9 sf10 zc0 zc1 zc2 zc3 zc4 zc5 zc6 zc7 zc8 zc9 zc10 zf0 zf1 zf2 zf3 zf4 zf5 zf6 zf7 zf8 zf9 zf10 l1 l2 l3 l4 l5 l6 l7
  have M5 := Lib.hid (M4.out.kd 3).drew
  clear M4 M4s
  refine wp_region_held_drew (S := fun W9 => W9.cell? ⟨Y1.heap.size, 0, none⟩ = some (.int .u8 kd) ∧ W9.cell? ⟨Y1.heap.size, 1, none⟩ = some (.int .i64 nu) ∧ W9.cell? ⟨Y1.heap.size, 2, none⟩ = some (.string (str nm2)) ∧ W9.cell? ⟨Y1.heap.size, 3, none⟩ = some (.string (str f2)) ∧ W9.cell? ⟨Y1.heap.size, 4, none⟩ = some (.string (str op)) ∧ W9.cell? ⟨Y1.heap.size, 5, none⟩ = some (.slice B ks.length d)) (by kernel_rfl) (exp_cells M5.out.x) (fun hHeld => ?_)
  generalize (Y3.setCell ⟨w.heap.size, 0, none⟩ (.int .u8 3)).drew = Wd at *
  refine heldTake (i := 0) (d := some 42) (v := ?_) rfl rfl (by kernel_rfl) (by kernel_rfl) (by kernel_rfl) (fun _ _ _ h => h) (by kernel_rfl) ?hyq_1 (by assumption) ?restq_1
  case hyq_1 => (intro W9 hSw; (try dsimp only at hSw); go_simp; try (with_reducible rfl))
  (try simp only [Act.put, nA, nB, nC])
  refine heldTake (i := 1) (d := some 43) (v := ?_) rfl rfl (by kernel_rfl) (by kernel_rfl) (by kernel_rfl) (fun _ _ _ h => h) (by kernel_rfl) ?hyq_2 (by assumption) ?restq_2
  case hyq_2 => (intro W9 hSw; (try dsimp only at hSw); go_simp; try (with_reducible rfl))
  (try simp only [Act.put, nA, nB, nC])
  refine wpAnyH_ready (rs := [2]) (by kernel_rfl) (by simp) ?_
  refine AllReadyH.cons rfl (fun K hK => ?_) AllReadyH.nil
  go_simp
  go_at_call 74
  refine M5.out.exp.mono ?_
  rintro e Y5 ⟨y, v5, g5, rfl, HA5, HY, M6⟩
  have M6 := Lib.hid M6
  clear M5
  obtain ⟨kd', nu', nm', f'', op', B', d', ks'⟩ := y
  unfold xV XT.cs
  go_wp2_with fail
  refine hK.out _ _ (exp_cells M6.out.x) (fun hHeld => ?_)
  clear hK K
  (try simp only [Act.put, nA, nB, nC])
  refine wpAnyH_ready (rs := [3]) (by kernel_rfl) (by simp) ?_
  refine AllReadyH.cons rfl (fun K hK => ?_) AllReadyH.nil
  (try rw [if_pos (by kernel_rfl)])
  refine El.op_build2 eX Y5 49 (.agg #[.int .u8 0, .int .i64 0, .string ⟨#[]⟩, .string ⟨#[]⟩, .string ⟨#[]⟩, .slice none 0 0]) 88 Try.underlying49 exp_info rfl (by decide) (.tmp 42) (.tmp 44) rfl (.agg #[.int .u8 kd, .int .i64 nu, .string (str nm2), .string (str f2), .string (str op), .slice B ks.length d]) (.agg #[.int .u8 kd', .int .i64 nu', .string (str nm'), .string (str f''), .string (str op'), .slice B' ks'.length d']) (.mk kd nu nm2 f2 op B d ks) (.mk kd' nu' nm' f'' op' B' d' ks') rfl rfl rfl rfl ?_
  change K (Act.put _ (some 45) (.slice (some ⟨Y5.heap.size, 0, none⟩) 2 2)) (Y5.alloc (.cells ([XT.mk kd nu nm2 f2 op B d ks, XT.mk kd' nu' nm' f'' op' B' d' ks'].flatMap XT.cs).toArray 53))
  have hbY := below_lnew Y5 (.cells ([XT.mk kd nu nm2 f2 op B d ks, XT.mk kd' nu' nm' f'' op' B' d' ks'].flatMap XT.cs).toArray 53)
  have HR2 := Lib.hid (two_ok M6.out.s [.mk kd nu nm2 f2 op B d ks, .mk kd' nu' nm' f'' op' B' d' ks'] ⟨M6.out.o, HY.out, trivial⟩)
  obtain ⟨Y6, hY⟩ : ∃ Y, Y5.alloc (.cells ([XT.mk kd nu nm2 f2 op B d ks, XT.mk kd' nu' nm' f'' op' B' d' ks'].flatMap XT.cs).toArray 53) = Y := ⟨_, rfl⟩
  rw [hY] at hbY HR2 ⊢
  have M7 := Lib.hid (M6.out.below hbY)
  clear hY hbY M6
  refine hK.out _ _ (exp_cells M7.out.x) (fun hHeld => ?_)
  clear hK K
  (try simp only [Act.put, nA, nB, nC])
  refine heldTake (i := 4) (d := some 46) (v := ?_) rfl rfl (by kernel_rfl) (by kernel_rfl) (by kernel_rfl) (fun _ _ _ h => h) (by kernel_rfl) ?hyq_3 (by assumption) ?restq_3
  case hyq_3 => (intro W9 hSw; (try dsimp only at hSw); go_simp; try (with_reducible rfl))
  (try simp only [Act.put, nA, nB, nC])
  refine wpAnyH_ready (rs := [5]) (by kernel_rfl) (by simp) ?_
  refine AllReadyH.cons rfl (fun K hK => ?_) AllReadyH.nil
  have M7s := Lib.hid M7.out.s
  obtain ⟨⟨sc0, sc1, sc2, sc3, sc4, sc5, sc6, sc7, sc8, sc9, sc10⟩, sf0, sf1, sf2, sf3, sf4, sf5, sf6, sf7, sf8, sf9, sf10⟩ := M7s.out.cells
  obtain ⟨⟨zc0, zc1, zc2, zc3, zc4, zc5, zc6, zc7, zc8, zc9, zc10⟩, zf0, zf1, zf2, zf3, zf4, zf5, zf6, zf7, zf8, zf9, zf10⟩ := M7s.out.zeros
  obtain ⟨k2, _, _, _, l1, l2, l3, l4, l5, l6, l7, _⟩ := M7s.out.at_
  go_simp
  have M8 := Lib.hid (M7.out.set 8 (.slice (some ⟨Y5.heap.size, 0, none⟩) 2 2) (M7.out.s.ks_ (kA2 := some ⟨Y5.heap.size, 0, none⟩) (kc2 := 2) HR2.out))
  obtain ⟨Y7, hY⟩ : ∃ Y, Y6.setCell ⟨w.heap.size, 8, none⟩ (.slice (some ⟨Y5.heap.size, 0, none⟩) 2 2) = Y := ⟨_, rfl⟩
  rw [hY] at M8 ⊢
  clear hY M7 M7s HR2
  clear sc0 sc1 sc2 sc3 sc4 sc5 sc6 sc7 sc8 sc9 sc10 sf0 sf1 sf2 sf3 sf4 sf5 sf6 sf7 sf8 sf9 sf10 zc0 zc1 zc2 zc3 zc4 zc5 zc6 zc7 zc8 zc9 zc10 zf0 zf1 zf2 zf3 zf4 zf5 zf6 zf7 zf8 zf9 zf10 l1 l2 l3 l4 l5 l6 l7
  refine hK.out _ _ (exp_cells M8.out.x) (fun hHeld => ?_)
  clear hK K
  (try simp only [Act.put, nA, nB, nC])
  refine wpAnyH_done (by kernel_rfl) ?_ _
  go_wp2_with fail
  refine (M8.out.s.sign [59] (by decide)).mono ?_
  rintro e Y9 ⟨rfl, v9, g9, HA6, M9⟩
  have M9 := Lib.hid M9
  obtain ⟨⟨sc0, sc1, sc2, sc3, sc4, sc5, sc6, sc7, sc8, sc9, sc10⟩, sf0, sf1, sf2, sf3, sf4, sf5, sf6, sf7, sf8, sf9, sf10⟩ := M9.out.cells
  obtain ⟨⟨zc0, zc1, zc2, zc3, zc4, zc5, zc6, zc7, zc8, zc9, zc10⟩, zf0, zf1, zf2, zf3, zf4, zf5, zf6, zf7, zf8, zf9, zf10⟩ := M9.out.zeros
  obtain ⟨k2, _, _, _, l1, l2, l3, l4, l5, l6, l7, _⟩ := M9.out.at_
  go_wp2_with fail
  refine sw_end rfl rfl M9.out rfl ?_
  rw [HR.out]
  refine Ans.then HA1.out ?_
  rw [nmdA, if_neg (show ¬ isS [40] u1 = true from and_nt b1 rfl), if_pos (show isS [91] u1 = true from HT.out)]
  simp only [R.bind_assoc, R.bind_ok]
  refine Ans.then HA2.out.re ?_
  refine Ans.then HA3.out ?_
  refine Ans.then HA4.out ?_
  refine Ans.then HA5.out ?_
  rw [semi_eq]
  exact Ans.end_ HA6.out fun _ => stm 3 ln t.tx [] [] ty0 [XT.d (.mk kd nu nm2 f2 op B d ks), XT.d (.mk kd' nu' nm' f'' op' B' d' ks')]
 | false =>
 go_wp2_with fail
 refine (K3.out.is 4 [46]).mono ?_
 rintro e X4 ⟨rfl, K4⟩
 have K4 := Lib.hid K4
 clear K3
 rw [isX_T (by decide)]
 cases b3 : (!g1 && isT 4 [46] u1) with
 | true =>
  obtain ⟨k, hk, p1, f1, l1, l2, l3, l4, l5, l6, l7, HI⟩ := K4.out.at_
  obtain ⟨hf, ht⟩ := and_not b3
  subst hf
  have HT := Lib.hid ht
  have K5 := Lib.hid (HI.out (isT_ne ht))
  clear ht HI K4
  go_wp2_with fail
  clear p1 f1 l1 l2 l3 l4 l5 l6 l7
  refine K5.out.name.mono ?_
  rintro e Y1 ⟨t2, v1, g1, rfl, HA2, M1⟩
  have M1 := Lib.hid M1
  clear K5
  obtain ⟨⟨sc0, sc1, sc2, sc3, sc4, sc5, sc6, sc7, sc8, sc9, sc10⟩, sf0, sf1, sf2, sf3, sf4, sf5, sf6, sf7, sf8, sf9, sf10⟩ := M1.out.cells
  obtain ⟨⟨zc0, zc1, zc2, zc3, zc4, zc5, zc6, zc7, zc8, zc9, zc10⟩, zf0, zf1, zf2, zf3, zf4, zf5, zf6, zf7, zf8, zf9, zf10⟩ := M1.out.zeros
  obtain ⟨k2, _, _, _, l1, l2, l3, l4, l5, l6, l7, _⟩ := M1.out.at_
  go_wp2_with fail
  clear sc0 sc1 sc2 sc3 sc4 sc5 sc6 sc7 sc8 sc9 sc10 sf0 sf1 sf2 sf3 sf4 sf5 sf6 sf7 sf8 sf9 sf10 zc0 zc1 zc2 zc3 zc4 zc5 zc6 zc7 zc8 zc9 zc10 zf0 zf1 zf2 zf3 zf4 zf5 zf6 zf7 zf8 zf9 zf10 l1 l2 l3 l4 l5 l6 l7
  refine ((M1.out.fl_ t2.tx).sign [61] (by decide)).mono ?_
  rintro e Y2 ⟨rfl, v2, g2, HA3, M2⟩
  have M2 := Lib.hid M2
  clear M1
  obtain ⟨⟨sc0, sc1, sc2, sc3, sc4, sc5, sc6, sc7, sc8, sc9, sc10⟩, sf0, sf1, sf2, sf3, sf4, sf5, sf6, sf7, sf8, sf9, sf10⟩ := M2.out.cells
  obtain ⟨⟨zc0, zc1, zc2, zc3, zc4, zc5, zc6, zc7, zc8, zc9, zc10⟩, zf0, zf1, zf2, zf3, zf4, zf5, zf6, zf7, zf8, zf9, zf10⟩ := M2.out.zeros
  obtain ⟨k2, _, _, _, l1, l2, l3, l4, l5, l6, l7, _⟩ := M2.out.at_
  go_wp2_with fail
  clear sc0 sc1 sc2 sc3 sc4 sc5 sc6 sc7 sc8 sc9 sc10 sf0 sf1 sf2 sf3 sf4 sf5 sf6 sf7 sf8 sf9 sf10 zc0 zc1 zc2 zc3 zc4 zc5 zc6 zc7 zc8 zc9 zc10 zf0 zf1 zf2 zf3 zf4 zf5 zf6 zf7 zf8 zf9 zf10 l1 l2 l3 l4 l5 l6 l7
  refine (M2.out.kd_ 4).exp.mono ?_
  rintro e Y3 ⟨x, v3, g3, rfl, HA4, HX, M3⟩
  have M3 := Lib.hid M3
  clear M2
  obtain ⟨⟨sc0, sc1, sc2, sc3, sc4, sc5, sc6, sc7, sc8, sc9, sc10⟩, sf0, sf1, sf2, sf3, sf4, sf5, sf6, sf7, sf8, sf9, sf10⟩ := M3.out.cells
  obtain ⟨⟨zc0, zc1, zc2, zc3, zc4, zc5, zc6, zc7, zc8, zc9, zc10⟩, zf0, zf1, zf2, zf3, zf4, zf5, zf6, zf7, zf8, zf9, zf10⟩ := M3.out.zeros
  obtain ⟨k2, _, _, _, l1, l2, l3, l4, l5, l6, l7, _⟩ := M3.out.at_
  obtain ⟨kd, nu, nm2, f2, op, B, d, ks⟩ := x
  unfold xV XT.cs
  go_wp2_with fail
  clear sc0 sc1 sc2 sc3 sc4 sc5 sc6 sc7 sc8 sc9 sc10 sf0 sf1 sf2 sf3 sf4 sf5 sf6 sf7 sf8 sf9 sf10 zc0 zc1 zc2 zc3 zc4 zc5 zc6 zc7 zc8 zc9 zc10 zf0 zf1 zf2 zf3 zf4 zf5 zf6 zf7 zf8 zf9 zf10 l1 l2 l3 l4 l5 l6 l7
  refine ((M3.out.kids [.mk kd nu nm2 f2 op B d ks] ⟨HX.out, trivial⟩ 1 rfl #[.int .u8 kd, .int .i64 nu, .string (str nm2), .string (str f2), .string (str op), .slice B ks.length d] rfl).sign [59] (by decide)).mono ?_
  rintro e Y5 ⟨rfl, v5, g5, HA5, M5⟩
  have M5 := Lib.hid M5
  obtain ⟨⟨sc0, sc1, sc2, sc3, sc4, sc5, sc6, sc7, sc8, sc9, sc10⟩, sf0, sf1, sf2, sf3, sf4, sf5, sf6, sf7, sf8, sf9, sf10⟩ := M5.out.cells
  obtain ⟨⟨zc0, zc1, zc2, zc3, zc4, zc5, zc6, zc7, zc8, zc9, zc10⟩, zf0, zf1, zf2, zf3, zf4, zf5, zf6, zf7, zf8, zf9, zf10⟩ := M5.out.zeros
  obtain ⟨k2, _, _, _, l1, l2, l3, l4, l5, l6, l7, _⟩ := M5.out.at_
  go_wp2_with fail
  refine sw_end rfl rfl M5.out rfl ?_
  rw [HR.out]
  refine Ans.then HA1.out ?_
  rw [nmdA, if_neg (show ¬ isS [40] u1 = true from and_nt b1 rfl), if_neg (show ¬ isS [91] u1 = true from and_nt b2 rfl), if_pos (show isS [46] u1 = true from HT.out)]
  simp only [R.bind_assoc, R.bind_ok]
  refine Ans.then HA2.out.re ?_
  refine Ans.then HA3.out ?_
  refine Ans.then HA4.out ?_
  rw [semi_eq]
  exact Ans.end_ HA5.out fun _ => stm 4 ln t.tx t2.tx [] ty0 [XT.d (.mk kd nu nm2 f2 op B d ks)]
 | false =>
 go_wp2_with fail
 refine (K4.out.sign [61] (by decide)).mono ?_
 rintro e Y1 ⟨rfl, v1, g1, HA2, M1⟩
 have M1 := Lib.hid M1
 clear K4
 obtain ⟨⟨sc0, sc1, sc2, sc3, sc4, sc5, sc6, sc7, sc8, sc9, sc10⟩, sf0, sf1, sf2, sf3, sf4, sf5, sf6, sf7, sf8, sf9, sf10⟩ := M1.out.cells
 obtain ⟨⟨zc0, zc1, zc2, zc3, zc4, zc5, zc6, zc7, zc8, zc9, zc10⟩, zf0, zf1, zf2, zf3, zf4, zf5, zf6, zf7, zf8, zf9, zf10⟩ := M1.out.zeros
 obtain ⟨k2, _, _, _, l1, l2, l3, l4, l5, l6, l7, _⟩ := M1.out.at_
 go_wp2_with fail
 clear sc0 sc1 sc2 sc3 sc4 sc5 sc6 sc7 sc8 sc9 sc10 sf0 sf1 sf2 sf3 sf4 sf5 sf6 sf7 sf8 sf9 sf10 zc0 zc1 zc2 zc3 zc4 zc5 zc6 zc7 zc8 zc9 zc10 zf0 zf1 zf2 zf3 zf4 zf5 zf6 zf7 zf8 zf9 zf10 l1 l2 l3 l4 l5 l6 l7
 refine (rset_any M1.out.p ln t.tx).mono ?_
 rintro e Y2 ⟨t', v2, g2, rfl, ha, ho, hp, hg⟩
 have HA3 := Lib.hid ha
 have M2 := Lib.hid (M1.out.step hp hg)
 have HO := Lib.hid (XS.Ok.up ho (Q := fun g => w.heap.size ≤ g ∧ g ≠ w.heap.size ∧ g ≠ w.heap.size + 1) fun _ q => M1.out.new_ok q)
 clear ha ho hp hg M1
 obtain ⟨kd', ln', nm', f2, cl', ty', kA', kc', ks', bA', bc', bd', eA', ec', el'⟩ := t'
 unfold sV XS.cs
 obtain ⟨⟨sc0, sc1, sc2, sc3, sc4, sc5, sc6, sc7, sc8, sc9, sc10⟩, sf0, sf1, sf2, sf3, sf4, sf5, sf6, sf7, sf8, sf9, sf10⟩ := M2.out.cells
 obtain ⟨⟨zc0, zc1, zc2, zc3, zc4, zc5, zc6, zc7, zc8, zc9, zc10⟩, zf0, zf1, zf2, zf3, zf4, zf5, zf6, zf7, zf8, zf9, zf10⟩ := M2.out.zeros
 obtain ⟨k2, _, _, _, l1, l2, l3, l4, l5, l6, l7, _⟩ := M2.out.at_
 go_wp2_with fail
 clear sc0 sc1 sc2 sc3 sc4 sc5 sc6 sc7 sc8 sc9 sc10 sf0 sf1 sf2 sf3 sf4 sf5 sf6 sf7 sf8 sf9 sf10 zc0 zc1 zc2 zc3 zc4 zc5 zc6 zc7 zc8 zc9 zc10 zf0 zf1 zf2 zf3 zf4 zf5 zf6 zf7 zf8 zf9 zf10 l1 l2 l3 l4 l5 l6 l7
 have M3 := Lib.hid (M2.out.putAll _ HO.out)
 clear M2
 refine (M3.out.sign [59] (by decide)).mono ?_
 rintro e Y4 ⟨rfl, v4, g4, HA4, M4⟩
 have M4 := Lib.hid M4
 obtain ⟨⟨sc0, sc1, sc2, sc3, sc4, sc5, sc6, sc7, sc8, sc9, sc10⟩, sf0, sf1, sf2, sf3, sf4, sf5, sf6, sf7, sf8, sf9, sf10⟩ := M4.out.cells
 obtain ⟨⟨zc0, zc1, zc2, zc3, zc4, zc5, zc6, zc7, zc8, zc9, zc10⟩, zf0, zf1, zf2, zf3, zf4, zf5, zf6, zf7, zf8, zf9, zf10⟩ := M4.out.zeros
 obtain ⟨k2, _, _, _, l1, l2, l3, l4, l5, l6, l7, _⟩ := M4.out.at_
 go_wp2_with fail
 refine sw_end rfl rfl M4.out rfl ?_
 rw [HR.out]
 refine Ans.then HA1.out ?_
 refine Ans.cond (r1 := ((sgR 4 [61] u1).bind fun _ w => setP ln t.tx w).bind semi) ?_ fun hf => by subst hf; show (nmdA ln t u1).bind semi = _; rw [nmdA, if_neg (show ¬ isS [40] u1 = true from and_nt b1 rfl), if_neg (show ¬ isS [91] u1 = true from and_nt b2 rfl), if_neg (show ¬ isS [46] u1 = true from and_nt b3 rfl)]
 simp only [R.bind_assoc]
 refine Ans.then HA2.out ?_
 refine Ans.then HA3.out ?_
 rw [semi_eq]
 exact Ans.end_ HA4.out fun _ => _
end
end Go.Proofs.Ytjllbacefbjjaaa

namespace Go.Proofs.Ytjllbacefbjjaaa
open Go Go.RowKit

theorem isT_text {kd : Int} {a b : List UInt8} {u : List To} (h : isT kd a u = true) (h2 : isT kd b u = true) : a = b := by
 cases u with
 | nil => cases h
 | cons t v =>
  unfold isT at h h2
  simp at h h2
  rw [← h.2, ← h2.2]
theorem isW_no {a b : List UInt8} {u : List To} (h : isW a u = true) (hab : a ≠ b) : ¬ isW b u = true := fun q => hab (isT_text h q)
theorem varP_kd {ln : Int} {u v : List To} {x : St} (h : varP ln u = .ok x v) : x.kd = 1 := by
 unfold varP at h
 obtain ⟨_, h⟩ := takeK_len h
 obtain ⟨ty, w, _, h⟩ := bind_is h
 split at h
 · obtain ⟨y, w, _, h⟩ := bind_is h
   injection h with h _
   rw [← h]
   rfl
 · injection h with h _
   rw [← h]
   rfl
theorem setP_kd {ln : Int} {nm : List UInt8} {u v : List To} {x : St} (h : setP ln nm u = .ok x v) : x.kd ≠ 6 ∧ x.kd ≠ 7 := by
 unfold setP at h
 split at h
 · obtain ⟨_, h⟩ := takeS_len h
   obtain ⟨_, h⟩ := takeS_len h
   injection h with h _
   rw [← h]
   exact ⟨(by decide : (9 : Int) ≠ 6), (by decide : (9 : Int) ≠ 7)⟩
 · split at h
   · obtain ⟨y, w, _, h⟩ := bind_is h
     injection h with h _
     rw [← h]
     exact ⟨(by decide : (5 : Int) ≠ 6), (by decide : (5 : Int) ≠ 7)⟩
   · obtain ⟨y, w, _, h⟩ := bind_is h
     injection h with h _
     rw [← h]
     exact ⟨(by decide : (2 : Int) ≠ 6), (by decide : (2 : Int) ≠ 7)⟩
theorem nmdP_kd {ln : Int} {u v : List To} {x : St} (h : nmdP ln u = .ok x v) : x.kd ≠ 6 ∧ x.kd ≠ 7 := by
 unfold nmdP at h
 split at h
 · obtain ⟨y, w, _, h⟩ := bind_is h
   injection h with h _
   rw [← h]
   exact ⟨(by decide : (5 : Int) ≠ 6), (by decide : (5 : Int) ≠ 7)⟩
 · obtain ⟨_, h⟩ := takeK_len h
   split at h
   · obtain ⟨y, w, _, h⟩ := bind_is h
     obtain ⟨_, h⟩ := takeS_len h
     obtain ⟨_, h⟩ := takeS_len h
     obtain ⟨y, w, _, h⟩ := bind_is h
     injection h with h _
     rw [← h]
     exact ⟨(by decide : (3 : Int) ≠ 6), (by decide : (3 : Int) ≠ 7)⟩
   · split at h
     · obtain ⟨_, h⟩ := takeK_len h
       obtain ⟨_, h⟩ := takeS_len h
       obtain ⟨y, w, _, h⟩ := bind_is h
       injection h with h _
       rw [← h]
       exact ⟨(by decide : (4 : Int) ≠ 6), (by decide : (4 : Int) ≠ 7)⟩
     · obtain ⟨_, h⟩ := takeS_len h
       exact setP_kd h
theorem semi_kd {s x : St} {u v : List To} (h : semi s u = .ok x v) : x = s := by
 obtain ⟨_, h⟩ := takeS_len h
 injection h with h _
 exact h.symm
def tailP (n : Nat) (s : St) (v : List To) : R St :=
 if s.kd = 6 then (blkP n v).bind fun b w => if isW wElse w = true then (blkP n w.tail).bind fun e z => .ok ((s.setB b).setE e) z else .ok (s.setB b) w
 else if s.kd = 7 then (blkP n v).bind fun b w => .ok (s.setB b) w
 else .ok s v
theorem tail_plain {n : Nat} {r : R St} (h : ∀ x v, r = .ok x v → x.kd ≠ 6 ∧ x.kd ≠ 7) : r.bind (tailP n) = r := by
 cases r with
 | ok x v =>
  have := h x v rfl
  rw [R.bind_ok, tailP, if_neg this.1, if_neg this.2]
 | bad v => rfl
 | out => rfl
def staR (n : Nat) (u : List To) : R St :=
 if isW wVar u = true then (varP (hd u).ln u.tail).bind semi
 else if isW wIf u = true then (exP u.tail).bind fun x v => (blkP n v).bind fun b w => if isW wElse w = true then (blkP n w.tail).bind fun e z => .ok (.mk 6 (hd u).ln [] [] [] ty0 [x] b e) z else .ok (.mk 6 (hd u).ln [] [] [] ty0 [x] b []) w
 else if isW wFor u = true then (exP u.tail).bind fun x v => (blkP n v).bind fun b w => .ok (.mk 7 (hd u).ln [] [] [] ty0 [x] b []) w
 else if isW wPrint u = true then (sgR 4 [40] u.tail).bind fun _ v => (exP v).bind fun x w => (sgR 4 [41] w).bind fun _ z => semi (stm 8 (hd u).ln [] [] [] ty0 [x]) z
 else if isW wReturn u = true then (if isS [59] u.tail = true then semi (stm 10 (hd u).ln [] [] [] ty0 []) u.tail else (exP u.tail).bind fun x v => semi (stm 10 (hd u).ln [] [] [] ty0 [x]) v)
 else (nmdP (hd u).ln u).bind semi
theorem sta_eq (n : Nat) (u : List To) : staP (n + 1) u = staR n u := by
 have e : staP (n + 1) u = (hdP u).bind (tailP n) := by rw [staP]; rfl
 rw [e]
 unfold hdP staR
 by_cases h1 : isW wIf u = true
 · rw [if_pos h1, if_neg (isW_no h1 (by decide)), if_pos h1, R.bind_assoc]
   refine bind_cong fun x v _ => ?_
   rfl
 · rw [if_neg h1]
   by_cases h2 : isW wFor u = true
   · rw [if_pos h2, if_neg (isW_no h2 (by decide)), if_neg h1, if_pos h2, R.bind_assoc]
     refine bind_cong fun x v _ => ?_
     rfl
   · rw [if_neg h2]
     by_cases h3 : isW wVar u = true
     · rw [if_pos h3, if_pos h3]
       refine tail_plain fun x v h => ?_
       obtain ⟨y, w, e, h⟩ := bind_is h
       rw [semi_kd h, varP_kd e]
       decide
     · rw [if_neg h3, if_neg h3, if_neg h1, if_neg h2]
       by_cases h4 : isW wPrint u = true
       · rw [if_pos h4, if_pos h4, tail_plain fun x v h => ?_]
         · simp only [sgS_bind]
         · obtain ⟨_, h⟩ := takeS_len h
           obtain ⟨y, w, _, h⟩ := bind_is h
           obtain ⟨_, h⟩ := takeS_len h
           rw [semi_kd h]
           exact ⟨(by decide : (8 : Int) ≠ 6), (by decide : (8 : Int) ≠ 7)⟩
       · rw [if_neg h4, if_neg h4]
         by_cases h5 : isW wReturn u = true
         · rw [if_pos h5]
           refine tail_plain fun x v h => ?_
           split at h
           · rw [semi_kd h]
             exact ⟨(by decide : (10 : Int) ≠ 6), (by decide : (10 : Int) ≠ 7)⟩
           · obtain ⟨y, w, _, h⟩ := bind_is h
             rw [semi_kd h]
             exact ⟨(by decide : (10 : Int) ≠ 6), (by decide : (10 : Int) ≠ 7)⟩
         · rw [if_neg h5]
           refine tail_plain fun x v h => ?_
           obtain ⟨y, w, e, h⟩ := bind_is h
           rw [semi_kd h]
           exact nmdP_kd e
theorem varR (ln : Int) (u : List To) : varP ln u = (takeR 1 [] u).bind fun t v => (tyR true v).bind fun ty w => if isS [61] w = true then (exP w.tail).bind fun x z => .ok (stm 1 ln t.tx [] [] ty [x]) z else .ok (stm 1 ln t.tx [] [] ty []) w := by
 rw [tkK_bind]
 simp only [tyR_must]
 rfl
theorem Ans.ok_eq {α : Type} {fl : Bool} {u v : List To} {r : R α} {x : α} (h : Ans fl u r x v false) : fl = false ∧ r = .ok x v := by
 cases h
 exact ⟨rfl, rfl⟩
def RB (w : World) (gp : Nat) (A : Option Addr) (c : Nat) (l u : List To) (fl : Bool) (r : R (List St)) (e : Ending) (w' : World) : Prop :=
 ∃ (bA : Option Addr) (bc : Nat) (bs : List XS) (u' : List To) (f' : Bool), e = .returned (.slice bA bs.length bc) ∧ Ans fl u r (xssd bs) u' f' ∧ RowP eSt w' (fun g => w.heap.size ≤ g) bA bc bs ∧ xssOk w' (fun g => w.heap.size ≤ g) bs ∧ Rp w' gp A c l u' f' ∧ w.grownBy w' (some gp)
structure StH (gp : Nat) (A : Option Addr) (c : Nat) (l : List To) (n : Nat) : Prop where
 b : ∀ (W : World) (v : List To) (f : Bool), Rp W gp A c l v f → (f = false → blkP n v ≠ .out) → Calls Try.prog 41 #[.pointer (some ⟨gp, 0, none⟩)] W (RB W gp A c l v f (blkP n v))
section
variable {w W Z : World} {gp : Nat} {A : Option Addr} {c n : Nat} {l u u' : List To} {fl f' : Bool} {b z : Nat} {s : XS} {v v9 : Value} {xs : List XS} {x : XS}
theorem xssOk.keep' {w w' : World} {P Q : Nat → Prop} {l : List XS} (h : xssOk w P l) (hw : w' = w) (hm : ∀ g, P g → Q g) : xssOk w' Q l := by
 subst hw
 exact xssOk.keep (fun _ _ _ => rfl) (fun _ _ _ => rfl) hm l h
theorem Sw.block (HH : StH gp A c l n) (h : Sw w gp A c l b z s W u fl) (hne : fl = false → blkP n u ≠ .out) :
 Calls Try.prog 41 #[.pointer (some ⟨gp, 0, none⟩)] W (fun e W' => ∃ bA bc bs u' f', e = .returned (.slice bA bs.length bc) ∧ Hid (Ans fl u (blkP n u) (xssd bs) u' f') ∧ Hid (RowP eSt W' (fun g => w.heap.size ≤ g ∧ g ≠ b ∧ g ≠ z) bA bc bs ∧ xssOk W' (fun g => w.heap.size ≤ g ∧ g ≠ b ∧ g ≠ z) bs) ∧ Sw w gp A c l b z s W' u' f') :=
 (HH.b W u fl h.p hne).mono fun _ _ ⟨bA, bc, bs, u', f', he, ha, h1, h2, hp, hg⟩ => ⟨bA, bc, bs, u', f', he, Lib.hid ha, Lib.hid ⟨h1.keep (fun _ _ _ => rfl) fun _ q => h.new_ok q, h2.keep' rfl fun _ q => h.new_ok q⟩, h.step hp hg⟩
structure Br (w : World) (gp : Nat) (A : Option Addr) (c : Nat) (l : List To) (v : Value) (xs : List XS) (W : World) (u : List To) (fl : Bool) : Prop where
 p : Rp W gp A c l u fl
 r : eSt.Own W w.heap.size v xs
 k : xssOk W (fun g => w.heap.size ≤ g ∧ v.ownBlock ≠ some g) xs
 g : w.grownBy W (some gp)
 n : gp < w.heap.size
theorem xssOk.append {W : World} {P : Nat → Prop} {xs ys : List XS} (h : xssOk W P xs) (h2 : xssOk W P ys) : xssOk W P (xs ++ ys) :=
 xssOk.of fun x hx => (List.mem_append.1 hx).elim (fun q => xssOk.all h x q) (fun q => xssOk.all h2 x q)
theorem Br.below (h : Br w gp A c l v xs W u fl) (hb : Below W.heap.size W Z) : Br w gp A c l v xs Z u fl :=
 ⟨h.p.next hb, h.r.below hb, xssOk.keep (fun g _ hg => hb.block g hg.lt) (fun g _ hg => hb.block g hg.lt) (fun _ q => q) xs h.k, grown_trans h.g (grown_below hb _), h.n⟩
theorem Br.step (h : Br w gp A c l v xs W u fl) (hp : Rp Z gp A c l u' f') (hg : W.grownBy Z (some gp)) : Br w gp A c l v xs Z u' f' := by
 have hb : ButT 64 W Z := ButT.grown hg fun k e => by injection e with e; subst e; exact h.p.has
 exact ⟨hp, h.r.but hb (by decide), xssOk.keep (fun g _ ht => hb g _ ht (by decide)) (fun g _ ht => hb g _ ht (by decide)) (fun _ q => q) xs h.k, grown_trans h.g hg, h.n⟩
theorem Br.add (h : Br w gp A c l v xs W u fl) (hx : x.Ok W (fun g => w.heap.size ≤ g ∧ v.ownBlock ≠ some g)) (hg : W.grownBy Z v.ownBlock) (ho : eSt.Own Z w.heap.size v9 (xs ++ [x])) (hk : ∀ k, v9.ownBlock = some k → v.ownBlock = some k ∨ W.heap.size ≤ k) : Br w gp A c l v9 (xs ++ [x]) Z u fl := by
 have hn := h.n
 have hB : Below w.heap.size W Z := (Below.refl _ _).grown hg h.g.size (fun k e => (h.r.lt k e).1)
 have key : ∀ ys : List XS, xssOk W (fun g => w.heap.size ≤ g ∧ v.ownBlock ≠ some g) ys → xssOk Z (fun g => w.heap.size ≤ g ∧ v9.ownBlock ≠ some g) ys := fun ys hy => by
  refine xssOk.keep (P := fun g => (w.heap.size ≤ g ∧ v.ownBlock ≠ some g) ∧ g < W.heap.size) (fun g q hg' => hg.block g hg'.lt (fun e => q.1.2 e.symm)) (fun g q hg' => hg.block g hg'.lt (fun e => q.1.2 e.symm)) (fun g q => ⟨q.1.1, fun e => ?_⟩) ys (xssOk.low ys hy)
  rcases hk g e with e2 | e2
  · exact q.1.2 e2
  · have := q.2
    omega
 exact ⟨h.p.below hB hn, ho, (key xs h.k).append (key [x] ⟨hx, trivial⟩), grown_new h.g hB, hn⟩
theorem Br.new0 (hp : Rp W gp A c l u fl) (hg : w.grownBy W (some gp)) (hn : gp < w.heap.size) : Br w gp A c l (.slice none 0 0) [] W u fl :=
 ⟨hp, El.Own.nil W _, trivial, hg, hn⟩
end
end Go.Proofs.Ytjllbacefbjjaaa
