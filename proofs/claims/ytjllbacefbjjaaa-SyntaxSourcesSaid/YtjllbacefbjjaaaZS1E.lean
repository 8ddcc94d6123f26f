/-
  Merged for a claim: S1E.
-/
import Derived.Test.YtjllbacefbjjaaaZS1D
namespace Go.Proofs.Ytjllbacefbjjaaa
open Go Go.RowKit

structure PgM where
 A1 : Option Addr
 c1 : Nat
 ss : List ScM
 A2 : Option Addr
 c2 : Nat
 fs : List DcM
def PgM.cs (p : PgM) : List Value := [.slice p.A1 p.ss.length p.c1, .slice p.A2 p.fs.length p.c2]
def PgM.d (p : PgM) : Pg := ⟨p.ss.map ScM.d, p.fs.map DcM.d⟩
def PgM.Ok (w : World) (P : Nat → Prop) (p : PgM) : Prop := RowP eSc w P p.A1 p.c1 p.ss ∧ RowP eDc w P p.A2 p.c2 p.fs ∧ (∀ s ∈ p.ss, s.Ok w P) ∧ ∀ d ∈ p.fs, d.Ok w P
def PrR (w : World) (gp : Nat) (A : Option Addr) (c : Nat) (l : List To) (r : R Pg) (e : Ending) (w' : World) : Prop := match r with
 | .ok p z => ∃ m : PgM, e = .returned (.agg m.cs.toArray) ∧ m.d = p ∧ m.Ok w' (fun g => w.heap.size ≤ g) ∧ Ps w' gp A c l z ∧ w.grownBy w' (some gp)
 | .bad z => e = .panicked misC ∧ Ps w' gp A c l z ∧ w.grownBy w' (some gp)
 | .out => False
def XS1 (w : World) (vF : Value) (fs : List DcM) (ss : List ScM) (W : World) : Prop := eDc.Own W w.heap.size vF fs ∧ (∀ s ∈ ss, s.Ok W (fun g => w.heap.size ≤ g)) ∧ ∀ d ∈ fs, d.Ok W (fun g => w.heap.size ≤ g)
def XF1 (w : World) (vS : Value) (ss : List ScM) (fs : List DcM) (W : World) : Prop := eSc.Own W w.heap.size vS ss ∧ (∀ s ∈ ss, s.Ok W (fun g => w.heap.size ≤ g)) ∧ ∀ d ∈ fs, d.Ok W (fun g => w.heap.size ≤ g)
structure PgW (w : World) (gp gs : Nat) (A : Option Addr) (c : Nat) (l : List To) (vS : Value) (ss : List ScM) (vF : Value) (fs : List DcM) (W : World) (u : List To) : Prop where
 p : Ps W gp A c l u
 s : CAt W gs 27 [vS, vF]
 rS : eSc.Own W w.heap.size vS ss
 rF : eDc.Own W w.heap.size vF fs
 oS : ∀ s ∈ ss, s.Ok W (fun g => w.heap.size ≤ g)
 oF : ∀ d ∈ fs, d.Ok W (fun g => w.heap.size ≤ g)
 g : w.grownBy W (some gp)
 n : gp < w.heap.size ∧ w.heap.size ≤ gs ∧ ss.length + fs.length + u.length ≤ l.length
section
variable {w W Z : World} {gp gs : Nat} {A : Option Addr} {c : Nat} {l u : List To} {vS vF vc v : Value} {ss ss2 : List ScM} {fs fs2 : List DcM}
theorem PrR.bad' {r : R Pg} {e : Ending} {z : List To} (hr : r = .bad z) (he : e = .panicked misC) (hp : Ps W gp A c l z) (hg : w.grownBy W (some gp)) : PrR w gp A c l r e W := by
 subst hr
 exact ⟨he, hp, hg⟩
theorem oks_keep {Ts : List TypeId} (hf : FrT Ts W Z) (h1 : 9 ∉ Ts) (h2 : 75 ∉ Ts) (h3 : 53 ∉ Ts) (h4 : 51 ∉ Ts) {P : Nat → Prop} (hs : ∀ s ∈ ss, s.Ok W P) (hd : ∀ d ∈ fs, d.Ok W P) : (∀ s ∈ ss, s.Ok Z P) ∧ ∀ d ∈ fs, d.Ok Z P :=
 ⟨fun s q => (hs s q).keep (fun g _ ht => hf g _ ht h1) (fun _ q => q), fun d q => (hd d q).keep (fun g _ ht => hf g _ ht h2) (fun g _ ht => hf g _ ht h3) (fun g _ ht => hf g _ ht h4) (fun _ q => q)⟩
theorem XS1.keep (hf : FrT [57, 27, eSc.e] W Z) (h : XS1 w vF fs ss W) : XS1 w vF fs ss Z :=
 have k := oks_keep hf (by decide) (by decide) (by decide) (by decide) h.2.1 h.2.2
 ⟨h.1.kept fun g ht => hf g _ ht (by decide), k.1, k.2⟩
theorem XF1.keep (hf : FrT [57, 27, eDc.e] W Z) (h : XF1 w vS ss fs W) : XF1 w vS ss fs Z :=
 have k := oks_keep hf (by decide) (by decide) (by decide) (by decide) h.2.1 h.2.2
 ⟨h.1.kept fun g ht => hf g _ ht (by decide), k.1, k.2⟩
theorem XS1.more {cs : Value → List Value} {y : ScM} (h : RwW eSc 27 cs (XS1 w vF fs ss2) w gp gs A c l vc v ss W u) (hy : y.Ok W (fun g => w.heap.size ≤ g)) : RwW eSc 27 cs (XS1 w vF fs (ss2 ++ [y])) w gp gs A c l vc v ss W u :=
 ⟨h.p, h.s, h.r, ⟨h.x.1, fun s q => (List.mem_append.1 q).elim (h.x.2.1 s) (fun e => by rw [List.mem_singleton.1 e]; exact hy), h.x.2.2⟩, h.g, h.n, fun _ _ hf hx => XS1.keep hf hx, h.t⟩
theorem XF1.more {cs : Value → List Value} {y : DcM} (h : RwW eDc 27 cs (XF1 w vS ss fs2) w gp gs A c l vc v fs W u) (hy : y.Ok W (fun g => w.heap.size ≤ g)) : RwW eDc 27 cs (XF1 w vS ss (fs2 ++ [y])) w gp gs A c l vc v fs W u :=
 ⟨h.p, h.s, h.r, ⟨h.x.1, h.x.2.1, fun s q => (List.mem_append.1 q).elim (h.x.2.2 s) (fun e => by rw [List.mem_singleton.1 e]; exact hy)⟩, h.g, h.n, fun _ _ hf hx => XF1.keep hf hx, h.t⟩
theorem PgW.toS (h : PgW w gp gs A c l vS ss vF fs W u) : RwW eSc 27 (fun v => [v, vF]) (XS1 w vF fs ss) w gp gs A c l vS vS ss W u :=
 ⟨h.p, h.s, h.rS, ⟨h.rF, h.oS, h.oF⟩, h.g, ⟨h.n.1, h.n.2.1, by have := h.n.2.2; omega⟩, fun _ _ hf hx => XS1.keep hf hx, by decide, by decide, by decide⟩
theorem PgW.toF (h : PgW w gp gs A c l vS ss vF fs W u) : RwW eDc 27 (fun v => [vS, v]) (XF1 w vS ss fs) w gp gs A c l vF vF fs W u :=
 ⟨h.p, h.s, h.rF, ⟨h.rS, h.oS, h.oF⟩, h.g, ⟨h.n.1, h.n.2.1, by have := h.n.2.2; omega⟩, fun _ _ hf hx => XF1.keep hf hx, by decide, by decide, by decide⟩
theorem PgW.ofS (h : RwW eSc 27 (fun v => [v, vF]) (XS1 w vF fs ss) w gp gs A c l vS vS ss W u) (hn : ss.length + fs.length + u.length ≤ l.length) : PgW w gp gs A c l vS ss vF fs W u :=
 ⟨h.p, h.s, h.r, h.x.1, h.x.2.1, h.x.2.2, h.g, h.n.1, h.n.2.1, hn⟩
theorem PgW.ofF (h : RwW eDc 27 (fun v => [vS, v]) (XF1 w vS ss fs) w gp gs A c l vF vF fs W u) (hn : ss.length + fs.length + u.length ≤ l.length) : PgW w gp gs A c l vS ss vF fs W u :=
 ⟨h.p, h.s, h.x.1, h.r, h.x.2.1, h.x.2.2, h.g, h.n.1, h.n.2.1, hn⟩
theorem PgW.below (h : PgW w gp gs A c l vS ss vF fs W u) (hb : Below W.heap.size W Z) : PgW w gp gs A c l vS ss vF fs Z u := PgW.ofS (h.toS.below hb) h.n.2.2
theorem PgW.drew (h : PgW w gp gs A c l vS ss vF fs W u) : PgW w gp gs A c l vS ss vF fs W.drew u := h.below ((Below.refl _ W).drew)
theorem PgW.new (hP : Ps w gp A c l u) : PgW w gp w.heap.size A c l (.slice none 0 0) [] (.slice none 0 0) [] (w.alloc (.cells #[.slice none 0 0, .slice none 0 0] 27)) u := by
 have hb := below_lnew w (.cells #[.slice none 0 0, .slice none 0 0] 27)
 exact ⟨hP.next hb, heap_alloc_new w _, El.Own.nil _ _, El.Own.nil _ _, fun _ q => absurd q (by simp), fun _ q => absurd q (by simp), grown_below hb _, hP.lt, Nat.le_refl _, by have := hP.ulen; simpa using this⟩
theorem pg_size : (Try.prog.info? 27).map (·.size) = some 2 := by kernel_rfl
theorem pg_end {fn : Func} (hf : fn.results = #[.cell 2 27]) {tmps : Array Value} {A1 A2 : Option Addr} {c1 c2 : Nat} {r : R Pg} (hp : tmps.getD 2 undef = .pointer (some ⟨gs, 0, none⟩))
 (h : PgW w gp gs A c l (.slice A1 ss.length c1) ss (.slice A2 fs.length c2) fs W u) (hr : r = .ok ⟨ss.map ScM.d, fs.map DcM.d⟩ u) :
 bodyPost Try.prog fn (PrR w gp A c l r) .ret { tmps := tmps, defers := [] } ((W.setCell ⟨gs, 0, none⟩ (.slice A1 ss.length c1)).setCell ⟨gs, 1, none⟩ (.slice A2 fs.length c2)) := by
 subst hr
 have k1 := RwW.cell (cs' := fun v => [v, .slice A2 fs.length c2]) h.toS 0 (.slice A1 ss.length c1) (.slice A1 ss.length c1) rfl
 have k2 := RwW.cell (cs' := fun v => [v, .slice A2 fs.length c2]) k1 1 (.slice A2 fs.length c2) (.slice A1 ss.length c1) rfl
 have h2 := PgW.ofS k2 h.n.2.2
 obtain ⟨A3, c3, e3, r1⟩ := h2.rS.rowP
 injection e3 with e3 _ e4
 subst e3 e4
 obtain ⟨A4, c4, e5, r2⟩ := h2.rF.rowP
 injection e5 with e5 _ e6
 subst e5 e6
 exact bodyPost_ret (results_cell_row hf tmps _ gs _ _ _ _ hp h2.s Try.underlying27 rfl pg_size) rfl ⟨⟨A1, c1, ss, A2, c2, fs⟩, rfl, rfl, ⟨r1, r2, h2.oS, h2.oF⟩, h2.p, h2.g⟩
set_option maxRecDepth 100000 in
set_option maxHeartbeats 16000000 in
theorem program_any (hP : Ps w gp A c l u) : Calls Try.prog 17 #[.pointer (some ⟨gp, 0, none⟩)] w (PrR w gp A c l (pgP (u.length + 1) ⟨[], []⟩ u)) := by
 obtain ⟨r, hr⟩ : ∃ r, pgP (u.length + 1) ⟨[], []⟩ u = r := ⟨_, rfl⟩
 rw [hr]
 have HR := Lib.hid hr.symm
 have H0 := Lib.hid (PgW.new hP)
 clear hr hP
 go_enter Try.func17, Try.ntmps17
 go_wp2_with fail
 generalize hgs : w.heap.size = gs at *
 obtain ⟨w1, hw1⟩ : ∃ w1, w.alloc (.cells #[.slice none 0 0, .slice none 0 0] 27) = w1 := ⟨_, rfl⟩
 rw [hw1] at H0 ⊢
 clear hw1 hgs
 go_loopw [] (fun wr => ∃ (n : Nat) (vS : Value) (ss : List ScM) (vF : Value) (fs : List DcM) (u' : List To), u'.length < n ∧ Hid (r = pgP n ⟨ss.map ScM.d, fs.map DcM.d⟩ u') ∧ Hid (PgW w gp gs A c l vS ss vF fs wr u')) (fun wr => lft wr gp l)
 case atStart => exact ⟨u.length + 1, _, [], _, [], u, Nat.lt_succ_self _, HR, H0⟩
 case round =>
  clear HR H0
  obtain ⟨n5, vS, ss, vF, fs, u5, hn5, HR5, HW5⟩ := hrel
  obtain ⟨m5, rfl⟩ : ∃ m, n5 = m + 1 := ⟨n5 - 1, by omega⟩
  obtain ⟨w5, rfl⟩ : ∃ z, z = wr := ⟨_, rfl⟩
  have HL5 := Lib.hid HW5.out.p.lft
  obtain ⟨k5, hk5, hu5, hc5⟩ := HW5.out.p.k
  have p0 := hc5.cell (j := 0) (by simp)
  have p1 := hc5.cell (j := 1) (by simp)
  simp only [List.getElem_cons_zero, List.getElem_cons_succ] at p0 p1
  have HU5 := Lib.hid hu5
  have hl5 := HW5.out.p.n
  clear hc5 hu5
  by_cases hin : k5 < l.length
  · have hne : u5 ≠ [] := by
     intro e
     have := HU5.out
     rw [e] at this
     have := congrArg List.length this
     rw [List.length_drop] at this
     simp at this
     omega
    have HR6 := Lib.hid (show r = if isW wType u5 = true then (scP u5).bind fun s v => pgP m5 ⟨ss.map ScM.d ++ [s], fs.map DcM.d⟩ v else (dcP u5).bind fun d v => pgP m5 ⟨ss.map ScM.d, fs.map DcM.d ++ [d]⟩ v from by rw [HR5.out, pgP, if_neg hne])
    have hki : (k5 : Int) < (l.length : Int) := by omega
    go_wp2_with fail
    go_quiet (fail)
    have H4 := Lib.hid (HW5.out.below (below_draws nq))
    have hnl := HW5.out.n.2.2
    clear HR5 HW5 p0 p1 HU5
    go_wp2_with fail
    cases hq : isT 3 [116, 121, 112, 101] u5
    · have HF := Lib.hid (HR6.out.trans (if_neg (by show ¬ isT 3 [116, 121, 112, 101] u5 = true; rw [hq]; decide)))
      have H5d := Lib.hid H4.out.drew
      refine wp_region_held_drew (S := fun W9 => True) (by kernel_rfl) (trivial) (fun hHeld => ?_)
      refine heldTake (i := 0) (d := some 15) (v := ?_) rfl rfl (by kernel_rfl) (by kernel_rfl) (by kernel_rfl) (fun _ _ _ h => h) (by kernel_rfl) ?hyq_1 (by assumption) ?restq_1
      case hyq_1 => (intro W9 hSw; (try dsimp only at hSw); go_simp; try (with_reducible rfl))
      (try simp only [Act.put, nA, nB, nC])
      refine heldTake (i := 1) (d := some 16) (v := ?_) rfl rfl (by kernel_rfl) (by kernel_rfl) (by kernel_rfl) (fun _ _ _ h => h) (by kernel_rfl) ?hyq_2 (by assumption) ?restq_2
      case hyq_2 => (intro W9 hSw; (try dsimp only at hSw); go_simp; try (with_reducible rfl))
      (try simp only [Act.put, nA, nB, nC])
      refine heldTake (i := 2) (d := some 17) (v := ?_) rfl rfl (by kernel_rfl) (by kernel_rfl) (by kernel_rfl) (fun _ _ _ h => h) (by kernel_rfl) ?hyq_3 (by assumption) ?restq_3
      case hyq_3 => (intro W9 hSw; (try dsimp only at hSw); go_simp; try (with_reducible rfl))
      (try simp only [Act.put, nA, nB, nC])
      refine wpAnyH_ready (rs := [3]) (by kernel_rfl) (by simp) ?_
      refine AllReadyH.cons rfl (fun K hK => ?_) AllReadyH.nil
      go_simp
      go_at_call 35
      refine (word_any [116, 121, 112, 101] _).mono ?_
      rintro e9 X ⟨rfl, hbX⟩
      have H5x := Lib.hid (H5d.out.below hbX)
      clear hbX
      go_wp2_with fail
      refine hK.out _ _ trivial (fun hHeld => ?_)
      clear hK K
      (try simp only [Act.put, nA, nB, nC])
      refine wpAnyH_ready (rs := [4]) (by kernel_rfl) (by simp) ?_
      refine AllReadyH.cons rfl (fun K hK => ?_) AllReadyH.nil
      go_simp
      go_at_call 34
      refine (has_any H5x.out.p ⟨3, [116, 121, 112, 101], 0, 0⟩ (by decide)).mono ?_
      rintro e9 Y ⟨rfl, hbY⟩
      have H5 := Lib.hid (H5x.out.below hbY)
      rw [hq]
      clear hbY H5x
      go_wp2_with fail
      refine hK.out _ _ trivial (fun hHeld => ?_)
      clear hK K
      (try simp only [Act.put, nA, nB, nC])
      refine wpAnyH_done (by kernel_rfl) ?_ _
      clear H4 HR6 hq
      have H6 := Lib.hid H5.out.toF
      go_upto_region 4 with fail
      obtain ⟨W5, rfl⟩ : ∃ z, z = Y := ⟨_, rfl⟩
      rcases hx : dcP u5 with ⟨s9, z9⟩ | z9 | _
      · have HE9 := Lib.hid (HF.out.trans (congrArg (fun q => R.bind q _) hx))
        have hzl := dcP_len hx
        have hl5 : fs.length + 1 + z9.length ≤ l.length := by omega
        have hxl : fs.length ≤ 1000000 := by omega
        have HQ9 := Lib.hid (show ∀ y : DcM, ss.length + (fs ++ [y]).length + z9.length ≤ l.length from fun y => by rw [List.length_append, List.length_singleton]; omega)
        clear HF H5
        refine wp_region_held_drew (S := fun W9 => True) (by kernel_rfl) (trivial) (fun hHeld => ?_)
        have HK1 := Lib.hid H6.out.drew
        generalize W5.drew = Wd at *
        refine heldTake (i := 0) (d := some 27) (v := ?_) rfl rfl (by kernel_rfl) (by kernel_rfl) (by kernel_rfl) (fun _ _ _ h => h) (by kernel_rfl) ?hyq_4 (by assumption) ?restq_4
        case hyq_4 => (intro W9 hSw; (try dsimp only at hSw); go_simp; try (with_reducible rfl))
        (try simp only [Act.put, nA, nB, nC])
        refine heldTake (i := 2) (d := some 29) (v := ?_) rfl rfl (by kernel_rfl) (by kernel_rfl) (by kernel_rfl) (fun _ _ _ h => h) (by kernel_rfl) ?hyq_5 (by assumption) ?restq_5
        case hyq_5 => (intro W9 hSw; (try dsimp only at hSw); go_simp; try (with_reducible rfl))
        (try simp only [Act.put, nA, nB, nC])
        refine wpAnyH_ready (rs := [1, 3]) (by kernel_rfl) (by simp) ?_
        refine AllReadyH.cons rfl (fun K hK => ?_) (AllReadyH.cons rfl (fun K hK => ?_) AllReadyH.nil)
        · have ck2 := HK1.out.s.cell (j := 1) (by simp)
          simp only [List.getElem_cons_zero, List.getElem_cons_succ] at ck2
          go_simp
          refine hK.out _ _ (trivial) (fun hHeld => ?_)
          clear hK K
          (try simp only [Act.put, nA, nB, nC])
          clear ck2
          refine wpAnyH_ready (rs := [3]) (by kernel_rfl) (by simp) ?_
          refine AllReadyH.cons rfl (fun K hK => ?_) AllReadyH.nil
          go_simp
          go_at_call 37
          have HC9 := Lib.hid (function_any HK1.out.p)
          rw [hx] at HC9
          refine HC9.out.mono ?_
          clear HC9
          rintro e9 X4 ⟨⟨n9, l9, A8, c8, p9, ⟨tk, tn, tm⟩, A7, c7, b9⟩, rfl, hd9, ho9, hpX, hgX⟩
          have HD9 := Lib.hid hd9
          have HK3 := Lib.hid (XF1.more (HK1.out.step hpX hgX (by omega)) (ho9.keep (fun _ _ _ => rfl) (fun _ _ _ => rfl) (fun _ _ _ => rfl) (fun g q => Nat.le_trans HK1.out.g.size q)))
          clear hpX hgX ho9 hd9
          unfold DcM.cs
          dsimp only
          go_wp2_with fail
          refine hK.out _ _ (trivial) (fun hHeld => ?_)
          clear hK K
          (try simp only [Act.put, nA, nB, nC])
          refine wpAnyH_ready (rs := [4]) (by kernel_rfl) (by simp) ?_
          refine AllReadyH.cons rfl (fun K hK => ?_) AllReadyH.nil
          (try rw [if_pos (by kernel_rfl)])
          refine El.op_build1 eDc X4 25 (.agg #[.string ⟨#[]⟩, .int .i64 0, .slice none 0 0, .int .u8 0, .int .i64 0, .string ⟨#[]⟩, .slice none 0 0]) 104 Try.underlying25 dc_info rfl (by decide) (.tmp 30) rfl (.agg #[.string (str n9), .int .i64 l9, .slice A8 p9.length c8, .int .u8 tk, .int .i64 tn, .string (str tm), .slice A7 b9.length c7]) (DcM.mk n9 l9 A8 c8 p9 (Ty.mk tk tn tm) A7 c7 b9) rfl rfl ?_
          change K (Act.put _ (some 31) (.slice (some ⟨X4.heap.size, 0, none⟩) 1 1)) (X4.alloc (.cells #[.string (str n9), .int .i64 l9, .slice A8 p9.length c8, .int .u8 tk, .int .i64 tn, .string (str tm), .slice A7 b9.length c7] 48))
          have hbY := below_lnew X4 (.cells #[.string (str n9), .int .i64 l9, .slice A8 p9.length c8, .int .u8 tk, .int .i64 tn, .string (str tm), .slice A7 b9.length c7] 48)
          have HB7 := Lib.hid (heap_alloc_new X4 (.cells #[.string (str n9), .int .i64 l9, .slice A8 p9.length c8, .int .u8 tk, .int .i64 tn, .string (str tm), .slice A7 b9.length c7] 48))
          obtain ⟨Y6, hY⟩ : ∃ Y, X4.alloc (.cells #[.string (str n9), .int .i64 l9, .slice A8 p9.length c8, .int .u8 tk, .int .i64 tn, .string (str tm), .slice A7 b9.length c7] 48) = Y := ⟨_, rfl⟩
          rw [hY] at hbY HB7 ⊢
          have HK5 := Lib.hid (HK3.out.below hbY)
          clear hY hbY
          refine hK.out _ _ (trivial) (fun hHeld => ?_)
          clear hK K
          (try simp only [Act.put, nA, nB, nC])
          refine wpAnyH_ready (rs := [5]) (by kernel_rfl) (by simp) ?_
          refine AllReadyH.cons rfl (fun K hK => ?_) AllReadyH.nil
          (try rw [if_pos (by kernel_rfl)])
          refine El.op_app1x eDc Y6 25 (.agg #[.string ⟨#[]⟩, .int .i64 0, .slice none 0 0, .int .u8 0, .int .i64 0, .string ⟨#[]⟩, .slice none 0 0]) 104 Try.underlying25 dc_info rfl (by decide) (by decide) (.tmp 28) (.tmp 31) rfl w.heap.size vF fs rfl HK5.out.r X4.heap.size 1 (DcM.mk n9 l9 A8 c8 p9 (Ty.mk tk tn tm) A7 c7 b9) rfl 48 HB7.out hxl HK5.out.g.size ?_
          intro v9 Z8 ho9 hg9 hk9
          obtain ⟨g9, c9, rfl⟩ := El.Own.at0 ho9 (by simp)
          have hl9 : (fs ++ [(DcM.mk n9 l9 A8 c8 p9 (Ty.mk tk tn tm) A7 c7 b9)]).length = fs.length + 1 := by simp
          have HK9 := Lib.hid (RwW.app (X' := _) HK5.out hg9 ho9 hl5 (HK5.out.kx _ _ (HK5.out.frApp hg9) HK5.out.x) (HK5.out.kx))
          change K (Act.put _ (some 32) (.slice (some ⟨g9, 0, none⟩) (fs ++ [(DcM.mk n9 l9 A8 c8 p9 (Ty.mk tk tn tm) A7 c7 b9)]).length c9)) Z8
          rw [hl9]
          rw [hl9] at HK9
          clear ho9 hg9 hk9
          refine hK.out _ _ (trivial) (fun hHeld => ?_)
          clear hK K
          (try simp only [Act.put, nA, nB, nC])
          refine heldTake (i := 6) (d := some 33) (v := ?_) rfl rfl (by kernel_rfl) (by kernel_rfl) (by kernel_rfl) (fun _ _ _ h => h) (by kernel_rfl) ?hyq_6 (by assumption) ?restq_6
          case hyq_6 => (intro W9 hSw; (try dsimp only at hSw); go_simp; try (with_reducible rfl))
          (try simp only [Act.put, nA, nB, nC])
          refine wpAnyH_ready (rs := [7]) (by kernel_rfl) (by simp) ?_
          refine AllReadyH.cons rfl (fun K hK => ?_) AllReadyH.nil
          have ck12 := HK9.out.s.cell (j := 1) (by simp)
          have ck12f := HK9.out.s.frozen 1
          simp only [List.getElem_cons_zero, List.getElem_cons_succ] at ck12
          have HK10 := Lib.hid (RwW.cell (cs' := fun v => [vS, v]) HK9.out 1 (.slice (some ⟨g9, 0, none⟩) (fs.length + 1) c9) (.slice (some ⟨g9, 0, none⟩) (fs.length + 1) c9) rfl)
          go_simp
          obtain ⟨P11, hP9⟩ : ∃ P9, Z8.setCell ⟨gs, 1, none⟩ (.slice (some ⟨g9, 0, none⟩) (fs.length + 1) c9) = P9 := ⟨_, rfl⟩
          rw [hP9] at HK10 ⊢
          clear hP9 ck12 ck12f
          refine hK.out _ _ (trivial) (fun hHeld => ?_)
          clear hK K
          (try simp only [Act.put, nA, nB, nC])
          refine wpAnyH_done (by kernel_rfl) ?_ _
          have HP9 := Lib.hid (PgW.ofF HK10.out (HQ9.out _))
          have HL9 := Lib.hid HP9.out.p.lft
          go_wp2_with fail
          go_roundw
          case rel => exact ⟨m5, _, _, _, _, z9, by omega, Lib.hid (by rw [HE9.out, ← HD9.out]; simp; rfl), HP9⟩
          case measure =>
           have h1 := HL5.out
           have h2 := HL9.out
           omega
        · go_simp
          go_at_call 37
          have HC9 := Lib.hid (function_any HK1.out.p)
          rw [hx] at HC9
          refine HC9.out.mono ?_
          clear HC9
          rintro e9 X14 ⟨⟨n9, l9, A8, c8, p9, ⟨tk, tn, tm⟩, A7, c7, b9⟩, rfl, hd9, ho9, hpX, hgX⟩
          have HD9 := Lib.hid hd9
          have HK13 := Lib.hid (XF1.more (HK1.out.step hpX hgX (by omega)) (ho9.keep (fun _ _ _ => rfl) (fun _ _ _ => rfl) (fun _ _ _ => rfl) (fun g q => Nat.le_trans HK1.out.g.size q)))
          clear hpX hgX ho9 hd9
          unfold DcM.cs
          dsimp only
          go_wp2_with fail
          refine hK.out _ _ (trivial) (fun hHeld => ?_)
          clear hK K
          (try simp only [Act.put, nA, nB, nC])
          refine wpAnyH_ready (rs := [1, 4]) (by kernel_rfl) (by simp) ?_
          refine AllReadyH.cons rfl (fun K hK => ?_) (AllReadyH.cons rfl (fun K hK => ?_) AllReadyH.nil)
          · have ck15 := HK13.out.s.cell (j := 1) (by simp)
            simp only [List.getElem_cons_zero, List.getElem_cons_succ] at ck15
            go_simp
            refine hK.out _ _ (trivial) (fun hHeld => ?_)
            clear hK K
            (try simp only [Act.put, nA, nB, nC])
            clear ck15
            refine wpAnyH_ready (rs := [4]) (by kernel_rfl) (by simp) ?_
            refine AllReadyH.cons rfl (fun K hK => ?_) AllReadyH.nil
            (try rw [if_pos (by kernel_rfl)])
            refine El.op_build1 eDc X14 25 (.agg #[.string ⟨#[]⟩, .int .i64 0, .slice none 0 0, .int .u8 0, .int .i64 0, .string ⟨#[]⟩, .slice none 0 0]) 104 Try.underlying25 dc_info rfl (by decide) (.tmp 30) rfl (.agg #[.string (str n9), .int .i64 l9, .slice A8 p9.length c8, .int .u8 tk, .int .i64 tn, .string (str tm), .slice A7 b9.length c7]) (DcM.mk n9 l9 A8 c8 p9 (Ty.mk tk tn tm) A7 c7 b9) rfl rfl ?_
            change K (Act.put _ (some 31) (.slice (some ⟨X14.heap.size, 0, none⟩) 1 1)) (X14.alloc (.cells #[.string (str n9), .int .i64 l9, .slice A8 p9.length c8, .int .u8 tk, .int .i64 tn, .string (str tm), .slice A7 b9.length c7] 48))
            have hbY := below_lnew X14 (.cells #[.string (str n9), .int .i64 l9, .slice A8 p9.length c8, .int .u8 tk, .int .i64 tn, .string (str tm), .slice A7 b9.length c7] 48)
            have HB18 := Lib.hid (heap_alloc_new X14 (.cells #[.string (str n9), .int .i64 l9, .slice A8 p9.length c8, .int .u8 tk, .int .i64 tn, .string (str tm), .slice A7 b9.length c7] 48))
            obtain ⟨Y17, hY⟩ : ∃ Y, X14.alloc (.cells #[.string (str n9), .int .i64 l9, .slice A8 p9.length c8, .int .u8 tk, .int .i64 tn, .string (str tm), .slice A7 b9.length c7] 48) = Y := ⟨_, rfl⟩
            rw [hY] at hbY HB18 ⊢
            have HK16 := Lib.hid (HK13.out.below hbY)
            clear hY hbY
            refine hK.out _ _ (trivial) (fun hHeld => ?_)
            clear hK K
            (try simp only [Act.put, nA, nB, nC])
            refine wpAnyH_ready (rs := [5]) (by kernel_rfl) (by simp) ?_
            refine AllReadyH.cons rfl (fun K hK => ?_) AllReadyH.nil
            (try rw [if_pos (by kernel_rfl)])
            refine El.op_app1x eDc Y17 25 (.agg #[.string ⟨#[]⟩, .int .i64 0, .slice none 0 0, .int .u8 0, .int .i64 0, .string ⟨#[]⟩, .slice none 0 0]) 104 Try.underlying25 dc_info rfl (by decide) (by decide) (.tmp 28) (.tmp 31) rfl w.heap.size vF fs rfl HK16.out.r X14.heap.size 1 (DcM.mk n9 l9 A8 c8 p9 (Ty.mk tk tn tm) A7 c7 b9) rfl 48 HB18.out hxl HK16.out.g.size ?_
            intro v9 Z19 ho9 hg9 hk9
            obtain ⟨g9, c9, rfl⟩ := El.Own.at0 ho9 (by simp)
            have hl9 : (fs ++ [(DcM.mk n9 l9 A8 c8 p9 (Ty.mk tk tn tm) A7 c7 b9)]).length = fs.length + 1 := by simp
            have HK20 := Lib.hid (RwW.app (X' := _) HK16.out hg9 ho9 hl5 (HK16.out.kx _ _ (HK16.out.frApp hg9) HK16.out.x) (HK16.out.kx))
            change K (Act.put _ (some 32) (.slice (some ⟨g9, 0, none⟩) (fs ++ [(DcM.mk n9 l9 A8 c8 p9 (Ty.mk tk tn tm) A7 c7 b9)]).length c9)) Z19
            rw [hl9]
            rw [hl9] at HK20
            clear ho9 hg9 hk9
            refine hK.out _ _ (trivial) (fun hHeld => ?_)
            clear hK K
            (try simp only [Act.put, nA, nB, nC])
            refine heldTake (i := 6) (d := some 33) (v := ?_) rfl rfl (by kernel_rfl) (by kernel_rfl) (by kernel_rfl) (fun _ _ _ h => h) (by kernel_rfl) ?hyq_7 (by assumption) ?restq_7
            case hyq_7 => (intro W9 hSw; (try dsimp only at hSw); go_simp; try (with_reducible rfl))
            (try simp only [Act.put, nA, nB, nC])
            refine wpAnyH_ready (rs := [7]) (by kernel_rfl) (by simp) ?_
            refine AllReadyH.cons rfl (fun K hK => ?_) AllReadyH.nil
            have ck23 := HK20.out.s.cell (j := 1) (by simp)
            have ck23f := HK20.out.s.frozen 1
            simp only [List.getElem_cons_zero, List.getElem_cons_succ] at ck23
            have HK21 := Lib.hid (RwW.cell (cs' := fun v => [vS, v]) HK20.out 1 (.slice (some ⟨g9, 0, none⟩) (fs.length + 1) c9) (.slice (some ⟨g9, 0, none⟩) (fs.length + 1) c9) rfl)
            go_simp
            obtain ⟨P22, hP9⟩ : ∃ P9, Z19.setCell ⟨gs, 1, none⟩ (.slice (some ⟨g9, 0, none⟩) (fs.length + 1) c9) = P9 := ⟨_, rfl⟩
            rw [hP9] at HK21 ⊢
            clear hP9 ck23 ck23f
            refine hK.out _ _ (trivial) (fun hHeld => ?_)
            clear hK K
            (try simp only [Act.put, nA, nB, nC])
            refine wpAnyH_done (by kernel_rfl) ?_ _
            have HP9 := Lib.hid (PgW.ofF HK21.out (HQ9.out _))
            have HL9 := Lib.hid HP9.out.p.lft
            go_wp2_with fail
            go_roundw
            case rel => exact ⟨m5, _, _, _, _, z9, by omega, Lib.hid (by rw [HE9.out, ← HD9.out]; simp; rfl), HP9⟩
            case measure =>
             have h1 := HL5.out
             have h2 := HL9.out
             omega
          · (try rw [if_pos (by kernel_rfl)])
            refine El.op_build1 eDc X14 25 (.agg #[.string ⟨#[]⟩, .int .i64 0, .slice none 0 0, .int .u8 0, .int .i64 0, .string ⟨#[]⟩, .slice none 0 0]) 104 Try.underlying25 dc_info rfl (by decide) (.tmp 30) rfl (.agg #[.string (str n9), .int .i64 l9, .slice A8 p9.length c8, .int .u8 tk, .int .i64 tn, .string (str tm), .slice A7 b9.length c7]) (DcM.mk n9 l9 A8 c8 p9 (Ty.mk tk tn tm) A7 c7 b9) rfl rfl ?_
            change K (Act.put _ (some 31) (.slice (some ⟨X14.heap.size, 0, none⟩) 1 1)) (X14.alloc (.cells #[.string (str n9), .int .i64 l9, .slice A8 p9.length c8, .int .u8 tk, .int .i64 tn, .string (str tm), .slice A7 b9.length c7] 48))
            have hbY := below_lnew X14 (.cells #[.string (str n9), .int .i64 l9, .slice A8 p9.length c8, .int .u8 tk, .int .i64 tn, .string (str tm), .slice A7 b9.length c7] 48)
            have HB26 := Lib.hid (heap_alloc_new X14 (.cells #[.string (str n9), .int .i64 l9, .slice A8 p9.length c8, .int .u8 tk, .int .i64 tn, .string (str tm), .slice A7 b9.length c7] 48))
            obtain ⟨Y25, hY⟩ : ∃ Y, X14.alloc (.cells #[.string (str n9), .int .i64 l9, .slice A8 p9.length c8, .int .u8 tk, .int .i64 tn, .string (str tm), .slice A7 b9.length c7] 48) = Y := ⟨_, rfl⟩
            rw [hY] at hbY HB26 ⊢
            have HK24 := Lib.hid (HK13.out.below hbY)
            clear hY hbY
            refine hK.out _ _ (trivial) (fun hHeld => ?_)
            clear hK K
            (try simp only [Act.put, nA, nB, nC])
            refine wpAnyH_ready (rs := [1]) (by kernel_rfl) (by simp) ?_
            refine AllReadyH.cons rfl (fun K hK => ?_) AllReadyH.nil
            have ck27 := HK24.out.s.cell (j := 1) (by simp)
            simp only [List.getElem_cons_zero, List.getElem_cons_succ] at ck27
            go_simp
            refine hK.out _ _ (trivial) (fun hHeld => ?_)
            clear hK K
            (try simp only [Act.put, nA, nB, nC])
            clear ck27
            refine wpAnyH_ready (rs := [5]) (by kernel_rfl) (by simp) ?_
            refine AllReadyH.cons rfl (fun K hK => ?_) AllReadyH.nil
            (try rw [if_pos (by kernel_rfl)])
            refine El.op_app1x eDc Y25 25 (.agg #[.string ⟨#[]⟩, .int .i64 0, .slice none 0 0, .int .u8 0, .int .i64 0, .string ⟨#[]⟩, .slice none 0 0]) 104 Try.underlying25 dc_info rfl (by decide) (by decide) (.tmp 28) (.tmp 31) rfl w.heap.size vF fs rfl HK24.out.r X14.heap.size 1 (DcM.mk n9 l9 A8 c8 p9 (Ty.mk tk tn tm) A7 c7 b9) rfl 48 HB26.out hxl HK24.out.g.size ?_
            intro v9 Z28 ho9 hg9 hk9
            obtain ⟨g9, c9, rfl⟩ := El.Own.at0 ho9 (by simp)
            have hl9 : (fs ++ [(DcM.mk n9 l9 A8 c8 p9 (Ty.mk tk tn tm) A7 c7 b9)]).length = fs.length + 1 := by simp
            have HK29 := Lib.hid (RwW.app (X' := _) HK24.out hg9 ho9 hl5 (HK24.out.kx _ _ (HK24.out.frApp hg9) HK24.out.x) (HK24.out.kx))
            change K (Act.put _ (some 32) (.slice (some ⟨g9, 0, none⟩) (fs ++ [(DcM.mk n9 l9 A8 c8 p9 (Ty.mk tk tn tm) A7 c7 b9)]).length c9)) Z28
            rw [hl9]
            rw [hl9] at HK29
            clear ho9 hg9 hk9
            refine hK.out _ _ (trivial) (fun hHeld => ?_)
            clear hK K
            (try simp only [Act.put, nA, nB, nC])
            refine heldTake (i := 6) (d := some 33) (v := ?_) rfl rfl (by kernel_rfl) (by kernel_rfl) (by kernel_rfl) (fun _ _ _ h => h) (by kernel_rfl) ?hyq_8 (by assumption) ?restq_8
            case hyq_8 => (intro W9 hSw; (try dsimp only at hSw); go_simp; try (with_reducible rfl))
            (try simp only [Act.put, nA, nB, nC])
            refine wpAnyH_ready (rs := [7]) (by kernel_rfl) (by simp) ?_
            refine AllReadyH.cons rfl (fun K hK => ?_) AllReadyH.nil
            have ck32 := HK29.out.s.cell (j := 1) (by simp)
            have ck32f := HK29.out.s.frozen 1
            simp only [List.getElem_cons_zero, List.getElem_cons_succ] at ck32
            have HK30 := Lib.hid (RwW.cell (cs' := fun v => [vS, v]) HK29.out 1 (.slice (some ⟨g9, 0, none⟩) (fs.length + 1) c9) (.slice (some ⟨g9, 0, none⟩) (fs.length + 1) c9) rfl)
            go_simp
            obtain ⟨P31, hP9⟩ : ∃ P9, Z28.setCell ⟨gs, 1, none⟩ (.slice (some ⟨g9, 0, none⟩) (fs.length + 1) c9) = P9 := ⟨_, rfl⟩
            rw [hP9] at HK30 ⊢
            clear hP9 ck32 ck32f
            refine hK.out _ _ (trivial) (fun hHeld => ?_)
            clear hK K
            (try simp only [Act.put, nA, nB, nC])
            refine wpAnyH_done (by kernel_rfl) ?_ _
            have HP9 := Lib.hid (PgW.ofF HK30.out (HQ9.out _))
            have HL9 := Lib.hid HP9.out.p.lft
            go_wp2_with fail
            go_roundw
            case rel => exact ⟨m5, _, _, _, _, z9, by omega, Lib.hid (by rw [HE9.out, ← HD9.out]; simp; rfl), HP9⟩
            case measure =>
             have h1 := HL5.out
             have h2 := HL9.out
             omega
      · have HE9 := Lib.hid (HF.out.trans (congrArg (fun q => R.bind q _) hx))
        refine wp_region_held_drew (S := fun W9 => True) (by kernel_rfl) (trivial) (fun hHeld => ?_)
        have HK33 := Lib.hid H6.out.drew
        generalize W5.drew = Wd at *
        refine heldTake (i := 0) (d := some 27) (v := ?_) rfl rfl (by kernel_rfl) (by kernel_rfl) (by kernel_rfl) (fun _ _ _ h => h) (by kernel_rfl) ?hyq_9 (by assumption) ?restq_9
        case hyq_9 => (intro W9 hSw; (try dsimp only at hSw); go_simp; try (with_reducible rfl))
        (try simp only [Act.put, nA, nB, nC])
        refine heldTake (i := 2) (d := some 29) (v := ?_) rfl rfl (by kernel_rfl) (by kernel_rfl) (by kernel_rfl) (fun _ _ _ h => h) (by kernel_rfl) ?hyq_10 (by assumption) ?restq_10
        case hyq_10 => (intro W9 hSw; (try dsimp only at hSw); go_simp; try (with_reducible rfl))
        (try simp only [Act.put, nA, nB, nC])
        refine wpAnyH_ready (rs := [1, 3]) (by kernel_rfl) (by simp) ?_
        refine AllReadyH.cons rfl (fun K hK => ?_) (AllReadyH.cons rfl (fun K hK => ?_) AllReadyH.nil)
        · have ck34 := HK33.out.s.cell (j := 1) (by simp)
          simp only [List.getElem_cons_zero, List.getElem_cons_succ] at ck34
          go_simp
          refine hK.out _ _ (trivial) (fun hHeld => ?_)
          clear hK K
          (try simp only [Act.put, nA, nB, nC])
          clear ck34
          refine wpAnyH_ready (rs := [3]) (by kernel_rfl) (by simp) ?_
          refine AllReadyH.cons rfl (fun K hK => ?_) AllReadyH.nil
          go_simp
          go_at_call 37
          have HC9 := Lib.hid (function_any HK33.out.p)
          rw [hx] at HC9
          refine HC9.out.mono ?_
          clear HC9
          rintro e9 X36 ⟨rfl, hpX, hgX⟩
          have hg9 := grown_trans HK33.out.g hgX
          go_wp2_with fail
          exact ⟨rfl, PrR.bad' HE9.out rfl hpX hg9⟩
        · go_simp
          go_at_call 37
          have HC9 := Lib.hid (function_any HK33.out.p)
          rw [hx] at HC9
          refine HC9.out.mono ?_
          clear HC9
          rintro e9 X38 ⟨rfl, hpX, hgX⟩
          have hg9 := grown_trans HK33.out.g hgX
          go_wp2_with fail
          exact ⟨rfl, PrR.bad' HE9.out rfl hpX hg9⟩
      · exact absurd hx (dcP_out _)
    · have HF := Lib.hid (HR6.out.trans (if_pos (show isW wType u5 = true from hq)))
      have H5d := Lib.hid H4.out.drew
      refine wp_region_held_drew (S := fun W9 => True) (by kernel_rfl) (trivial) (fun hHeld => ?_)
      refine heldTake (i := 0) (d := some 15) (v := ?_) rfl rfl (by kernel_rfl) (by kernel_rfl) (by kernel_rfl) (fun _ _ _ h => h) (by kernel_rfl) ?hyq_11 (by assumption) ?restq_11
      case hyq_11 => (intro W9 hSw; (try dsimp only at hSw); go_simp; try (with_reducible rfl))
      (try simp only [Act.put, nA, nB, nC])
      refine heldTake (i := 1) (d := some 16) (v := ?_) rfl rfl (by kernel_rfl) (by kernel_rfl) (by kernel_rfl) (fun _ _ _ h => h) (by kernel_rfl) ?hyq_12 (by assumption) ?restq_12
      case hyq_12 => (intro W9 hSw; (try dsimp only at hSw); go_simp; try (with_reducible rfl))
      (try simp only [Act.put, nA, nB, nC])
      refine heldTake (i := 2) (d := some 17) (v := ?_) rfl rfl (by kernel_rfl) (by kernel_rfl) (by kernel_rfl) (fun _ _ _ h => h) (by kernel_rfl) ?hyq_13 (by assumption) ?restq_13
      case hyq_13 => (intro W9 hSw; (try dsimp only at hSw); go_simp; try (with_reducible rfl))
      (try simp only [Act.put, nA, nB, nC])
      refine wpAnyH_ready (rs := [3]) (by kernel_rfl) (by simp) ?_
      refine AllReadyH.cons rfl (fun K hK => ?_) AllReadyH.nil
      go_simp
      go_at_call 35
      refine (word_any [116, 121, 112, 101] _).mono ?_
      rintro e9 X ⟨rfl, hbX⟩
      have H5x := Lib.hid (H5d.out.below hbX)
      clear hbX
      go_wp2_with fail
      refine hK.out _ _ trivial (fun hHeld => ?_)
      clear hK K
      (try simp only [Act.put, nA, nB, nC])
      refine wpAnyH_ready (rs := [4]) (by kernel_rfl) (by simp) ?_
      refine AllReadyH.cons rfl (fun K hK => ?_) AllReadyH.nil
      go_simp
      go_at_call 34
      refine (has_any H5x.out.p ⟨3, [116, 121, 112, 101], 0, 0⟩ (by decide)).mono ?_
      rintro e9 Y ⟨rfl, hbY⟩
      have H5 := Lib.hid (H5x.out.below hbY)
      rw [hq]
      clear hbY H5x
      go_wp2_with fail
      refine hK.out _ _ trivial (fun hHeld => ?_)
      clear hK K
      (try simp only [Act.put, nA, nB, nC])
      refine wpAnyH_done (by kernel_rfl) ?_ _
      clear H4 HR6 hq
      have H6 := Lib.hid H5.out.toS
      go_upto_region 3 with fail
      obtain ⟨W5, rfl⟩ : ∃ z, z = Y := ⟨_, rfl⟩
      rcases hx : scP u5 with ⟨s9, z9⟩ | z9 | _
      · have HE9 := Lib.hid (HF.out.trans (congrArg (fun q => R.bind q _) hx))
        have hzl := scP_len hx
        have hl5 : ss.length + 1 + z9.length ≤ l.length := by omega
        have hxl : ss.length ≤ 1000000 := by omega
        have HQ9 := Lib.hid (show ∀ y : ScM, (ss ++ [y]).length + fs.length + z9.length ≤ l.length from fun y => by rw [List.length_append, List.length_singleton]; omega)
        clear HF H5
        refine wp_region_held_drew (S := fun W9 => True) (by kernel_rfl) (trivial) (fun hHeld => ?_)
        have HK39 := Lib.hid H6.out.drew
        generalize W5.drew = Wd at *
        refine heldTake (i := 0) (d := some 20) (v := ?_) rfl rfl (by kernel_rfl) (by kernel_rfl) (by kernel_rfl) (fun _ _ _ h => h) (by kernel_rfl) ?hyq_14 (by assumption) ?restq_14
        case hyq_14 => (intro W9 hSw; (try dsimp only at hSw); go_simp; try (with_reducible rfl))
        (try simp only [Act.put, nA, nB, nC])
        refine heldTake (i := 2) (d := some 22) (v := ?_) rfl rfl (by kernel_rfl) (by kernel_rfl) (by kernel_rfl) (fun _ _ _ h => h) (by kernel_rfl) ?hyq_15 (by assumption) ?restq_15
        case hyq_15 => (intro W9 hSw; (try dsimp only at hSw); go_simp; try (with_reducible rfl))
        (try simp only [Act.put, nA, nB, nC])
        refine wpAnyH_ready (rs := [1, 3]) (by kernel_rfl) (by simp) ?_
        refine AllReadyH.cons rfl (fun K hK => ?_) (AllReadyH.cons rfl (fun K hK => ?_) AllReadyH.nil)
        · have ck40 := HK39.out.s.cell (j := 0) (by simp)
          simp only [List.getElem_cons_zero] at ck40
          go_simp
          refine hK.out _ _ (trivial) (fun hHeld => ?_)
          clear hK K
          (try simp only [Act.put, nA, nB, nC])
          clear ck40
          refine wpAnyH_ready (rs := [3]) (by kernel_rfl) (by simp) ?_
          refine AllReadyH.cons rfl (fun K hK => ?_) AllReadyH.nil
          go_simp
          go_at_call 36
          have HC9 := Lib.hid (structure_any HK39.out.p)
          rw [hx] at HC9
          refine HC9.out.mono ?_
          clear HC9
          rintro e9 X42 ⟨⟨n9, A7, c7, f9⟩, rfl, hd9, ho9, hpX, hgX⟩
          have HD9 := Lib.hid hd9
          have HK41 := Lib.hid (XS1.more (HK39.out.step hpX hgX (by omega)) (ho9.keep (fun _ _ _ => rfl) (fun g q => Nat.le_trans HK39.out.g.size q)))
          clear hpX hgX ho9 hd9
          unfold ScM.cs
          dsimp only
          go_wp2_with fail
          refine hK.out _ _ (trivial) (fun hHeld => ?_)
          clear hK K
          (try simp only [Act.put, nA, nB, nC])
          refine wpAnyH_ready (rs := [4]) (by kernel_rfl) (by simp) ?_
          refine AllReadyH.cons rfl (fun K hK => ?_) AllReadyH.nil
          (try rw [if_pos (by kernel_rfl)])
          refine El.op_build1 eSc X42 24 (.agg #[.string ⟨#[]⟩, .slice none 0 0]) 40 Try.underlying24 sc_info rfl (by decide) (.tmp 23) rfl (.agg #[.string (str n9), .slice A7 f9.length c7]) (ScM.mk n9 A7 c7 f9) rfl rfl ?_
          change K (Act.put _ (some 24) (.slice (some ⟨X42.heap.size, 0, none⟩) 1 1)) (X42.alloc (.cells #[.string (str n9), .slice A7 f9.length c7] 69))
          have hbY := below_lnew X42 (.cells #[.string (str n9), .slice A7 f9.length c7] 69)
          have HB45 := Lib.hid (heap_alloc_new X42 (.cells #[.string (str n9), .slice A7 f9.length c7] 69))
          obtain ⟨Y44, hY⟩ : ∃ Y, X42.alloc (.cells #[.string (str n9), .slice A7 f9.length c7] 69) = Y := ⟨_, rfl⟩
          rw [hY] at hbY HB45 ⊢
          have HK43 := Lib.hid (HK41.out.below hbY)
          clear hY hbY
          refine hK.out _ _ (trivial) (fun hHeld => ?_)
          clear hK K
          (try simp only [Act.put, nA, nB, nC])
          refine wpAnyH_ready (rs := [5]) (by kernel_rfl) (by simp) ?_
          refine AllReadyH.cons rfl (fun K hK => ?_) AllReadyH.nil
          (try rw [if_pos (by kernel_rfl)])
          refine El.op_app1x eSc Y44 24 (.agg #[.string ⟨#[]⟩, .slice none 0 0]) 40 Try.underlying24 sc_info rfl (by decide) (by decide) (.tmp 21) (.tmp 24) rfl w.heap.size vS ss rfl HK43.out.r X42.heap.size 1 (ScM.mk n9 A7 c7 f9) rfl 69 HB45.out hxl HK43.out.g.size ?_
          intro v9 Z46 ho9 hg9 hk9
          obtain ⟨g9, c9, rfl⟩ := El.Own.at0 ho9 (by simp)
          have hl9 : (ss ++ [(ScM.mk n9 A7 c7 f9)]).length = ss.length + 1 := by simp
          have HK47 := Lib.hid (RwW.app (X' := _) HK43.out hg9 ho9 hl5 (HK43.out.kx _ _ (HK43.out.frApp hg9) HK43.out.x) (HK43.out.kx))
          change K (Act.put _ (some 25) (.slice (some ⟨g9, 0, none⟩) (ss ++ [(ScM.mk n9 A7 c7 f9)]).length c9)) Z46
          rw [hl9]
          rw [hl9] at HK47
          clear ho9 hg9 hk9
          refine hK.out _ _ (trivial) (fun hHeld => ?_)
          clear hK K
          (try simp only [Act.put, nA, nB, nC])
          refine heldTake (i := 6) (d := some 26) (v := ?_) rfl rfl (by kernel_rfl) (by kernel_rfl) (by kernel_rfl) (fun _ _ _ h => h) (by kernel_rfl) ?hyq_16 (by assumption) ?restq_16
          case hyq_16 => (intro W9 hSw; (try dsimp only at hSw); go_simp; try (with_reducible rfl))
          (try simp only [Act.put, nA, nB, nC])
          refine wpAnyH_ready (rs := [7]) (by kernel_rfl) (by simp) ?_
          refine AllReadyH.cons rfl (fun K hK => ?_) AllReadyH.nil
          have ck50 := HK47.out.s.cell (j := 0) (by simp)
          have ck50f := HK47.out.s.frozen 0
          simp only [List.getElem_cons_zero] at ck50
          have HK48 := Lib.hid (RwW.cell (cs' := fun v => [v, vF]) HK47.out 0 (.slice (some ⟨g9, 0, none⟩) (ss.length + 1) c9) (.slice (some ⟨g9, 0, none⟩) (ss.length + 1) c9) rfl)
          go_simp
          obtain ⟨P49, hP9⟩ : ∃ P9, Z46.setCell ⟨gs, 0, none⟩ (.slice (some ⟨g9, 0, none⟩) (ss.length + 1) c9) = P9 := ⟨_, rfl⟩
          rw [hP9] at HK48 ⊢
          clear hP9 ck50 ck50f
          refine hK.out _ _ (trivial) (fun hHeld => ?_)
          clear hK K
          (try simp only [Act.put, nA, nB, nC])
          refine wpAnyH_done (by kernel_rfl) ?_ _
          have HP9 := Lib.hid (PgW.ofS HK48.out (HQ9.out _))
          have HL9 := Lib.hid HP9.out.p.lft
          go_wp2_with fail
          go_roundw
          case rel => exact ⟨m5, _, _, _, _, z9, by omega, Lib.hid (by rw [HE9.out, ← HD9.out]; simp; rfl), HP9⟩
          case measure =>
           have h1 := HL5.out
           have h2 := HL9.out
           omega
        · go_simp
          go_at_call 36
          have HC9 := Lib.hid (structure_any HK39.out.p)
          rw [hx] at HC9
          refine HC9.out.mono ?_
          clear HC9
          rintro e9 X52 ⟨⟨n9, A7, c7, f9⟩, rfl, hd9, ho9, hpX, hgX⟩
          have HD9 := Lib.hid hd9
          have HK51 := Lib.hid (XS1.more (HK39.out.step hpX hgX (by omega)) (ho9.keep (fun _ _ _ => rfl) (fun g q => Nat.le_trans HK39.out.g.size q)))
          clear hpX hgX ho9 hd9
          unfold ScM.cs
          dsimp only
          go_wp2_with fail
          refine hK.out _ _ (trivial) (fun hHeld => ?_)
          clear hK K
          (try simp only [Act.put, nA, nB, nC])
          refine wpAnyH_ready (rs := [1, 4]) (by kernel_rfl) (by simp) ?_
          refine AllReadyH.cons rfl (fun K hK => ?_) (AllReadyH.cons rfl (fun K hK => ?_) AllReadyH.nil)
          · have ck53 := HK51.out.s.cell (j := 0) (by simp)
            simp only [List.getElem_cons_zero] at ck53
            go_simp
            refine hK.out _ _ (trivial) (fun hHeld => ?_)
            clear hK K
            (try simp only [Act.put, nA, nB, nC])
            clear ck53
            refine wpAnyH_ready (rs := [4]) (by kernel_rfl) (by simp) ?_
            refine AllReadyH.cons rfl (fun K hK => ?_) AllReadyH.nil
            (try rw [if_pos (by kernel_rfl)])
            refine El.op_build1 eSc X52 24 (.agg #[.string ⟨#[]⟩, .slice none 0 0]) 40 Try.underlying24 sc_info rfl (by decide) (.tmp 23) rfl (.agg #[.string (str n9), .slice A7 f9.length c7]) (ScM.mk n9 A7 c7 f9) rfl rfl ?_
            change K (Act.put _ (some 24) (.slice (some ⟨X52.heap.size, 0, none⟩) 1 1)) (X52.alloc (.cells #[.string (str n9), .slice A7 f9.length c7] 69))
            have hbY := below_lnew X52 (.cells #[.string (str n9), .slice A7 f9.length c7] 69)
            have HB56 := Lib.hid (heap_alloc_new X52 (.cells #[.string (str n9), .slice A7 f9.length c7] 69))
            obtain ⟨Y55, hY⟩ : ∃ Y, X52.alloc (.cells #[.string (str n9), .slice A7 f9.length c7] 69) = Y := ⟨_, rfl⟩
            rw [hY] at hbY HB56 ⊢
            have HK54 := Lib.hid (HK51.out.below hbY)
            clear hY hbY
            refine hK.out _ _ (trivial) (fun hHeld => ?_)
            clear hK K
            (try simp only [Act.put, nA, nB, nC])
            refine wpAnyH_ready (rs := [5]) (by kernel_rfl) (by simp) ?_
            refine AllReadyH.cons rfl (fun K hK => ?_) AllReadyH.nil
            (try rw [if_pos (by kernel_rfl)])
            refine El.op_app1x eSc Y55 24 (.agg #[.string ⟨#[]⟩, .slice none 0 0]) 40 Try.underlying24 sc_info rfl (by decide) (by decide) (.tmp 21) (.tmp 24) rfl w.heap.size vS ss rfl HK54.out.r X52.heap.size 1 (ScM.mk n9 A7 c7 f9) rfl 69 HB56.out hxl HK54.out.g.size ?_
            intro v9 Z57 ho9 hg9 hk9
            obtain ⟨g9, c9, rfl⟩ := El.Own.at0 ho9 (by simp)
            have hl9 : (ss ++ [(ScM.mk n9 A7 c7 f9)]).length = ss.length + 1 := by simp
            have HK58 := Lib.hid (RwW.app (X' := _) HK54.out hg9 ho9 hl5 (HK54.out.kx _ _ (HK54.out.frApp hg9) HK54.out.x) (HK54.out.kx))
            change K (Act.put _ (some 25) (.slice (some ⟨g9, 0, none⟩) (ss ++ [(ScM.mk n9 A7 c7 f9)]).length c9)) Z57
            rw [hl9]
            rw [hl9] at HK58
            clear ho9 hg9 hk9
            refine hK.out _ _ (trivial) (fun hHeld => ?_)
            clear hK K
            (try simp only [Act.put, nA, nB, nC])
            refine heldTake (i := 6) (d := some 26) (v := ?_) rfl rfl (by kernel_rfl) (by kernel_rfl) (by kernel_rfl) (fun _ _ _ h => h) (by kernel_rfl) ?hyq_17 (by assumption) ?restq_17
            case hyq_17 => (intro W9 hSw; (try dsimp only at hSw); go_simp; try (with_reducible rfl))
            (try simp only [Act.put, nA, nB, nC])
            refine wpAnyH_ready (rs := [7]) (by kernel_rfl) (by simp) ?_
            refine AllReadyH.cons rfl (fun K hK => ?_) AllReadyH.nil
            have ck61 := HK58.out.s.cell (j := 0) (by simp)
            have ck61f := HK58.out.s.frozen 0
            simp only [List.getElem_cons_zero] at ck61
            have HK59 := Lib.hid (RwW.cell (cs' := fun v => [v, vF]) HK58.out 0 (.slice (some ⟨g9, 0, none⟩) (ss.length + 1) c9) (.slice (some ⟨g9, 0, none⟩) (ss.length + 1) c9) rfl)
            go_simp
            obtain ⟨P60, hP9⟩ : ∃ P9, Z57.setCell ⟨gs, 0, none⟩ (.slice (some ⟨g9, 0, none⟩) (ss.length + 1) c9) = P9 := ⟨_, rfl⟩
            rw [hP9] at HK59 ⊢
            clear hP9 ck61 ck61f
            refine hK.out _ _ (trivial) (fun hHeld => ?_)
            clear hK K
            (try simp only [Act.put, nA, nB, nC])
            refine wpAnyH_done (by kernel_rfl) ?_ _
            have HP9 := Lib.hid (PgW.ofS HK59.out (HQ9.out _))
            have HL9 := Lib.hid HP9.out.p.lft
            go_wp2_with fail
            go_roundw
            case rel => exact ⟨m5, _, _, _, _, z9, by omega, Lib.hid (by rw [HE9.out, ← HD9.out]; simp; rfl), HP9⟩
            case measure =>
             have h1 := HL5.out
             have h2 := HL9.out
             omega
          · (try rw [if_pos (by kernel_rfl)])
            refine El.op_build1 eSc X52 24 (.agg #[.string ⟨#[]⟩, .slice none 0 0]) 40 Try.underlying24 sc_info rfl (by decide) (.tmp 23) rfl (.agg #[.string (str n9), .slice A7 f9.length c7]) (ScM.mk n9 A7 c7 f9) rfl rfl ?_
            change K (Act.put _ (some 24) (.slice (some ⟨X52.heap.size, 0, none⟩) 1 1)) (X52.alloc (.cells #[.string (str n9), .slice A7 f9.length c7] 69))
            have hbY := below_lnew X52 (.cells #[.string (str n9), .slice A7 f9.length c7] 69)
            have HB64 := Lib.hid (heap_alloc_new X52 (.cells #[.string (str n9), .slice A7 f9.length c7] 69))
            obtain ⟨Y63, hY⟩ : ∃ Y, X52.alloc (.cells #[.string (str n9), .slice A7 f9.length c7] 69) = Y := ⟨_, rfl⟩
            rw [hY] at hbY HB64 ⊢
            have HK62 := Lib.hid (HK51.out.below hbY)
            clear hY hbY
            refine hK.out _ _ (trivial) (fun hHeld => ?_)
            clear hK K
            (try simp only [Act.put, nA, nB, nC])
            refine wpAnyH_ready (rs := [1]) (by kernel_rfl) (by simp) ?_
            refine AllReadyH.cons rfl (fun K hK => ?_) AllReadyH.nil
            have ck65 := HK62.out.s.cell (j := 0) (by simp)
            simp only [List.getElem_cons_zero] at ck65
            go_simp
            refine hK.out _ _ (trivial) (fun hHeld => ?_)
            clear hK K
            (try simp only [Act.put, nA, nB, nC])
            clear ck65
            refine wpAnyH_ready (rs := [5]) (by kernel_rfl) (by simp) ?_
            refine AllReadyH.cons rfl (fun K hK => ?_) AllReadyH.nil
            (try rw [if_pos (by kernel_rfl)])
            refine El.op_app1x eSc Y63 24 (.agg #[.string ⟨#[]⟩, .slice none 0 0]) 40 Try.underlying24 sc_info rfl (by decide) (by decide) (.tmp 21) (.tmp 24) rfl w.heap.size vS ss rfl HK62.out.r X52.heap.size 1 (ScM.mk n9 A7 c7 f9) rfl 69 HB64.out hxl HK62.out.g.size ?_
            intro v9 Z66 ho9 hg9 hk9
            obtain ⟨g9, c9, rfl⟩ := El.Own.at0 ho9 (by simp)
            have hl9 : (ss ++ [(ScM.mk n9 A7 c7 f9)]).length = ss.length + 1 := by simp
            have HK67 := Lib.hid (RwW.app (X' := _) HK62.out hg9 ho9 hl5 (HK62.out.kx _ _ (HK62.out.frApp hg9) HK62.out.x) (HK62.out.kx))
            change K (Act.put _ (some 25) (.slice (some ⟨g9, 0, none⟩) (ss ++ [(ScM.mk n9 A7 c7 f9)]).length c9)) Z66
            rw [hl9]
            rw [hl9] at HK67
            clear ho9 hg9 hk9
            refine hK.out _ _ (trivial) (fun hHeld => ?_)
            clear hK K
            (try simp only [Act.put, nA, nB, nC])
            refine heldTake (i := 6) (d := some 26) (v := ?_) rfl rfl (by kernel_rfl) (by kernel_rfl) (by kernel_rfl) (fun _ _ _ h => h) (by kernel_rfl) ?hyq_18 (by assumption) ?restq_18
            case hyq_18 => (intro W9 hSw; (try dsimp only at hSw); go_simp; try (with_reducible rfl))
            (try simp only [Act.put, nA, nB, nC])
            refine wpAnyH_ready (rs := [7]) (by kernel_rfl) (by simp) ?_
            refine AllReadyH.cons rfl (fun K hK => ?_) AllReadyH.nil
            have ck70 := HK67.out.s.cell (j := 0) (by simp)
            have ck70f := HK67.out.s.frozen 0
            simp only [List.getElem_cons_zero] at ck70
            have HK68 := Lib.hid (RwW.cell (cs' := fun v => [v, vF]) HK67.out 0 (.slice (some ⟨g9, 0, none⟩) (ss.length + 1) c9) (.slice (some ⟨g9, 0, none⟩) (ss.length + 1) c9) rfl)
            go_simp
            obtain ⟨P69, hP9⟩ : ∃ P9, Z66.setCell ⟨gs, 0, none⟩ (.slice (some ⟨g9, 0, none⟩) (ss.length + 1) c9) = P9 := ⟨_, rfl⟩
            rw [hP9] at HK68 ⊢
            clear hP9 ck70 ck70f
            refine hK.out _ _ (trivial) (fun hHeld => ?_)
            clear hK K
            (try simp only [Act.put, nA, nB, nC])
            refine wpAnyH_done (by kernel_rfl) ?_ _
            have HP9 := Lib.hid (PgW.ofS HK68.out (HQ9.out _))
            have HL9 := Lib.hid HP9.out.p.lft
            go_wp2_with fail
            go_roundw
            case rel => exact ⟨m5, _, _, _, _, z9, by omega, Lib.hid (by rw [HE9.out, ← HD9.out]; simp; rfl), HP9⟩
            case measure =>
             have h1 := HL5.out
             have h2 := HL9.out
             omega
      · have HE9 := Lib.hid (HF.out.trans (congrArg (fun q => R.bind q _) hx))
        refine wp_region_held_drew (S := fun W9 => True) (by kernel_rfl) (trivial) (fun hHeld => ?_)
        have HK71 := Lib.hid H6.out.drew
        generalize W5.drew = Wd at *
        refine heldTake (i := 0) (d := some 20) (v := ?_) rfl rfl (by kernel_rfl) (by kernel_rfl) (by kernel_rfl) (fun _ _ _ h => h) (by kernel_rfl) ?hyq_19 (by assumption) ?restq_19
        case hyq_19 => (intro W9 hSw; (try dsimp only at hSw); go_simp; try (with_reducible rfl))
        (try simp only [Act.put, nA, nB, nC])
        refine heldTake (i := 2) (d := some 22) (v := ?_) rfl rfl (by kernel_rfl) (by kernel_rfl) (by kernel_rfl) (fun _ _ _ h => h) (by kernel_rfl) ?hyq_20 (by assumption) ?restq_20
        case hyq_20 => (intro W9 hSw; (try dsimp only at hSw); go_simp; try (with_reducible rfl))
        (try simp only [Act.put, nA, nB, nC])
        refine wpAnyH_ready (rs := [1, 3]) (by kernel_rfl) (by simp) ?_
        refine AllReadyH.cons rfl (fun K hK => ?_) (AllReadyH.cons rfl (fun K hK => ?_) AllReadyH.nil)
        · have ck72 := HK71.out.s.cell (j := 0) (by simp)
          simp only [List.getElem_cons_zero] at ck72
          go_simp
          refine hK.out _ _ (trivial) (fun hHeld => ?_)
          clear hK K
          (try simp only [Act.put, nA, nB, nC])
          clear ck72
          refine wpAnyH_ready (rs := [3]) (by kernel_rfl) (by simp) ?_
          refine AllReadyH.cons rfl (fun K hK => ?_) AllReadyH.nil
          go_simp
          go_at_call 36
          have HC9 := Lib.hid (structure_any HK71.out.p)
          rw [hx] at HC9
          refine HC9.out.mono ?_
          clear HC9
          rintro e9 X74 ⟨rfl, hpX, hgX⟩
          have hg9 := grown_trans HK71.out.g hgX
          go_wp2_with fail
          exact ⟨rfl, PrR.bad' HE9.out rfl hpX hg9⟩
        · go_simp
          go_at_call 36
          have HC9 := Lib.hid (structure_any HK71.out.p)
          rw [hx] at HC9
          refine HC9.out.mono ?_
          clear HC9
          rintro e9 X76 ⟨rfl, hpX, hgX⟩
          have hg9 := grown_trans HK71.out.g hgX
          go_wp2_with fail
          exact ⟨rfl, PrR.bad' HE9.out rfl hpX hg9⟩
      · exact absurd hx (scP_out _)
  · obtain rfl : u5 = [] := by rw [HU5.out]; exact List.drop_eq_nil_of_le (by omega)
    have HE := Lib.hid (show r = .ok ⟨ss.map ScM.d, fs.map DcM.d⟩ [] from by rw [HR5.out, pgP, if_pos rfl])
    have hki : ¬ ((k5 : Int) < (l.length : Int)) := by omega
    go_wp2_with fail
    go_quiet (fail)
    have H4 := Lib.hid (HW5.out.below (below_draws nq))
    clear HR5 HW5 p0 p1 HU5
    obtain ⟨A1, c1, hv1, _⟩ := H4.out.rS.rowP
    obtain ⟨A2, c2, hv2, _⟩ := H4.out.rF.rowP
    subst hv1 hv2
    have q0 := H4.out.s.cell (j := 0) (by simp)
    have qf0 := H4.out.s.frozen 0
    have q1 := H4.out.s.cell (j := 1) (by simp)
    have qf1 := H4.out.s.frozen 1
    simp only [List.getElem_cons_zero, List.getElem_cons_succ] at q0 q1
    go_wp2_with fail
    exact pg_end (W := w5.drewN nq) (gs := gs) (ss := ss) (fs := fs) (A1 := A1) (A2 := A2) (c1 := c1) (c2 := c2) rfl rfl H4.out HE.out
end
end Go.Proofs.Ytjllbacefbjjaaa
