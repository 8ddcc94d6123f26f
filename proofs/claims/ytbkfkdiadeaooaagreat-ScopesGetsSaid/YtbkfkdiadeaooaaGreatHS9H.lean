/-
  Merged for a claim: S9H.
-/
import Derived.Test.YtbkfkdiadeaooaaGreatHJ12
import Derived.Test.YtbkfkdiadeaooaaGreatHL7L
namespace Go.Proofs.YtbkfkdiadeaooaaGreat
open Go Go.RowKit

theorem namF_none {vs : List Vr} {nm : List UInt8} : ∀ {l : List Int} (s : Int × Bool), (∀ x ∈ l, goB vs nm x = false) → namF vs nm l s = s
  | [], s, _ => rfl
  | x :: l, s, h => by
    have e : namF vs nm (x :: l) s = namF vs nm l (if goB vs nm x = true then (x, true) else s) := rfl
    rw [e, h x List.mem_cons_self]
    exact namF_none s (fun y hy => h y (List.mem_cons_of_mem _ hy))
theorem namF_app {vs : List Vr} {nm : List UInt8} : ∀ {l l2 : List Int} (s : Int × Bool), namF vs nm (l ++ l2) s = namF vs nm l2 (namF vs nm l s)
  | [], _, _ => rfl
  | _ :: l, l2, _ => namF_app (l := l) (l2 := l2) _
theorem bwd_none {vs : List Vr} {nm : List UInt8} {sc : List Int} (h : ∀ q ∈ bwd sc, goB vs nm q.2 = false) : namF vs nm sc (0, false) = (0, false) := by
  refine namF_none _ fun x hx => ?_
  obtain ⟨j, hj, rfl⟩ := List.getElem_of_mem hx
  have hb := bwd_at (l := sc) (k := sc.length - 1 - j) (by omega)
  have := h _ (List.mem_of_getElem? hb)
  have e : sc[sc.length - 1 - (sc.length - 1 - j)]'(by omega) = sc[j] := by congr 1; omega
  rw [← e]
  exact this
theorem bwd_found {vs : List Vr} {nm : List UInt8} {sc : List Int} {pre : List (Nat × Int)} {q : Nat × Int} (hn : Nxt (bwd sc) pre q) (h : ∀ p ∈ pre, goB vs nm p.2 = false) (hq : goB vs nm q.2 = true) : namF vs nm sc (0, false) = (q.2, true) := by
  obtain ⟨k, rfl, hk⟩ := hn
  have hkl : k < sc.length := by rw [← bwd_len sc]; exact (List.getElem?_eq_some_iff.1 hk).1
  rw [bwd_at hkl] at hk
  injection hk with hk
  subst hk
  have hs : sc = sc.take (sc.length - 1 - k) ++ (sc[sc.length - 1 - k]'(by omega) :: sc.drop (sc.length - 1 - k + 1)) := by
    rw [← List.drop_eq_getElem_cons (by omega), List.take_append_drop]
  have hd : ∀ x ∈ sc.drop (sc.length - 1 - k + 1), goB vs nm x = false := fun x hx => by
    obtain ⟨j, hj, rfl⟩ := List.getElem_of_mem hx
    rw [List.getElem_drop]
    have hjl : j < k := by rw [List.length_drop] at hj; omega
    have hb := bwd_at (l := sc) (k := k - 1 - j) (by omega)
    have hm : (sc.length - 1 - (k - 1 - j), sc[sc.length - 1 - (k - 1 - j)]'(by omega)) ∈ (bwd sc).take k := by
      refine List.mem_of_getElem? (i := k - 1 - j) ?_
      rw [List.getElem?_take, if_pos (by omega)]
      exact hb
    have := h _ hm
    have e : sc[sc.length - 1 - (k - 1 - j)]'(by omega) = sc[sc.length - 1 - k + 1 + j]'(by omega) := by congr 1; omega
    rw [← e]
    exact this
  have e : namF vs nm sc (0, false) = namF vs nm (sc.take (sc.length - 1 - k) ++ (sc[sc.length - 1 - k]'(by omega) :: sc.drop (sc.length - 1 - k + 1))) (0, false) := congrArg (fun l => namF vs nm l (0, false)) hs
  rw [e, namF_app]
  show namF vs nm _ (if goB vs nm _ = true then _ else _) = _
  rw [if_pos hq]
  exact namF_none _ hd
theorem res_ib {fn : Func} {p u : Tmp} (h : fn.results = #[.cell p 3, .cell u 4]) (tmps : Array Value) (w : World) (g g2 : Nat) (x y : Value) (hp : tmps.getD p undef = .pointer (some ⟨g, 0, none⟩)) (hp2 : tmps.getD u undef = .pointer (some ⟨g2, 0, none⟩))
    (hc : Boxed w g 3 x) (hc2 : Boxed w g2 4 y) : (results fn tmps).run Tryz.prog w = .ok (.tuple #[x, y]) w := by
  have hp' : tmps[p]?.getD undef = .pointer (some ⟨g, 0, none⟩) := by simpa using hp
  have hp2' : tmps[u]?.getD undef = .pointer (some ⟨g2, 0, none⟩) := by simpa using hp2
  simp [results, h, hp', hp2', asAddr, run_loadVar_int Tryz.underlying3 hc.cell, run_loadVar_bool Tryz.underlying4 hc2.cell]
def AllNo (vs : List Vr) (nm : List UInt8) (pre : List (Nat × Int)) : Prop := ∀ q ∈ pre, goB vs nm q.2 = false
theorem AllNo.more {vs : List Vr} {nm : List UInt8} {pre : List (Nat × Int)} {q : Nat × Int} (h : AllNo vs nm pre) (hq : goB vs nm q.2 = false) : AllNo vs nm (pre ++ [q]) := fun p hp =>
  (List.mem_append.1 hp).elim (h p) (fun e => by rw [List.mem_singleton] at e; rw [e]; exact hq)
/-- the two results' boxes -/
theorem two_boxes (w : World) (o0 : Obj) : let W := ((w.alloc o0).alloc (.cells #[.int .i64 0] 3)).alloc (.cells #[.bool false] 4)
    Boxed W (w.heap.size + 1) 3 (.int .i64 0) ∧ Boxed W (w.heap.size + 2) 4 (.bool false) ∧ Below w.heap.size w W := by
  have h1 := (Boxed.new (w.alloc o0) 3 (.int .i64 0)).alloc (.cells #[.bool false] 4)
  have h2 := Boxed.new ((w.alloc o0).alloc (.cells #[.int .i64 0] 3)) 4 (.bool false)
  simp only [World.size_alloc] at h1 h2
  exact ⟨h1, h2, ((below_lnew w o0).alloc (by simp) _).alloc (by simp; omega) _⟩

attribute [local go_sem] Oper.semAt_some wideFn wideDepth
set_option maxRecDepth 100000 in
set_option maxHeartbeats 8000000 in
theorem named9_any (A A2 : Option Addr) (c c2 : Nat) (ps : List Pp) (qs : List Pq) (pt : Int) (nm : List UInt8) (w : World) (hs : ∀ q ∈ qs, q.d.sc.length ≤ 1099511627776) (h : TL w w.heap.size A ps) (h2 : UL w w.heap.size A2 qs) :
    Calls Tryz.prog 14 #[.slice A ps.length c, .slice A2 qs.length c2, .int .i64 pt, .string (str nm)] w (InR (nmd (ps.map Pp.d) (qs.map Pq.d) pt nm) w) := by
  refine calls_loop Tryz.func14 rfl ?_
  simp only [Tryz.ntmps14, List.size_toArray, List.length_cons, List.length_nil, Nat.reduceAdd, Nat.reduceSub, Array.replicate_succ, Array.replicate_zero, List.push_toArray, List.append_toArray, List.nil_append, List.cons_append]
  obtain ⟨r, hr0⟩ : ∃ r, nmd (ps.map Pp.d) (qs.map Pq.d) pt nm = r := ⟨_, rfl⟩
  have HR := Lib.hid hr0
  rw [hr0]
  clear hr0
  obtain ⟨b1, b2, hB0⟩ := two_boxes w (.cells #[.string (str nm)] 9)
  have b7 := ((Boxed.new w 9 (.string (str nm))).alloc (.cells #[.int .i64 0] 3)).alloc (.cells #[.bool false] 4)
  go_upto_region 1 with fail
  obtain ⟨W, hW⟩ : ∃ W, W = ((w.alloc (.cells #[.string (str nm)] 9)).alloc (.cells #[.int .i64 0] 3)).alloc (.cells #[.bool false] 4) := ⟨_, rfl⟩
  have HWz : Hid (W.heap.size = w.heap.size + 3) := Lib.hid (by rw [hW]; simp)
  rw [← hW] at b1 b2 b7 hB0 ⊢
  have B1 := Lib.hid b1
  have B2 := Lib.hid b2
  have B7 := Lib.hid b7
  have HB0 := Lib.hid hB0
  have k1c := b1.cell
  have k1f := b1.frozen
  have k2c := b2.cell
  have k2f := b2.frozen
  clear b1 b2 b7 hB0 hW
  by_cases h0 : pt < 0
  · have HX := Lib.hid (show r = (0, false) by rw [← HR.out, nmd_neg h0])
    clear h h2 hs
    go_wp2_with fail
    exact ret_plain rfl (res_ib rfl _ _ (w.heap.size + 1) (w.heap.size + 2) _ _ rfl rfl ((Boxed.set (.int .i64 0) B1.out).other (by omega) _) (Boxed.set (.bool false) (B2.out.other (by omega) _))) ⟨by rw [HX.out], (HB0.out.setCell (p := ⟨w.heap.size + 1, 0, none⟩) (by dsimp only; omega) _).setCell (p := ⟨w.heap.size + 2, 0, none⟩) (by dsimp only; omega) _⟩
  by_cases h1 : (qs.length : Int) ≤ pt
  · have HX := Lib.hid (show r = (0, false) by rw [← HR.out, nmd_far (by omega) (by simpa using h1)])
    have h0i : 0 ≤ pt := by omega
    clear h h2 hs
    go_wp2_with fail
    exact ret_plain rfl (res_ib rfl _ _ (w.heap.size + 1) (w.heap.size + 2) _ _ rfl rfl ((Boxed.set (.int .i64 0) B1.out).other (by omega) _) (Boxed.set (.bool false) (B2.out.other (by omega) _))) ⟨by rw [HX.out], (HB0.out.setCell (p := ⟨w.heap.size + 1, 0, none⟩) (by dsimp only; omega) _).setCell (p := ⟨w.heap.size + 2, 0, none⟩) (by dsimp only; omega) _⟩
  obtain ⟨j, rfl⟩ : ∃ n : Nat, pt = (n : Int) := ⟨pt.toNat, by omega⟩
  have hj : j < qs.length := by omega
  have HR1 := Lib.hid (HR.out.symm.trans (nmd_at (by simpa using hj)))
  simp only [List.getElem_map] at HR1
  have HTW := Lib.hid h
  obtain ⟨g, o, rfl, hg, x0, x1, x2⟩ := eQ_at (h2.below HB0.out).1 hj
  have HQ := Lib.hid (((h2.below HB0.out).2 _ (List.getElem_mem hj)))
  have HQN := Lib.hid (hs _ (List.getElem_mem hj))
  have hji : (j : Int) < qs.length := by omega
  have HTL := Lib.hid (h.below HB0.out)
  clear hs h2 h
  generalize qs[j] = q at *
  have hw3 := below_lnew W (.cells (qK q) 55)
  have hp3 := heap_alloc_new W (.cells (qK q) 55)
  obtain ⟨⟨fn, ln, sc⟩, qA, qc⟩ := q
  unfold qK at hw3 hp3
  dsimp only at HQN x0 x1 x2 hw3 hp3 HR1
  go_upto_region 4 with fail
  obtain ⟨V, hV⟩ : ∃ V, V = W.alloc (.cells #[.int .i64 fn, .int .i64 ln, .slice qA sc.length qc] 55) := ⟨_, rfl⟩
  have HVz : Hid (V.heap.size = W.heap.size + 1) := Lib.hid (by rw [hV]; simp)
  rw [← hV] at hw3 hp3 ⊢
  have z0 : V.cell? ⟨W.heap.size, 0, none⟩ = some (.int .i64 fn) := by simp [World.cell?, hp3]
  have z2 : V.cell? ⟨W.heap.size, 2, none⟩ = some (.slice qA sc.length qc) := by simp [World.cell?, hp3]
  have HB3 := Lib.hid (HB0.out.trans (hw3.mono HB0.out.size))
  have c1 := Boxed.below B1.out hw3 (by rw [HWz.out]; omega)
  have c2 := Boxed.below B2.out hw3 (by rw [HWz.out]; omega)
  have c7 := Boxed.below B7.out hw3 (by rw [HWz.out]; omega)
  have k1c := c1.cell
  have k1f := c1.frozen
  have k2c := c2.cell
  have k2f := c2.frozen
  have C1 := Lib.hid c1
  have C2 := Lib.hid c2
  have C7 := Lib.hid c7
  have HTV := Lib.hid (HTL.out.below (hw3.mono HB0.out.size))
  have HSL := Lib.hid (HQ.out.1.below (hw3.mono HB0.out.size))
  dsimp only at HSL
  have hsn := HQN.out
  clear hV c1 c2 c7 x0 x1 x2 hw3 hp3 HTL HQ B1 B2 B7
  by_cases q1 : fn < 0
  · have HX := Lib.hid (show r = (0, false) by rw [HR1.out, if_pos q1])
    go_wp2_with fail
    exact ret_plain rfl (res_ib rfl _ _ (w.heap.size + 1) (w.heap.size + 2) _ _ rfl rfl ((Boxed.set (.int .i64 0) C1.out).other (by omega) _) (Boxed.set (.bool false) (C2.out.other (by omega) _))) ⟨by rw [HX.out], (HB3.out.setCell (p := ⟨w.heap.size + 1, 0, none⟩) (by dsimp only; omega) _).setCell (p := ⟨w.heap.size + 2, 0, none⟩) (by dsimp only; omega) _⟩
  rw [if_neg q1] at HR1
  by_cases q2 : (ps.length : Int) ≤ fn
  · have HX := Lib.hid (show r = (0, false) by rw [HR1.out, List.getElem?_eq_none (by simp; omega)])
    go_wp2_with fail
    exact ret_plain rfl (res_ib rfl _ _ (w.heap.size + 1) (w.heap.size + 2) _ _ rfl rfl ((Boxed.set (.int .i64 0) C1.out).other (by omega) _) (Boxed.set (.bool false) (C2.out.other (by omega) _))) ⟨by rw [HX.out], (HB3.out.setCell (p := ⟨w.heap.size + 1, 0, none⟩) (by dsimp only; omega) _).setCell (p := ⟨w.heap.size + 2, 0, none⟩) (by dsimp only; omega) _⟩
  obtain ⟨f, rfl⟩ : ∃ n : Nat, fn = (n : Int) := ⟨fn.toNat, by omega⟩
  have hf : f < ps.length := by omega
  have hfi : (f : Int) < ps.length := by omega
  rw [Int.toNat_natCast, List.getElem?_eq_getElem (by simpa using hf), List.getElem_map] at HR1
  obtain ⟨gp, op, rfl, hgp, _, _, _, y3, _⟩ := eL_at HTV.out.1 hf
  have HV := Lib.hid (HTV.out.2 _ (List.getElem_mem hf)).v
  have HV0 := Lib.hid (HTW.out.2 _ (List.getElem_mem hf)).v
  clear HTW
  clear HTV
  generalize ps[f] = pp at *
  obtain ⟨pnm, pfr, ptt, vs, vA, vc, pss, psA, psc⟩ := pp
  dsimp only [Pp.d] at y3 HV HV0 HR1
  have hw4 := (Below.refl V.heap.size V).alloc (Nat.le_refl _) (.cells #[.slice vA vs.length vc] 46)
  have b4 := Boxed.new V 46 (.slice vA vs.length vc)
  go_upto_region 7 with fail
  obtain ⟨U, hU⟩ : ∃ U, U = V.alloc (.cells #[.slice vA vs.length vc] 46) := ⟨_, rfl⟩
  have HUz : Hid (U.heap.size = V.heap.size + 1) := Lib.hid (by rw [hU]; simp)
  rw [← hU] at hw4 b4 ⊢
  have z2u := (hw4.cell (p := ⟨W.heap.size, 2, none⟩) (by dsimp only; have := HVz.out; omega)).trans z2
  have hz4 := hw4.size
  have d1 := (Boxed.below C1.out hw4 (by have := HVz.out; have := HWz.out; omega))
  have d2 := (Boxed.below C2.out hw4 (by have := HVz.out; have := HWz.out; omega))
  have d7 := (Boxed.below C7.out hw4 (by have := HVz.out; have := HWz.out; omega))
  have hB4 := HB3.out.trans (hw4.mono HB3.out.size)
  clear hU z0 z2 y3 k1c k1f k2c k2f
  go_wp2_with fail
  refine (backward_any qA _ qc _).mono ?_
  rintro e w1 ⟨rfl, rfl⟩
  have hw5 := below_lnew U (.cells #[.slice qA sc.length qc] 53)
  have b5 := Boxed.new U 53 (.slice qA sc.length qc)
  obtain ⟨X, hX⟩ : ∃ X, X = U.alloc (.cells #[.slice qA sc.length qc] 53) := ⟨_, rfl⟩
  have HXz : Hid (X.heap.size = U.heap.size + 1) := Lib.hid (by rw [hX]; simp)
  rw [← hX] at hw5 b5 ⊢
  have D1 := Lib.hid (Boxed.below d1 hw5 (by have := HVz.out; have := HWz.out; have := HUz.out; omega))
  have D2 := Lib.hid (Boxed.below d2 hw5 (by have := HVz.out; have := HWz.out; have := HUz.out; omega))
  have D7 := Lib.hid (Boxed.below d7 hw5 (by have := HVz.out; have := HWz.out; have := HUz.out; omega))
  have D4 := Lib.hid (Boxed.below b4 hw5 (by have := HUz.out; omega))
  have hB5 := hB4.trans (hw5.mono hB4.size)
  have HB5 := Lib.hid hB5
  have HSX := Lib.hid ((HSL.out.below ((hw4.trans (hw5.mono hz4)).mono HB3.out.size)).more hB5.size)
  have HVX := Lib.hid (HV.out.below ((hw4.trans (hw5.mono hz4)).mono HB3.out.size))
  have hc5 := b5.cell
  have hmix : Tryz.prog.follows .mixedOrders = true := by kernel_rfl
  clear hX d1 d2 d7 b4 b5 hw4 hw5 hB4 z2u C1 C2 C7 HV HSL
  go_wp2_with fail
  refine range_wp (gf := 55) (lb := #[.pointer (some ⟨U.heap.size, 0, none⟩)]) rfl (run_enterC Tryz.func55 (by kernel_rfl) (by kernel_rfl))
    (backward_seq U.heap.size X.heap.size qc qA sc X (by have := HXz.out; omega) hc5 (by have := HXz.out; omega) HSX.out (Nat.le_refl _) hsn) (fun _ => rfl) (fun _ q => q.elim) (fun k q => .inl (by omega))
    (fun pre Y => (((Boxed Y (w.heap.size + 1) 3 (.int .i64 0) ∧ Boxed Y (w.heap.size + 2) 4 (.bool false)) ∧ (Boxed Y w.heap.size 9 (.string (str nm)) ∧ Boxed Y V.heap.size 46 (.slice vA vs.length vc))) ∧ Below w.heap.size w Y) ∧ AllNo (vs.map Pv.d) nm pre)
    (fun c pre Y => ∃ k : Int, ((Boxed Y (w.heap.size + 1) 3 (.int .i64 k) ∧ Boxed Y (w.heap.size + 2) 4 (.bool true)) ∧ Below w.heap.size w Y) ∧ (c = .ret ∧ r = (k, true)))
    (fun s => ((((stays_boxed (fun q => q)).and (stays_boxed (fun q => q))).and ((stays_boxed (fun q => q)).and (stays_boxed (fun q => q)))).and (stays_below (Nat.le_refl _) (fun _ q => q.elim) hB5.size)).and (stays_pure _))
    (fun c s A C hl ⟨k, h⟩ => ⟨k, ((((stays_boxed (fun q => q)).and (stays_boxed (fun q => q))).and (stays_below (Nat.le_refl _) (fun _ q => q.elim) hB5.size)).and (stays_pure _)) A C hl h⟩)
    ⟨⟨⟨⟨D1.out, D2.out⟩, D7.out, D4.out⟩, HB5.out⟩, fun _ q => absurd q (by simp)⟩ ?round ?done ?stop
  case round =>
    rintro l pre q Wr Y hzr _ hle ⟨⟨⟨⟨hb1, hb2⟩, hb7, hb4⟩, hbel⟩, hall⟩ hnx
    obtain ⟨qi, qk⟩ := q
    unfold encB
    gi_wp2
    refine ⟨Nocs.refl _, Same.refl _, fun Y2 hl2 hs2 hz2 => ?_⟩
    have e1 := Boxed.lets hb1 (hl2 (fun _ => False)) (fun q => q)
    have e2 := Boxed.lets hb2 (hl2 (fun _ => False)) (fun q => q)
    have e7 := Boxed.lets hb7 (hl2 (fun _ => False)) (fun q => q)
    have e4 := Boxed.lets hb4 (hl2 (fun _ => False)) (fun q => q)
    have hB2 := (hl2 (fun _ => False)).below hbel (Nat.le_refl _) (fun _ q => q.elim) (by have := hB5.size; omega)
    have E1 := Lib.hid e1
    have E2 := Lib.hid e2
    have E7 := Lib.hid e7
    have E4 := Lib.hid e4
    have HB2 := Lib.hid hB2
    have HNX := Lib.hid hnx
    have HALL := Lib.hid hall
    have HS2 := Lib.hid hs2
    have hcV := e4.cell
    have hc7 := e7.cell
    have k1c := e1.cell
    have k1f := e1.frozen
    have k2c := e2.cell
    have k2f := e2.frozen
    clear e1 e2 e7 e4 hB2 hb1 hb2 hb7 hb4 hbel hl2 hnx hall hs2 hle
    have hbd : Below Y2.heap.size Y2 Y2.drew := (Below.refl _ _).drew
    by_cases t1 : qk < 0
    · have HG := Lib.hid (goB_neg (vs := vs.map Pv.d) (nm := nm) t1)
      have hqd : decide (0 ≤ qk) = false := decide_eq_false (by omega)
      have hqn : (0 ≤ qk) = False := by simp; omega
      gi_wp2
      refine region_held_in (S := fun W9 => True) hmix (by kernel_rfl) (fun ⟨_, _, h⟩ => h) (trivial) (fun hHeld => ?_)
      refine heldTake (i := 0) (d := some 47) (v := ?_) rfl rfl (by kernel_rfl) (by kernel_rfl) (by kernel_rfl) (fun _ _ _ h => h) (by kernel_rfl) ?hyq_1 (by assumption) ?restq_1
      case hyq_1 => (intro W9 hSw; (try dsimp only at hSw); go_simp; try (with_reducible rfl))
      (try simp only [Act.put, List.setIfInBounds_toArray, List.set_cons_zero, List.set_cons_succ])
      refine heldTake (i := 1) (d := some 48) (v := ?_) rfl rfl (by kernel_rfl) (by kernel_rfl) (by kernel_rfl) (fun _ _ _ h => h) (by kernel_rfl) ?hyq_2 (by assumption) ?restq_2
      case hyq_2 => (intro W9 hSw; (try dsimp only at hSw); go_simp; try (with_reducible rfl))
      (try simp only [Act.put, List.setIfInBounds_toArray, List.set_cons_zero, List.set_cons_succ])
      refine heldTake (i := 2) (d := some 49) (v := ?_) rfl rfl (by kernel_rfl) (by kernel_rfl) (by kernel_rfl) (fun _ _ _ h => h) (by kernel_rfl) ?hyq_3 (by assumption) ?restq_3
      case hyq_3 => (intro W9 hSw; (try dsimp only at hSw); go_simp; try (with_reducible rfl))
      (try simp only [Act.put, List.setIfInBounds_toArray, List.set_cons_zero, List.set_cons_succ])
      refine heldSkip (i := 3) (d := some 50) rfl rfl (by kernel_rfl) (by kernel_rfl) (by kernel_rfl) (fun _ _ _ h => h) (by kernel_rfl) (by assumption) ?_
      (try simp only [Act.put, List.setIfInBounds_toArray, List.set_cons_zero, List.set_cons_succ])
      refine heldSkip (i := 4) (d := some 51) rfl rfl (by kernel_rfl) (by kernel_rfl) (by kernel_rfl) (fun _ _ _ h => h) (by kernel_rfl) (by assumption) ?_
      (try simp only [Act.put, List.setIfInBounds_toArray, List.set_cons_zero, List.set_cons_succ])
      refine heldSkip (i := 5) (d := some 52) rfl rfl (by kernel_rfl) (by kernel_rfl) (by kernel_rfl) (fun _ _ _ h => h) (by kernel_rfl) (by assumption) ?_
      (try simp only [Act.put, List.setIfInBounds_toArray, List.set_cons_zero, List.set_cons_succ])
      refine heldSkip (i := 6) (d := some 53) rfl rfl (by kernel_rfl) (by kernel_rfl) (by kernel_rfl) (fun _ _ _ h => h) (by kernel_rfl) (by assumption) ?_
      (try simp only [Act.put, List.setIfInBounds_toArray, List.set_cons_zero, List.set_cons_succ])
      refine heldTake (i := 7) (d := some 54) (v := ?_) rfl rfl (by kernel_rfl) (by kernel_rfl) (by kernel_rfl) (fun _ _ _ h => h) (by kernel_rfl) ?hyq_4 (by assumption) ?restq_4
      case hyq_4 => (intro W9 hSw; (try dsimp only at hSw); go_simp; try (with_reducible rfl))
      (try simp only [Act.put, List.setIfInBounds_toArray, List.set_cons_zero, List.set_cons_succ])
      refine heldTake (i := 8) (d := some 55) (v := ?_) rfl rfl (by kernel_rfl) (by kernel_rfl) (by kernel_rfl) (fun _ _ _ h => h) (by kernel_rfl) ?hyq_5 (by assumption) ?restq_5
      case hyq_5 => (intro W9 hSw; (try dsimp only at hSw); go_simp; try (with_reducible rfl))
      (try simp only [Act.put, List.setIfInBounds_toArray, List.set_cons_zero, List.set_cons_succ])
      refine heldSkip (i := 9) (d := some 56) rfl rfl (by kernel_rfl) (by kernel_rfl) (by kernel_rfl) (fun _ _ _ h => h) (by kernel_rfl) (by assumption) ?_
      (try simp only [Act.put, List.setIfInBounds_toArray, List.set_cons_zero, List.set_cons_succ])
      refine heldSkip (i := 10) (d := some 57) rfl rfl (by kernel_rfl) (by kernel_rfl) (by kernel_rfl) (fun _ _ _ h => h) (by kernel_rfl) (by assumption) ?_
      (try simp only [Act.put, List.setIfInBounds_toArray, List.set_cons_zero, List.set_cons_succ])
      refine heldSkip (i := 11) (d := some 58) rfl rfl (by kernel_rfl) (by kernel_rfl) (by kernel_rfl) (fun _ _ _ h => h) (by kernel_rfl) (by assumption) ?_
      (try simp only [Act.put, List.setIfInBounds_toArray, List.set_cons_zero, List.set_cons_succ])
      refine heldSkip (i := 12) (d := some 59) rfl rfl (by kernel_rfl) (by kernel_rfl) (by kernel_rfl) (fun _ _ _ h => h) (by kernel_rfl) (by assumption) ?_
      (try simp only [Act.put, List.setIfInBounds_toArray, List.set_cons_zero, List.set_cons_succ])
      refine heldSkip (i := 13) (d := some 60) rfl rfl (by kernel_rfl) (by kernel_rfl) (by kernel_rfl) (fun _ _ _ h => h) (by kernel_rfl) (by assumption) ?_
      (try simp only [Act.put, List.setIfInBounds_toArray, List.set_cons_zero, List.set_cons_succ])
      refine heldSkip (i := 14) (d := some 61) rfl rfl (by kernel_rfl) (by kernel_rfl) (by kernel_rfl) (fun _ _ _ h => h) (by kernel_rfl) (by assumption) ?_
      (try simp only [Act.put, List.setIfInBounds_toArray, List.set_cons_zero, List.set_cons_succ])
      refine heldSkip (i := 15) (d := some 62) rfl rfl (by kernel_rfl) (by kernel_rfl) (by kernel_rfl) (fun _ _ _ h => h) (by kernel_rfl) (by assumption) ?_
      (try simp only [Act.put, List.setIfInBounds_toArray, List.set_cons_zero, List.set_cons_succ])
      refine heldTake (i := 16) (d := some 63) (v := ?_) rfl rfl (by kernel_rfl) (by kernel_rfl) (by kernel_rfl) (fun _ _ _ h => h) (by kernel_rfl) ?hyq_6 (by assumption) ?restq_6
      case hyq_6 => (intro W9 hSw; (try dsimp only at hSw); go_simp; try (with_reducible rfl))
      (try simp only [Act.put, List.setIfInBounds_toArray, List.set_cons_zero, List.set_cons_succ])
      refine wpAnyH_done (by kernel_rfl) ?_ _
      gi_wp2
      exact ⟨Nocs.of_below hbd, HS2.out.trans (Same.of_all hbd), ⟨⟨⟨E1.out, E2.out⟩, E7.out, E4.out⟩, HB2.out.drew⟩, HALL.out.more HG.out⟩
    by_cases t2 : (vs.length : Int) ≤ qk
    · have HG := Lib.hid (goB_far (vs := vs.map Pv.d) (nm := nm) (k := qk) (by simpa using t2))
      have hqd : decide (0 ≤ qk) = true := decide_eq_true (by omega)
      have hqe : decide (qk < (vs.length : Int)) = false := decide_eq_false (by omega)
      have hqn : (0 ≤ qk) = True := by simp; omega
      have hqm : (qk < (vs.length : Int)) = False := by simp; omega
      gi_wp2
      refine region_held_in (S := fun W9 => W9.cell? ⟨V.heap.size, 0, none⟩ = some (.slice vA vs.length vc)) hmix (by kernel_rfl) (fun ⟨_, _, h⟩ => h) (hcV) (fun hHeld => ?_)
      refine heldTake (i := 0) (d := some 47) (v := ?_) rfl rfl (by kernel_rfl) (by kernel_rfl) (by kernel_rfl) (fun _ _ _ h => h) (by kernel_rfl) ?hyq_7 (by assumption) ?restq_7
      case hyq_7 => (intro W9 hSw; (try dsimp only at hSw); go_simp; try (with_reducible rfl))
      (try simp only [Act.put, List.setIfInBounds_toArray, List.set_cons_zero, List.set_cons_succ])
      refine heldTake (i := 1) (d := some 48) (v := ?_) rfl rfl (by kernel_rfl) (by kernel_rfl) (by kernel_rfl) (fun _ _ _ h => h) (by kernel_rfl) ?hyq_8 (by assumption) ?restq_8
      case hyq_8 => (intro W9 hSw; (try dsimp only at hSw); go_simp; try (with_reducible rfl))
      (try simp only [Act.put, List.setIfInBounds_toArray, List.set_cons_zero, List.set_cons_succ])
      refine heldTake (i := 2) (d := some 49) (v := ?_) rfl rfl (by kernel_rfl) (by kernel_rfl) (by kernel_rfl) (fun _ _ _ h => h) (by kernel_rfl) ?hyq_9 (by assumption) ?restq_9
      case hyq_9 => (intro W9 hSw; (try dsimp only at hSw); go_simp; try (with_reducible rfl))
      (try simp only [Act.put, List.setIfInBounds_toArray, List.set_cons_zero, List.set_cons_succ])
      refine heldTake (i := 3) (d := some 50) (v := ?_) rfl rfl (by kernel_rfl) (by kernel_rfl) (by kernel_rfl) (fun _ _ _ h => h) (by kernel_rfl) ?hyq_10 (by assumption) ?restq_10
      case hyq_10 => (intro W9 hSw; (try dsimp only at hSw); go_simp; try (with_reducible rfl))
      (try simp only [Act.put, List.setIfInBounds_toArray, List.set_cons_zero, List.set_cons_succ])
      refine heldTake (i := 4) (d := some 51) (v := ?_) rfl rfl (by kernel_rfl) (by kernel_rfl) (by kernel_rfl) (fun _ _ _ h => h) (by kernel_rfl) ?hyq_11 (by assumption) ?restq_11
      case hyq_11 => (intro W9 hSw; (try dsimp only at hSw); go_simp; try (with_reducible rfl))
      (try simp only [Act.put, List.setIfInBounds_toArray, List.set_cons_zero, List.set_cons_succ])
      refine heldTake (i := 5) (d := some 52) (v := ?_) rfl rfl (by kernel_rfl) (by kernel_rfl) (by kernel_rfl) (fun _ _ _ h => h) (by kernel_rfl) ?hyq_12 (by assumption) ?restq_12
      case hyq_12 => (intro W9 hSw; (try dsimp only at hSw); go_simp; try (with_reducible rfl))
      (try simp only [Act.put, List.setIfInBounds_toArray, List.set_cons_zero, List.set_cons_succ])
      refine heldTake (i := 6) (d := some 53) (v := ?_) rfl rfl (by kernel_rfl) (by kernel_rfl) (by kernel_rfl) (fun _ _ _ h => h) (by kernel_rfl) ?hyq_13 (by assumption) ?restq_13
      case hyq_13 => (intro W9 hSw; (try dsimp only at hSw); go_simp; try (with_reducible rfl))
      (try simp only [Act.put, List.setIfInBounds_toArray, List.set_cons_zero, List.set_cons_succ])
      refine heldTake (i := 7) (d := some 54) (v := ?_) rfl rfl (by kernel_rfl) (by kernel_rfl) (by kernel_rfl) (fun _ _ _ h => h) (by kernel_rfl) ?hyq_14 (by assumption) ?restq_14
      case hyq_14 => (intro W9 hSw; (try dsimp only at hSw); go_simp; try (with_reducible rfl))
      (try simp only [Act.put, List.setIfInBounds_toArray, List.set_cons_zero, List.set_cons_succ])
      refine heldTake (i := 8) (d := some 55) (v := ?_) rfl rfl (by kernel_rfl) (by kernel_rfl) (by kernel_rfl) (fun _ _ _ h => h) (by kernel_rfl) ?hyq_15 (by assumption) ?restq_15
      case hyq_15 => (intro W9 hSw; (try dsimp only at hSw); go_simp; try (with_reducible rfl))
      (try simp only [Act.put, List.setIfInBounds_toArray, List.set_cons_zero, List.set_cons_succ])
      refine heldSkip (i := 9) (d := some 56) rfl rfl (by kernel_rfl) (by kernel_rfl) (by kernel_rfl) (fun _ _ _ h => h) (by kernel_rfl) (by assumption) ?_
      (try simp only [Act.put, List.setIfInBounds_toArray, List.set_cons_zero, List.set_cons_succ])
      refine heldSkip (i := 10) (d := some 57) rfl rfl (by kernel_rfl) (by kernel_rfl) (by kernel_rfl) (fun _ _ _ h => h) (by kernel_rfl) (by assumption) ?_
      (try simp only [Act.put, List.setIfInBounds_toArray, List.set_cons_zero, List.set_cons_succ])
      refine heldSkip (i := 11) (d := some 58) rfl rfl (by kernel_rfl) (by kernel_rfl) (by kernel_rfl) (fun _ _ _ h => h) (by kernel_rfl) (by assumption) ?_
      (try simp only [Act.put, List.setIfInBounds_toArray, List.set_cons_zero, List.set_cons_succ])
      refine heldSkip (i := 12) (d := some 59) rfl rfl (by kernel_rfl) (by kernel_rfl) (by kernel_rfl) (fun _ _ _ h => h) (by kernel_rfl) (by assumption) ?_
      (try simp only [Act.put, List.setIfInBounds_toArray, List.set_cons_zero, List.set_cons_succ])
      refine heldSkip (i := 13) (d := some 60) rfl rfl (by kernel_rfl) (by kernel_rfl) (by kernel_rfl) (fun _ _ _ h => h) (by kernel_rfl) (by assumption) ?_
      (try simp only [Act.put, List.setIfInBounds_toArray, List.set_cons_zero, List.set_cons_succ])
      refine heldSkip (i := 14) (d := some 61) rfl rfl (by kernel_rfl) (by kernel_rfl) (by kernel_rfl) (fun _ _ _ h => h) (by kernel_rfl) (by assumption) ?_
      (try simp only [Act.put, List.setIfInBounds_toArray, List.set_cons_zero, List.set_cons_succ])
      refine heldSkip (i := 15) (d := some 62) rfl rfl (by kernel_rfl) (by kernel_rfl) (by kernel_rfl) (fun _ _ _ h => h) (by kernel_rfl) (by assumption) ?_
      (try simp only [Act.put, List.setIfInBounds_toArray, List.set_cons_zero, List.set_cons_succ])
      refine heldTake (i := 16) (d := some 63) (v := ?_) rfl rfl (by kernel_rfl) (by kernel_rfl) (by kernel_rfl) (fun _ _ _ h => h) (by kernel_rfl) ?hyq_16 (by assumption) ?restq_16
      case hyq_16 => (intro W9 hSw; (try dsimp only at hSw); go_simp; try (with_reducible rfl))
      (try simp only [Act.put, List.setIfInBounds_toArray, List.set_cons_zero, List.set_cons_succ])
      refine wpAnyH_done (by kernel_rfl) ?_ _
      gi_wp2
      exact ⟨Nocs.of_below hbd, HS2.out.trans (Same.of_all hbd), ⟨⟨⟨E1.out, E2.out⟩, E7.out, E4.out⟩, HB2.out.drew⟩, HALL.out.more HG.out⟩
    obtain ⟨m, rfl⟩ : ∃ n : Nat, qk = (n : Int) := ⟨qk.toNat, by omega⟩
    have hm : m < vs.length := by omega
    have hmi : (m : Int) < vs.length := by omega
    obtain ⟨gv, ov, rfl, hgv, n0, _, _, _, _, _⟩ := eV_at (HV0.out.below HB2.out) hm
    have HG := Lib.hid (show goB (vs.map Pv.d) nm (m : Int) = decide (vs[m].d.nm = nm) by rw [goB_at (by simpa using hm), List.getElem_map])
    generalize vs[m] = v at *
    obtain ⟨⟨vn, _, _, _, _, _⟩, _, _⟩ := v
    dsimp only at n0 HG
    by_cases t3 : vn = nm
    · have hqq : ((str vn).toList == (str nm).toList) = true := by rw [str_toList, str_toList]; simpa using t3
      have HF := Lib.hid (HR1.out.trans (bwd_found HNX.out HALL.out (by show goB _ nm (m : Int) = true; rw [HG.out]; exact decide_eq_true t3)))
      clear HG t3
      gi_wp2
      refine region_held_in (S := fun W9 => W9.cell? ⟨V.heap.size, 0, none⟩ = some (.slice (some ⟨gv, ov, none⟩) vs.length vc) ∧ W9.cell? ⟨gv, ov + m * 6, none⟩ = some (.string (str vn)) ∧ W9.cell? ⟨w.heap.size, 0, none⟩ = some (.string (str nm))) hmix (by kernel_rfl) (fun ⟨_, _, h⟩ => h) (⟨hcV, n0, hc7⟩) (fun hHeld => ?_)
      refine heldTake (i := 0) (d := some 47) (v := ?_) rfl rfl (by kernel_rfl) (by kernel_rfl) (by kernel_rfl) (fun _ _ _ h => h) (by kernel_rfl) ?hyq_17 (by assumption) ?restq_17
      case hyq_17 => (intro W9 hSw; (try dsimp only at hSw); go_simp; try (with_reducible rfl))
      (try simp only [Act.put, List.setIfInBounds_toArray, List.set_cons_zero, List.set_cons_succ])
      refine heldTake (i := 1) (d := some 48) (v := ?_) rfl rfl (by kernel_rfl) (by kernel_rfl) (by kernel_rfl) (fun _ _ _ h => h) (by kernel_rfl) ?hyq_18 (by assumption) ?restq_18
      case hyq_18 => (intro W9 hSw; (try dsimp only at hSw); go_simp; try (with_reducible rfl))
      (try simp only [Act.put, List.setIfInBounds_toArray, List.set_cons_zero, List.set_cons_succ])
      refine heldTake (i := 2) (d := some 49) (v := ?_) rfl rfl (by kernel_rfl) (by kernel_rfl) (by kernel_rfl) (fun _ _ _ h => h) (by kernel_rfl) ?hyq_19 (by assumption) ?restq_19
      case hyq_19 => (intro W9 hSw; (try dsimp only at hSw); go_simp; try (with_reducible rfl))
      (try simp only [Act.put, List.setIfInBounds_toArray, List.set_cons_zero, List.set_cons_succ])
      refine heldTake (i := 3) (d := some 50) (v := ?_) rfl rfl (by kernel_rfl) (by kernel_rfl) (by kernel_rfl) (fun _ _ _ h => h) (by kernel_rfl) ?hyq_20 (by assumption) ?restq_20
      case hyq_20 => (intro W9 hSw; (try dsimp only at hSw); go_simp; try (with_reducible rfl))
      (try simp only [Act.put, List.setIfInBounds_toArray, List.set_cons_zero, List.set_cons_succ])
      refine heldTake (i := 4) (d := some 51) (v := ?_) rfl rfl (by kernel_rfl) (by kernel_rfl) (by kernel_rfl) (fun _ _ _ h => h) (by kernel_rfl) ?hyq_21 (by assumption) ?restq_21
      case hyq_21 => (intro W9 hSw; (try dsimp only at hSw); go_simp; try (with_reducible rfl))
      (try simp only [Act.put, List.setIfInBounds_toArray, List.set_cons_zero, List.set_cons_succ])
      refine heldTake (i := 5) (d := some 52) (v := ?_) rfl rfl (by kernel_rfl) (by kernel_rfl) (by kernel_rfl) (fun _ _ _ h => h) (by kernel_rfl) ?hyq_22 (by assumption) ?restq_22
      case hyq_22 => (intro W9 hSw; (try dsimp only at hSw); go_simp; try (with_reducible rfl))
      (try simp only [Act.put, List.setIfInBounds_toArray, List.set_cons_zero, List.set_cons_succ])
      refine heldTake (i := 6) (d := some 53) (v := ?_) rfl rfl (by kernel_rfl) (by kernel_rfl) (by kernel_rfl) (fun _ _ _ h => h) (by kernel_rfl) ?hyq_23 (by assumption) ?restq_23
      case hyq_23 => (intro W9 hSw; (try dsimp only at hSw); go_simp; try (with_reducible rfl))
      (try simp only [Act.put, List.setIfInBounds_toArray, List.set_cons_zero, List.set_cons_succ])
      refine heldTake (i := 7) (d := some 54) (v := ?_) rfl rfl (by kernel_rfl) (by kernel_rfl) (by kernel_rfl) (fun _ _ _ h => h) (by kernel_rfl) ?hyq_24 (by assumption) ?restq_24
      case hyq_24 => (intro W9 hSw; (try dsimp only at hSw); go_simp; try (with_reducible rfl))
      (try simp only [Act.put, List.setIfInBounds_toArray, List.set_cons_zero, List.set_cons_succ])
      refine heldTake (i := 8) (d := some 55) (v := ?_) rfl rfl (by kernel_rfl) (by kernel_rfl) (by kernel_rfl) (fun _ _ _ h => h) (by kernel_rfl) ?hyq_25 (by assumption) ?restq_25
      case hyq_25 => (intro W9 hSw; (try dsimp only at hSw); go_simp; try (with_reducible rfl))
      (try simp only [Act.put, List.setIfInBounds_toArray, List.set_cons_zero, List.set_cons_succ])
      refine heldTake (i := 9) (d := some 56) (v := ?_) rfl rfl (by kernel_rfl) (by kernel_rfl) (by kernel_rfl) (fun _ _ _ h => h) (by kernel_rfl) ?hyq_26 (by assumption) ?restq_26
      case hyq_26 => (intro W9 hSw; (try dsimp only at hSw); go_simp; try (with_reducible rfl))
      (try simp only [Act.put, List.setIfInBounds_toArray, List.set_cons_zero, List.set_cons_succ])
      refine heldTake (i := 10) (d := some 57) (v := ?_) rfl rfl (by kernel_rfl) (by kernel_rfl) (by kernel_rfl) (fun _ _ _ h => h) (by kernel_rfl) ?hyq_27 (by assumption) ?restq_27
      case hyq_27 => (intro W9 hSw; (try dsimp only at hSw); go_simp; try (with_reducible rfl))
      (try simp only [Act.put, List.setIfInBounds_toArray, List.set_cons_zero, List.set_cons_succ])
      refine heldTake (i := 11) (d := some 58) (v := ?_) rfl rfl (by kernel_rfl) (by kernel_rfl) (by kernel_rfl) (fun _ _ _ h => h) (by kernel_rfl) ?hyq_28 (by assumption) ?restq_28
      case hyq_28 => (intro W9 hSw; (try dsimp only at hSw); go_simp; try (with_reducible rfl))
      (try simp only [Act.put, List.setIfInBounds_toArray, List.set_cons_zero, List.set_cons_succ])
      refine heldTake (i := 12) (d := some 59) (v := ?_) rfl rfl (by kernel_rfl) (by kernel_rfl) (by kernel_rfl) (fun _ _ _ h => h) (by kernel_rfl) ?hyq_29 (by assumption) ?restq_29
      case hyq_29 => (intro W9 hSw; (try dsimp only at hSw); go_simp; try (with_reducible rfl))
      (try simp only [Act.put, List.setIfInBounds_toArray, List.set_cons_zero, List.set_cons_succ])
      refine heldTake (i := 13) (d := some 60) (v := ?_) rfl rfl (by kernel_rfl) (by kernel_rfl) (by kernel_rfl) (fun _ _ _ h => h) (by kernel_rfl) ?hyq_30 (by assumption) ?restq_30
      case hyq_30 => (intro W9 hSw; (try dsimp only at hSw); go_simp; try (with_reducible rfl))
      (try simp only [Act.put, List.setIfInBounds_toArray, List.set_cons_zero, List.set_cons_succ])
      refine heldTake (i := 14) (d := some 61) (v := ?_) rfl rfl (by kernel_rfl) (by kernel_rfl) (by kernel_rfl) (fun _ _ _ h => h) (by kernel_rfl) ?hyq_31 (by assumption) ?restq_31
      case hyq_31 => (intro W9 hSw; (try dsimp only at hSw); go_simp; try (with_reducible rfl))
      (try simp only [Act.put, List.setIfInBounds_toArray, List.set_cons_zero, List.set_cons_succ])
      refine heldTake (i := 15) (d := some 62) (v := ?_) rfl rfl (by kernel_rfl) (by kernel_rfl) (by kernel_rfl) (fun _ _ _ h => h) (by kernel_rfl) ?hyq_32 (by assumption) ?restq_32
      case hyq_32 => (intro W9 hSw; (try dsimp only at hSw); go_simp; try (with_reducible rfl))
      (try simp only [Act.put, List.setIfInBounds_toArray, List.set_cons_zero, List.set_cons_succ])
      refine heldTake (i := 16) (d := some 63) (v := ?_) rfl rfl (by kernel_rfl) (by kernel_rfl) (by kernel_rfl) (fun _ _ _ h => h) (by kernel_rfl) ?hyq_33 (by assumption) ?restq_33
      case hyq_33 => (intro W9 hSw; (try dsimp only at hSw); go_simp; try (with_reducible rfl))
      (try simp only [Act.put, List.setIfInBounds_toArray, List.set_cons_zero, List.set_cons_succ])
      refine wpAnyH_done (by kernel_rfl) ?_ _
      gi_wp2
      exact ⟨(Nocs.of_below hbd).trans ((nocs_set _ _ _).trans (nocs_set _ _ _)), (m : Int), ⟨⟨(Boxed.set _ E1.out).other (by omega) _, Boxed.set _ (E2.out.other (by omega) _)⟩, (HB2.out.drew.setCell (p := ⟨w.heap.size + 1, 0, none⟩) (by dsimp only; omega) _).setCell (p := ⟨w.heap.size + 2, 0, none⟩) (by dsimp only; omega) _⟩, rfl, HF.out⟩
    · have hqq : ((str vn).toList == (str nm).toList) = false := by rw [str_toList, str_toList]; simpa using t3
      have HG2 := Lib.hid (HG.out.trans (decide_eq_false t3))
      clear HG t3
      gi_wp2
      refine region_held_in (S := fun W9 => W9.cell? ⟨V.heap.size, 0, none⟩ = some (.slice (some ⟨gv, ov, none⟩) vs.length vc) ∧ W9.cell? ⟨gv, ov + m * 6, none⟩ = some (.string (str vn)) ∧ W9.cell? ⟨w.heap.size, 0, none⟩ = some (.string (str nm))) hmix (by kernel_rfl) (fun ⟨_, _, h⟩ => h) (⟨hcV, n0, hc7⟩) (fun hHeld => ?_)
      refine heldTake (i := 0) (d := some 47) (v := ?_) rfl rfl (by kernel_rfl) (by kernel_rfl) (by kernel_rfl) (fun _ _ _ h => h) (by kernel_rfl) ?hyq_34 (by assumption) ?restq_34
      case hyq_34 => (intro W9 hSw; (try dsimp only at hSw); go_simp; try (with_reducible rfl))
      (try simp only [Act.put, List.setIfInBounds_toArray, List.set_cons_zero, List.set_cons_succ])
      refine heldTake (i := 1) (d := some 48) (v := ?_) rfl rfl (by kernel_rfl) (by kernel_rfl) (by kernel_rfl) (fun _ _ _ h => h) (by kernel_rfl) ?hyq_35 (by assumption) ?restq_35
      case hyq_35 => (intro W9 hSw; (try dsimp only at hSw); go_simp; try (with_reducible rfl))
      (try simp only [Act.put, List.setIfInBounds_toArray, List.set_cons_zero, List.set_cons_succ])
      refine heldTake (i := 2) (d := some 49) (v := ?_) rfl rfl (by kernel_rfl) (by kernel_rfl) (by kernel_rfl) (fun _ _ _ h => h) (by kernel_rfl) ?hyq_36 (by assumption) ?restq_36
      case hyq_36 => (intro W9 hSw; (try dsimp only at hSw); go_simp; try (with_reducible rfl))
      (try simp only [Act.put, List.setIfInBounds_toArray, List.set_cons_zero, List.set_cons_succ])
      refine heldTake (i := 3) (d := some 50) (v := ?_) rfl rfl (by kernel_rfl) (by kernel_rfl) (by kernel_rfl) (fun _ _ _ h => h) (by kernel_rfl) ?hyq_37 (by assumption) ?restq_37
      case hyq_37 => (intro W9 hSw; (try dsimp only at hSw); go_simp; try (with_reducible rfl))
      (try simp only [Act.put, List.setIfInBounds_toArray, List.set_cons_zero, List.set_cons_succ])
      refine heldTake (i := 4) (d := some 51) (v := ?_) rfl rfl (by kernel_rfl) (by kernel_rfl) (by kernel_rfl) (fun _ _ _ h => h) (by kernel_rfl) ?hyq_38 (by assumption) ?restq_38
      case hyq_38 => (intro W9 hSw; (try dsimp only at hSw); go_simp; try (with_reducible rfl))
      (try simp only [Act.put, List.setIfInBounds_toArray, List.set_cons_zero, List.set_cons_succ])
      refine heldTake (i := 5) (d := some 52) (v := ?_) rfl rfl (by kernel_rfl) (by kernel_rfl) (by kernel_rfl) (fun _ _ _ h => h) (by kernel_rfl) ?hyq_39 (by assumption) ?restq_39
      case hyq_39 => (intro W9 hSw; (try dsimp only at hSw); go_simp; try (with_reducible rfl))
      (try simp only [Act.put, List.setIfInBounds_toArray, List.set_cons_zero, List.set_cons_succ])
      refine heldTake (i := 6) (d := some 53) (v := ?_) rfl rfl (by kernel_rfl) (by kernel_rfl) (by kernel_rfl) (fun _ _ _ h => h) (by kernel_rfl) ?hyq_40 (by assumption) ?restq_40
      case hyq_40 => (intro W9 hSw; (try dsimp only at hSw); go_simp; try (with_reducible rfl))
      (try simp only [Act.put, List.setIfInBounds_toArray, List.set_cons_zero, List.set_cons_succ])
      refine heldTake (i := 7) (d := some 54) (v := ?_) rfl rfl (by kernel_rfl) (by kernel_rfl) (by kernel_rfl) (fun _ _ _ h => h) (by kernel_rfl) ?hyq_41 (by assumption) ?restq_41
      case hyq_41 => (intro W9 hSw; (try dsimp only at hSw); go_simp; try (with_reducible rfl))
      (try simp only [Act.put, List.setIfInBounds_toArray, List.set_cons_zero, List.set_cons_succ])
      refine heldTake (i := 8) (d := some 55) (v := ?_) rfl rfl (by kernel_rfl) (by kernel_rfl) (by kernel_rfl) (fun _ _ _ h => h) (by kernel_rfl) ?hyq_42 (by assumption) ?restq_42
      case hyq_42 => (intro W9 hSw; (try dsimp only at hSw); go_simp; try (with_reducible rfl))
      (try simp only [Act.put, List.setIfInBounds_toArray, List.set_cons_zero, List.set_cons_succ])
      refine heldTake (i := 9) (d := some 56) (v := ?_) rfl rfl (by kernel_rfl) (by kernel_rfl) (by kernel_rfl) (fun _ _ _ h => h) (by kernel_rfl) ?hyq_43 (by assumption) ?restq_43
      case hyq_43 => (intro W9 hSw; (try dsimp only at hSw); go_simp; try (with_reducible rfl))
      (try simp only [Act.put, List.setIfInBounds_toArray, List.set_cons_zero, List.set_cons_succ])
      refine heldTake (i := 10) (d := some 57) (v := ?_) rfl rfl (by kernel_rfl) (by kernel_rfl) (by kernel_rfl) (fun _ _ _ h => h) (by kernel_rfl) ?hyq_44 (by assumption) ?restq_44
      case hyq_44 => (intro W9 hSw; (try dsimp only at hSw); go_simp; try (with_reducible rfl))
      (try simp only [Act.put, List.setIfInBounds_toArray, List.set_cons_zero, List.set_cons_succ])
      refine heldTake (i := 11) (d := some 58) (v := ?_) rfl rfl (by kernel_rfl) (by kernel_rfl) (by kernel_rfl) (fun _ _ _ h => h) (by kernel_rfl) ?hyq_45 (by assumption) ?restq_45
      case hyq_45 => (intro W9 hSw; (try dsimp only at hSw); go_simp; try (with_reducible rfl))
      (try simp only [Act.put, List.setIfInBounds_toArray, List.set_cons_zero, List.set_cons_succ])
      refine heldTake (i := 12) (d := some 59) (v := ?_) rfl rfl (by kernel_rfl) (by kernel_rfl) (by kernel_rfl) (fun _ _ _ h => h) (by kernel_rfl) ?hyq_46 (by assumption) ?restq_46
      case hyq_46 => (intro W9 hSw; (try dsimp only at hSw); go_simp; try (with_reducible rfl))
      (try simp only [Act.put, List.setIfInBounds_toArray, List.set_cons_zero, List.set_cons_succ])
      refine heldTake (i := 13) (d := some 60) (v := ?_) rfl rfl (by kernel_rfl) (by kernel_rfl) (by kernel_rfl) (fun _ _ _ h => h) (by kernel_rfl) ?hyq_47 (by assumption) ?restq_47
      case hyq_47 => (intro W9 hSw; (try dsimp only at hSw); go_simp; try (with_reducible rfl))
      (try simp only [Act.put, List.setIfInBounds_toArray, List.set_cons_zero, List.set_cons_succ])
      refine heldTake (i := 14) (d := some 61) (v := ?_) rfl rfl (by kernel_rfl) (by kernel_rfl) (by kernel_rfl) (fun _ _ _ h => h) (by kernel_rfl) ?hyq_48 (by assumption) ?restq_48
      case hyq_48 => (intro W9 hSw; (try dsimp only at hSw); go_simp; try (with_reducible rfl))
      (try simp only [Act.put, List.setIfInBounds_toArray, List.set_cons_zero, List.set_cons_succ])
      refine heldTake (i := 15) (d := some 62) (v := ?_) rfl rfl (by kernel_rfl) (by kernel_rfl) (by kernel_rfl) (fun _ _ _ h => h) (by kernel_rfl) ?hyq_49 (by assumption) ?restq_49
      case hyq_49 => (intro W9 hSw; (try dsimp only at hSw); go_simp; try (with_reducible rfl))
      (try simp only [Act.put, List.setIfInBounds_toArray, List.set_cons_zero, List.set_cons_succ])
      refine heldTake (i := 16) (d := some 63) (v := ?_) rfl rfl (by kernel_rfl) (by kernel_rfl) (by kernel_rfl) (fun _ _ _ h => h) (by kernel_rfl) ?hyq_50 (by assumption) ?restq_50
      case hyq_50 => (intro W9 hSw; (try dsimp only at hSw); go_simp; try (with_reducible rfl))
      (try simp only [Act.put, List.setIfInBounds_toArray, List.set_cons_zero, List.set_cons_succ])
      refine wpAnyH_done (by kernel_rfl) ?_ _
      gi_wp2
      exact ⟨Nocs.of_below hbd, HS2.out.trans (Same.of_all hbd), ⟨⟨⟨E1.out, E2.out⟩, E7.out, E4.out⟩, HB2.out.drew⟩, HALL.out.more HG2.out⟩
  case done =>
    rintro D xs Y hD rfl ⟨⟨⟨⟨hb1, hb2⟩, hb7, hb4⟩, hbel⟩, hall⟩ hK
    have hx := bwd_none hall
    have k1c := hb1.cell
    have k1f := hb1.frozen
    have k2c := hb2.cell
    have k2f := hb2.frozen
    have HRX := Lib.hid (HR1.out.trans hx)
    have hK2 : ((Y.setCell ⟨w.heap.size + 1, 0, none⟩ (.int .i64 0)).setCell ⟨w.heap.size + 2, 0, none⟩ (.bool false)).heap[D]? = some (.deferred (some [])) := (Below.heap_setCell _ ⟨w.heap.size + 2, 0, none⟩ (.bool false) D (by have := hB5.size; have := HXz.out; have := HUz.out; have := HVz.out; have := HWz.out; dsimp only; omega)).trans ((Below.heap_setCell Y ⟨w.heap.size + 1, 0, none⟩ (.int .i64 0) D (by have := hB5.size; have := HXz.out; have := HUz.out; have := HVz.out; have := HWz.out; dsimp only; omega)).trans hK)
    have h1' := Boxed.put ((Boxed.set (.int .i64 0) hb1).other (B' := w.heap.size + 2) (by omega) (.bool false)) (.deferred none) hK2 rfl
    have h2' := Boxed.put (Boxed.set (.bool false) (hb2.other (B' := w.heap.size + 1) (by omega) (.int .i64 0))) (.deferred none) hK2 rfl
    go_wp2_with fail
    exact ret_mark hK2 (res_ib rfl _ _ (w.heap.size + 1) (w.heap.size + 2) _ _ rfl rfl h1' h2') ⟨by rw [HRX.out], below_put ((hbel.setCell (p := ⟨w.heap.size + 1, 0, none⟩) (by dsimp only; omega) _).setCell (p := ⟨w.heap.size + 2, 0, none⟩) (by dsimp only; omega) _) _ (by have := hB5.size; omega)⟩
  case stop =>
    rintro D c pre Y hD ⟨k, ⟨⟨hb1, hb2⟩, hbel⟩, rfl, hr⟩ hK
    have HRX := Lib.hid hr
    go_wp2_with fail
    exact ret_mark hK (res_ib rfl _ _ (w.heap.size + 1) (w.heap.size + 2) _ _ rfl rfl (Boxed.put hb1 (.deferred none) hK rfl) (Boxed.put hb2 (.deferred none) hK rfl)) ⟨by rw [HRX.out], below_put hbel _ (by have := hB5.size; omega)⟩
end Go.Proofs.YtbkfkdiadeaooaaGreat
