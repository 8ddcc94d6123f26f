/-
  A list of spans of the call's own whose numbers are turned: it stays one. The walk of LocsTells.
-/
import Derived.Test.YtggofdahnbchjaaM7C
namespace Go.Proofs.Ytggofdahnbchjaa
open Go Go.RowKit

theorem lflat_set (u : Int) : ∀ (xs : List Lc) (j : Nat) (hj : j < xs.length), (xs.flatMap cC).set (j * 2 + 1) (.int .i64 u) = (xs.set j { xs[j] with n := u }).flatMap cC
  | x :: xs, 0, _ => rfl
  | x :: xs, j + 1, hj => by
    have hj' : j < xs.length := by simpa using hj
    rw [List.flatMap_cons, List.set_append_right _ _ (by rw [cC_len]; omega), cC_len, show (j + 1) * 2 + 1 - 2 = j * 2 + 1 by omega, lflat_set u xs j hj', List.set_cons_succ, List.flatMap_cons]
    rfl
theorem pflat_setF (u : Int) : ∀ (xs : List Ps) (j : Nat) (hj : j < xs.length), (xs.flatMap pC).set (j * 3) (.int .i64 u) = (xs.set j { xs[j] with f := u }).flatMap pC
  | x :: xs, 0, _ => rfl
  | x :: xs, j + 1, hj => by
    have hj' : j < xs.length := by simpa using hj
    rw [List.flatMap_cons, List.set_append_right _ _ (by rw [pC_len]; omega), pC_len, show (j + 1) * 3 - 3 = j * 3 by omega, pflat_setF u xs j hj', List.set_cons_succ, List.flatMap_cons]
    rfl
/-- a block of values of a type, in memory that may be turned -/
def Row7 (w : World) (g : Nat) (e : TypeId) : Prop := ∃ cur, w.heap[g]? = some (.cells cur e (0, 0))
theorem Row7.of {w : World} {B : Nat} {e : TypeId} {size n g c : Nat} {xs : List Value} (h : w.ownsRow B e size (.slice (some ⟨g, 0, none⟩) n c) n xs) : Row7 w g e := by
  rcases h.2 with ⟨h', _⟩ | ⟨g', cap', cur, h', _, hg, _⟩
  · cases h'
  · cases h'
    exact ⟨cur, hg⟩
theorem own_ne {w : World} {B : Nat} {e e2 : TypeId} {size n g : Nat} {v : Value} {xs : List Value} (h : w.ownsRow B e size v n xs) (hr : Row7 w g e2) (he : e ≠ e2) : ∀ k, v.ownBlock = some k → k ≠ g := by
  intro k hk hkg
  subst hkg
  obtain ⟨cur, hc⟩ := hr
  rcases h.2 with ⟨rfl, _⟩ | ⟨g', cap', cur', rfl, _, hg, _⟩
  · cases hk
  · simp only [Value.ownBlock, Option.some.injEq] at hk
    subst hk
    rw [hg] at hc
    cases hc
    exact he rfl
theorem LOwn.store {w : World} {B gl : Nat} {v : Value} {xs : List Lc} (h : LOwn w B v xs) (j : Nat) (u : Int) : ∃ xs' : List Lc, xs'.length = xs.length ∧ LOwn (w.setCell ⟨gl, j * 2 + 1, none⟩ (.int .i64 u)) B v xs' := by
  by_cases hv : v.ownBlock = some gl
  · have h0 := h
    rcases h.2 with ⟨rfl, _⟩ | ⟨g', cap', cur', rfl, _, hg, _⟩
    · cases hv
    · simp only [Value.ownBlock, Option.some.injEq] at hv
      subst hv
      have hs := (World.ownsRow.stored h0 (j * 2 + 1) (.int .i64 u)).1
      by_cases hj : j < xs.length
      · rw [lflat_set u xs j hj] at hs
        refine ⟨xs.set j { xs[j] with n := u }, List.length_set, ?_⟩
        unfold LOwn
        rw [List.length_set]
        exact hs
      · rw [List.set_eq_of_length_le (by rw [h0.1]; omega)] at hs
        exact ⟨xs, rfl, hs⟩
  · exact ⟨xs, rfl, h.kept fun k e => Below.heap_setCell w ⟨gl, j * 2 + 1, none⟩ _ k (fun q => hv (by rw [e, q]))⟩
/-- spans of the call's own, whatever their numbers are -/
def Rows (w : World) (B : Nat) (v : Value) (n : Nat) : Prop := ∃ qs : List Ps, qs.length = n ∧ POwn w B v qs ∧ ∀ p ∈ qs, LOwn w B (.slice p.A p.a.length p.c) p.a
theorem SpOwn.rows {w : World} {B : Nat} {v : Value} {xs : List Sp} (h : SpOwn w B v xs) : Rows w B v xs.length := by
  obtain ⟨qs, e, ho, hm⟩ := h
  exact ⟨qs, by rw [← e, List.length_map], ho, hm⟩
theorem Rows.below {w w' : World} {B n : Nat} {v : Value} (h : Rows w B v n) (hb : Below w.heap.size w w') : Rows w' B v n := by
  obtain ⟨qs, e, ho, hm⟩ := h
  exact ⟨qs, e, ho.below hb, fun p hp => (hm p hp).below hb⟩
theorem Rows.base {w : World} {B B' n : Nat} {v : Value} (h : Rows w B v n) (hB : B' ≤ B) : Rows w B' v n := by
  obtain ⟨qs, e, ho, hm⟩ := h
  exact ⟨qs, e, ho.base hB, fun p hp => (hm p hp).base hB⟩
theorem Rows.storeL {w : World} {B gl n : Nat} {v : Value} (h : Rows w B v n) (hr : Row7 w gl 44) (j : Nat) (u : Int) : Rows (w.setCell ⟨gl, j * 2 + 1, none⟩ (.int .i64 u)) B v n := by
  obtain ⟨qs, e, ho, hm⟩ := h
  have ho2 := ho.kept (w' := w.setCell ⟨gl, j * 2 + 1, none⟩ (.int .i64 u)) fun k e => Below.heap_setCell w ⟨gl, j * 2 + 1, none⟩ _ k (own_ne ho hr (by decide) k e)
  have : ∀ qs : List Ps, (∀ p ∈ qs, LOwn w B (.slice p.A p.a.length p.c) p.a) → ∃ qs' : List Ps, qs'.length = qs.length ∧ qs'.flatMap pC = qs.flatMap pC ∧ ∀ p ∈ qs', LOwn (w.setCell ⟨gl, j * 2 + 1, none⟩ (.int .i64 u)) B (.slice p.A p.a.length p.c) p.a := by
    intro qs
    induction qs with
    | nil => exact fun _ => ⟨[], rfl, rfl, fun p hp => absurd hp (by simp)⟩
    | cons q qs ih =>
      intro hq
      obtain ⟨qs', h1, h2, h3⟩ := ih (fun p hp => hq p (List.mem_cons_of_mem _ hp))
      obtain ⟨xs', x1, x2⟩ := (hq q List.mem_cons_self).store (gl := gl) j u
      refine ⟨{ q with a := xs' } :: qs', by simp [h1], ?_, fun p hp => ?_⟩
      · rw [List.flatMap_cons, List.flatMap_cons, h2]
        congr 1
        simp only [pC, pK, x1]
      · rcases List.mem_cons.1 hp with rfl | hp
        · dsimp only
          rw [x1]
          exact x2
        · exact h3 p hp
  obtain ⟨qs', h1, h2, h3⟩ := this qs hm
  refine ⟨qs', h1.trans e, ?_, h3⟩
  unfold POwn at ho2 ⊢
  rw [h1, h2]
  exact ho2
theorem Rows.storeF {w : World} {B g n : Nat} {v : Value} (h : Rows w B v n) (hr : Row7 w g 46) (i : Nat) (u : Int) : Rows (w.setCell ⟨g, i * 3, none⟩ (.int .i64 u)) B v n := by
  obtain ⟨qs, e, ho, hm⟩ := h
  have hmk : ∀ p ∈ qs, LOwn (w.setCell ⟨g, i * 3, none⟩ (.int .i64 u)) B (.slice p.A p.a.length p.c) p.a := fun p hp =>
    (hm p hp).kept fun k e => Below.heap_setCell w ⟨g, i * 3, none⟩ _ k (own_ne (hm p hp) hr (by decide) k e)
  by_cases hv : v.ownBlock = some g
  · have h0 := ho
    rcases ho.2 with ⟨rfl, _⟩ | ⟨g', cap', cur', rfl, _, hg, _⟩
    · cases hv
    · simp only [Value.ownBlock, Option.some.injEq] at hv
      subst hv
      have hs := (World.ownsRow.stored h0 (i * 3) (.int .i64 u)).1
      by_cases hi : i < qs.length
      · rw [pflat_setF u qs i hi] at hs
        refine ⟨qs.set i { qs[i] with f := u }, List.length_set.trans e, ?_, fun p hp => ?_⟩
        · unfold POwn
          rw [List.length_set]
          exact hs
        · rcases List.mem_or_eq_of_mem_set hp with hp | rfl
          · exact hmk p hp
          · exact hmk qs[i] (List.getElem_mem hi)
      · rw [List.set_eq_of_length_le (by rw [h0.1]; omega)] at hs
        exact ⟨qs, e, hs, hmk⟩
  · exact ⟨qs, e, ho.kept fun k e => Below.heap_setCell w ⟨g, i * 3, none⟩ _ k (fun q => hv (by rw [e, q])), hmk⟩
theorem Rows.at_ {w : World} {B n i : Nat} {v : Value} (h : Rows w B v n) (hi : i < n) : ∃ g c f A m ca, v = .slice (some ⟨g, 0, none⟩) n c ∧ n ≤ c ∧ B ≤ g ∧ g < w.heap.size ∧ Row7 w g 46 ∧
    w.cell? ⟨g, i * 3, none⟩ = some (.int .i64 f) ∧ w.cell? ⟨g, i * 3 + 2, none⟩ = some (.slice A m ca) ∧ (∀ j, w.frozen? ⟨g, j, none⟩ = false) ∧ m ≤ 9223372036854775807 := by
  obtain ⟨qs, rfl, ho, hm⟩ := h
  obtain ⟨g, c, rfl, hg, hg2⟩ := World.ownsRow.form ho (by omega)
  have hcap : qs.length ≤ c := by
    obtain ⟨_, _, e9, h9, _⟩ := ho.form
    cases e9
    exact h9
  have hcell : ∀ f u, f < 3 → (pC qs[i])[f]? = some u → w.cell? ⟨g, i * 3 + f, none⟩ = some u := fun f u hf hu => by
    rw [World.ownsRow.cellAt ho (i * 3 + f) (by omega), pflat_get _ _ f hi hf, hu]
  have hml := hm _ (List.getElem_mem hi)
  refine ⟨g, c, qs[i].f, qs[i].A, qs[i].a.length, qs[i].c, rfl, hcap, hg, hg2, Row7.of ho, hcell 0 _ (by omega) rfl, hcell 2 _ (by omega) rfl, fun j => World.ownsRow.frozenAt ho j, ?_⟩
  rcases hml.2 with ⟨_, h0⟩ | ⟨g', cap', cur', _, _, _, h1, h2, _⟩
  · omega
  · simp only [maxLen] at h2
    omega
theorem Rows.step {w : World} {B n i j g c m ca : Nat} {A : Option Addr} (h : Rows w B (.slice (some ⟨g, 0, none⟩) n c) n) (hi : i < n) (hd : w.cell? ⟨g, i * 3 + 2, none⟩ = some (.slice A m ca)) (hj : j < m) :
    ∃ gl x, A = some ⟨gl, 0, none⟩ ∧ B ≤ gl ∧ gl < w.heap.size ∧ gl ≠ g ∧ Row7 w gl 44 ∧ w.cell? ⟨gl, j * 2 + 1, none⟩ = some (.int .i64 x) ∧ (∀ q, w.frozen? ⟨gl, q, none⟩ = false) := by
  obtain ⟨qs, rfl, ho, hm⟩ := h
  have h2 : w.cell? ⟨g, i * 3 + 2, none⟩ = some (.slice qs[i].A qs[i].a.length qs[i].c) := by
    rw [World.ownsRow.cellAt ho (i * 3 + 2) (by omega), pflat_get _ _ 2 hi (by omega)]
    rfl
  rw [h2] at hd
  simp only [Option.some.injEq, Value.slice.injEq] at hd
  obtain ⟨e1, e2, e3⟩ := hd
  have hml := hm _ (List.getElem_mem hi)
  rw [e1, e3] at hml
  obtain ⟨gl, cl, e4, hgl, hgl2⟩ := World.ownsRow.form hml (by omega)
  simp only [Value.slice.injEq] at e4
  obtain ⟨rfl, _, rfl⟩ := e4
  have hrl := Row7.of hml
  refine ⟨gl, (qs[i].a[j]'(by omega)).n, rfl, hgl, hgl2, fun e => ?_, hrl, ?_, fun q => World.ownsRow.frozenAt hml q⟩
  · exact own_ne ho hrl (by decide) g rfl e.symm
  · obtain ⟨_, _, e9, _, _, h9⟩ := hml.form
    simp only [Value.slice.injEq] at e9
    obtain ⟨rfl, _, _⟩ := e9
    obtain ⟨g0, o0, e0, _, hc⟩ := h9 (by omega)
    cases e0
    have := hc j (by omega) 1 (.int .i64 (qs[i].a[j]'(by omega)).n) rfl
    rwa [Nat.zero_add] at this

theorem atS_few7 {ps : List Ps} (h : Few ps) (pc : Int) : (atS (ps.map Ps.sp) pc).length ≤ 1000 := by
  unfold atS
  cases e : (ps.map Ps.sp).find? (hasS pc) with
  | none => simp
  | some x =>
    obtain ⟨p, hp, rfl⟩ := List.mem_map.1 (List.mem_of_find?_eq_some e)
    exact h.2 p hp
theorem LLies.row {w : World} {N n c : Nat} {n' : Option Addr} {v : Value} {xs : List Lc} (h : LOwn w N v xs) (hv : v = .slice n' n c) (hn : xs.length = n) {j : Nat} (hj : j < n) :
    ∃ gl x, n' = some ⟨gl, 0, none⟩ ∧ N ≤ gl ∧ gl < w.heap.size ∧ Row7 w gl 44 ∧ w.cell? ⟨gl, j * 2 + 1, none⟩ = some (.int .i64 x) ∧ (∀ q, w.frozen? ⟨gl, q, none⟩ = false) := by
  subst hn
  subst hv
  obtain ⟨gl, cl, e4, hgl, hgl2⟩ := World.ownsRow.form h (by omega)
  simp only [Value.slice.injEq] at e4
  obtain ⟨rfl, _, rfl⟩ := e4
  refine ⟨gl, xs[j].n, rfl, hgl, hgl2, Row7.of h, ?_, fun q => World.ownsRow.frozenAt h q⟩
  obtain ⟨_, _, e9, _, _, h9⟩ := h.form
  simp only [Value.slice.injEq] at e9
  obtain ⟨rfl, _, _⟩ := e9
  obtain ⟨g0, o0, e0, _, hc⟩ := h9 (by omega)
  cases e0
  have := hc j hj 1 (.int .i64 xs[j].n) rfl
  rwa [Nat.zero_add] at this
/-- what stays while the numbers of the answers are turned -/
structure Turn7 (w2 w : World) (N : Nat) (vb vc : Value) (nb nc : Nat) : Prop where
  b : Rows w N vb nb
  c : Rows w N vc nc
  h : Below N w2 w
theorem Turn7.storeL {w2 w : World} {N nb nc gl : Nat} {vb vc : Value} (t : Turn7 w2 w N vb vc nb nc) (hg : N ≤ gl) (hr : Row7 w gl 44) (j : Nat) (u : Int) : Turn7 w2 (w.setCell ⟨gl, j * 2 + 1, none⟩ (.int .i64 u)) N vb vc nb nc :=
  ⟨t.b.storeL hr j u, t.c.storeL hr j u, t.h.setCell (p := ⟨gl, j * 2 + 1, none⟩) hg _⟩
theorem Turn7.storeF {w2 w : World} {N nb nc g : Nat} {vb vc : Value} (t : Turn7 w2 w N vb vc nb nc) (hg : N ≤ g) (hr : Row7 w g 46) (i : Nat) (u : Int) : Turn7 w2 (w.setCell ⟨g, i * 3, none⟩ (.int .i64 u)) N vb vc nb nc :=
  ⟨t.b.storeF hr i u, t.c.storeF hr i u, t.h.setCell (p := ⟨g, i * 3, none⟩) hg _⟩

set_option maxRecDepth 100000 in
set_option maxHeartbeats 4000000 in
theorem locsTells_any (A1 : Option Addr) (c1 : Nat) (ps : List Ps) (pc fr to : Int) (w : World) (h1 : SLies w w.heap.size A1 ps) :
    Calls Try.prog 5 #[.slice A1 ps.length c1, .int .i64 pc, .int .i64 fr, .int .i64 to] w (BoolR true w) := by
  have HVA := Lib.hid (vast7_any A1 c1 ps w h1.1)
  unfold VastR7 at HVA
  have HP := Lib.hid h1
  clear h1
  go_enter Try.func5, Try.ntmps5
  go_wp2_with fail
  refine HVA.out.mono ?_
  rintro e w1 ⟨bv, rfl, hb1, hfew⟩
  have HB1 := Lib.hid hb1
  clear hb1 HVA
  cases bv with
  | true =>
    clear hfew
    go_wp2_with fail
    refine (works7_any _).mono ?_
    rintro e w' ⟨rfl, hbw⟩
    go_wp2_with fail
    go_ret
    exact ⟨rfl, HB1.out.trans (hbw.mono HB1.out.size)⟩
  | false =>
    have HF := Lib.hid (hfew rfl)
    have hpl : ps.length ≤ 5000 := HF.out.1
    clear hfew
    go_wp2_with fail
    refine (twin7_any A1 c1 ps w1 HF.out.sm (by omega) (HP.out.next HB1.out)).mono ?_
    rintro e w2 ⟨t2, rfl, ho2, hb2⟩
    obtain ⟨B2, d2, qs, rfl, e2, hd2, _, hL2⟩ := ho2.form
    have HB2 := Lib.hid (HB1.out.trans (hb2.mono HB1.out.size))
    have HL2 := Lib.hid hL2
    have HE2 := Lib.hid e2
    have hql : qs.length ≤ 5000 := by have := congrArg List.length e2; rw [List.length_map, List.length_map] at this; omega
    have HSQ := Lib.hid (HF.out.of_sp e2).sm
    clear ho2 hb2 hL2 e2
    -- At of the copy
    have HAT := Lib.hid (at7_any B2 d2 qs pc w2 HSQ.out HL2.out)
    unfold MadeLocs at HAT
    rw [HE2.out] at HAT
    have hla := atS_few7 HF.out pc
    have HRA := Lib.hid (fun W (hb : Below w.heap.size w W) => refAt7_any A1 c1 ps pc W HF.out.sm ((HP.out.below hb).more hb.size))
    unfold MadeLocs at HRA
    obtain ⟨la, hla'⟩ : ∃ la, atS (ps.map Ps.sp) pc = la := ⟨_, rfl⟩
    rw [hla'] at HAT HRA hla
    clear hla'
    go_wp2_with fail
    refine HAT.out.mono ?_
    rintro e w3 ⟨t3, rfl, ho3, hb3⟩
    have HB23 := Lib.hid hb3
    have HO3 := Lib.hid ho3
    obtain ⟨Aa, na, ca, rfl, hna, _, _, hLa⟩ := ho3.formN
    have HLa := Lib.hid hLa
    clear ho3 hb3 hLa HAT
    -- Cut and Join of the copy
    have HCU := Lib.hid (cut7_any B2 d2 qs fr to w3 HSQ.out (by omega) (HL2.out.next HB23.out))
    unfold MadeSpans at HCU
    rw [HE2.out] at HCU
    go_wp2_with fail
    refine HCU.out.mono ?_
    rintro e w4 ⟨t4, rfl, ho4, hb4⟩
    have HB24 := Lib.hid (HB23.out.trans (hb4.mono HB23.out.size))
    have HB34 := Lib.hid hb4
    have HO4 := Lib.hid ho4
    obtain ⟨Ab, cb, bs, rfl, eb, _, _, hLb⟩ := ho4.form
    have HLb := Lib.hid hLb
    have HEb := Lib.hid eb
    clear ho4 hb4 hLb HCU eb
    have HJO := Lib.hid (join7_any B2 d2 qs w4 hd2 HSQ.out (by omega) (HL2.out.next HB24.out))
    unfold MadeSpans at HJO
    rw [HE2.out] at HJO
    go_wp2_with fail
    refine HJO.out.mono ?_
    rintro e w5 ⟨t5, rfl, ho5, hb5⟩
    have HB25 := Lib.hid (HB24.out.trans (hb5.mono HB24.out.size))
    have HB45 := Lib.hid hb5
    have HO5 := Lib.hid ho5
    obtain ⟨Ac, cc, js, rfl, ec, _, _, hLc⟩ := ho5.form
    have HLc := Lib.hid hLc
    have HEc := Lib.hid ec
    clear ho5 hb5 hLc HJO ec
    -- the document's At, and the same
    have HBW := fun W (hb : Below w2.heap.size w2 W) => HB2.out.trans (hb.mono HB2.out.size)
    have HBWH := Lib.hid HBW
    have H6 := Lib.hid (HRA.out w5 (HBW _ HB25.out))
    clear HBW HRA
    go_wp2_with fail
    refine H6.out.mono ?_
    rintro e w6 ⟨t6, rfl, ho6, hb6⟩
    have HB56 := Lib.hid hb6
    have HB26 := Lib.hid (HB25.out.trans (hb6.mono HB25.out.size))
    obtain ⟨A6, n6, c6, rfl, hn6, _, _, hL6⟩ := ho6.formN
    obtain rfl : na = n6 := hna.out.symm.trans hn6.out
    have HSM := Lib.hid (same6_b Aa A6 ca c6 la na w6 hna.out (by omega) (((HLa.out.next HB34.out).next HB45.out).next HB56.out) hL6)
    unfold TrueR6 at HSM
    clear ho6 hb6 hL6 H6
    go_wp2_with fail
    refine HSM.out.mono ?_
    rintro e w7 ⟨rfl, hb7⟩
    have HB67 := Lib.hid hb7
    have HB27 := Lib.hid (HB26.out.trans (hb7.mono HB26.out.size))
    clear hb7 HSM
    -- the document's Cut, and the same
    have H8 := Lib.hid (refCut7_any A1 c1 ps fr to w7 HF.out.sm (by omega) ((HP.out.below (HBWH.out _ HB27.out)).more (HBWH.out _ HB27.out).size))
    unfold MadeSpans at H8
    have hbl : bs.length ≤ 10000 := by
      have h9 : (bs.map Ps.sp).length = (cutL fr to (ps.map Ps.sp)).length := by rw [HEb.out]
      rw [List.length_map] at h9
      rw [h9]
      unfold cutL
      split
      · rw [List.length_map]; omega
      · rw [← pieces_sp, List.length_map]
        have := pieces_len fr to ps
        omega
    have hbs : ∀ p ∈ bs, p.a.length ≤ 1000 := fun p hp => by
      have h9 : p.sp ∈ cutL fr to (ps.map Ps.sp) := by rw [← HEb.out]; exact List.mem_map_of_mem hp
      unfold cutL at h9
      split at h9
      · obtain ⟨q, hq, e⟩ := List.mem_map.1 h9
        have h8 := HF.out.2 q hq
        have h7 : q.a = p.a := congrArg Sp.a e
        rw [← h7]
        exact h8
      · rw [← pieces_sp] at h9
        obtain ⟨q, hq, e⟩ := List.mem_map.1 h9
        obtain ⟨r, hr, e8, _⟩ := pieces_mem hq
        have h8 := HF.out.2 r hr
        have h7 : q.a = p.a := congrArg Sp.a e
        rw [← h7, e8]
        exact h8
    have HSB := Lib.hid (show Sm bs from ⟨by omega, fun p hp => by have := hbs p hp; omega⟩)
    clear hbs
    go_wp2_with fail
    refine H8.out.mono ?_
    rintro e w8 ⟨t8, rfl, ho8, hb8⟩
    have HB28 := Lib.hid (HB27.out.trans (hb8.mono HB27.out.size))
    obtain ⟨A8, c8, r8, rfl, e8, _, _, hL8⟩ := ho8.form
    have HS8 := Lib.hid (same7_any Ab A8 cb c8 bs r8 w8 (by rw [HEb.out, e8]) HSB.out ((((HLb.out.next HB45.out).next HB56.out).next HB67.out).next hb8) hL8)
    unfold BoolR at HS8
    have HB78 := Lib.hid hb8
    clear ho8 hb8 hL8 e8 H8
    go_wp2_with fail
    refine HS8.out.mono ?_
    rintro e w9 ⟨rfl, hb9⟩
    have HB89 := Lib.hid hb9
    have HB29 := Lib.hid (HB28.out.trans (hb9.mono HB28.out.size))
    clear hb9 HS8
    -- the document's Join, and the same
    have H10 := Lib.hid (refJoin7_any A1 c1 ps w9 HF.out.sm (by omega) ((HP.out.below (HBWH.out _ HB29.out)).more (HBWH.out _ HB29.out).size))
    unfold MadeSpans at H10
    have hjl : js.length ≤ 5000 := by
      have h9 : (js.map Ps.sp).length = (joinL (ps.map Ps.sp)).length := by rw [HEc.out]
      have h8 := joinL_len (ps.map Ps.sp)
      rw [List.length_map] at h9 h8
      omega
    have hjs : ∀ p ∈ js, p.a.length ≤ 1000 := fun p hp => by
      have h9 : p.sp ∈ joinL (ps.map Ps.sp) := by rw [← HEc.out]; exact List.mem_map_of_mem hp
      rw [← joinQ_sp] at h9
      obtain ⟨q, hq, e⟩ := List.mem_map.1 h9
      obtain ⟨r, hr, e8, _⟩ := joinQ_mem hq
      have h8 := HF.out.2 r hr
      have h7 : q.a = p.a := congrArg Sp.a e
      rw [← h7, e8]
      exact h8
    have HSJ := Lib.hid (show Sm js from ⟨by omega, fun p hp => by have := hjs p hp; omega⟩)
    clear hjs
    go_wp2_with fail
    refine H10.out.mono ?_
    rintro e wa ⟨ta, rfl, hoa, hba⟩
    have HB2a := Lib.hid (HB29.out.trans (hba.mono HB29.out.size))
    have HB9a := Lib.hid hba
    obtain ⟨A10, c10, r10, rfl, e10, _, _, hL10⟩ := hoa.form
    have HS10 := Lib.hid (same7_any Ac A10 cc c10 js r10 wa (by rw [HEc.out, e10]) HSJ.out (((((HLc.out.next HB56.out).next HB67.out).next HB78.out).next HB89.out).next hba) hL10)
    unfold BoolR at HS10
    clear hoa hba hL10 e10 H10
    go_wp2_with fail
    refine HS10.out.mono ?_
    rintro e wb ⟨rfl, hbb⟩
    have HB2b := Lib.hid (HB2a.out.trans (hbb.mono HB2a.out.size))
    -- what is answered is turned
    have HOA := Lib.hid (((((((HO3.out.below HB34.out).below HB45.out).below HB56.out).below HB67.out).below HB78.out).below HB89.out).below HB9a.out |>.below hbb)
    have HOB := Lib.hid ((((((((HO4.out.rows.below HB45.out).below HB56.out).below HB67.out).below HB78.out).below HB89.out).below HB9a.out).below hbb).base HB23.out.size)
    have HOC := Lib.hid (((((((HO5.out.rows.below HB56.out).below HB67.out).below HB78.out).below HB89.out).below HB9a.out).below hbb).base HB24.out.size)
    rw [← HEb.out, List.length_map] at HOB
    rw [← HEc.out, List.length_map] at HOC
    have HT0 := Lib.hid (show Turn7 w2 wb w2.heap.size (.slice Ab bs.length cb) (.slice Ac js.length cc) bs.length js.length from ⟨HOB.out, HOC.out, HB2b.out⟩)
    clear hbb HS10 HOB HOC HO3 HO4 HO5 HLa HLb HLc HB34 HB45 HB56 HB67 HB78 HB89 HB9a HEb HEc HSB HSJ
    have hna2 : la.length = na := hna.out
    have hna3 : na ≤ 1000 := by omega
    have HN2 := Lib.hid hna2
    clear hna2 hla hna
    generalize bs.length = nb at *
    generalize js.length = nc at *
    go_wp2_with fail
    go_loopw [13] (fun i wr => ∃ k : Nat, k ≤ na ∧ i = .int .i64 k ∧ Hid (∃ xs : List Lc, xs.length = na ∧ LOwn wr w2.heap.size (.slice Aa na ca) xs) ∧ Hid (Turn7 w2 wr w2.heap.size (.slice Ab nb cb) (.slice Ac nc cc) nb nc)) (fun i _ => na - (intOf i).toNat)
    case atStart => exact ⟨0, by omega, rfl, ⟨la, HN2.out, HOA.out⟩, HT0⟩
    case round =>
      obtain ⟨k, hk, rfl, hL, hT⟩ := hrel
      by_cases hlt : k < na
      · obtain ⟨xs, hxl, hxo⟩ := hL.out
        obtain ⟨gl, x, rfl, hgl, hgl2, hrow, hx, hfz⟩ := LLies.row hxo rfl hxl hlt
        have HX := Lib.hid (fun u : Int => (hxo.store (gl := gl) k u))
        have HTS := Lib.hid (fun u : Int => hT.out.storeL hgl hrow k u)
        have HXL := Lib.hid hxl
        have hfz2 := hfz (k * 2 + 1)
        clear hxo hfz hL hT hxl
        go_wp2
        go_roundw
        case rel =>
          refine ⟨k + 1, by omega, by go_num, ?_, HTS.out _⟩
          obtain ⟨xs', h1, h2⟩ := HX.out _
          exact ⟨xs', h1.trans HXL.out, h2⟩
        case measure => simp [intOf]; omega
      · obtain rfl : na = k := by omega
        have HT1 := hT
        clear hL hT HOA HT0
        go_wp2_with fail
        go_loopw [14, 15] (fun i _ wr => ∃ k : Nat, k ≤ nb ∧ i = .int .i64 k ∧ Hid (Turn7 w2 wr w2.heap.size (.slice Ab nb cb) (.slice Ac nc cc) nb nc)) (fun i _ _ => nb - (intOf i).toNat)
        case atStart => exact ⟨0, by omega, rfl, HT1⟩
        case round =>
          obtain ⟨k, hk, rfl, hT⟩ := hrel
          by_cases hlt : k < nb
          · obtain ⟨g, cg, f, Am, m, cm, ev, _, hg, hg2, hrow, hf, hd, hfz, hm⟩ := hT.out.b.at_ hlt
            simp only [Value.slice.injEq] at ev
            obtain ⟨rfl, _, rfl⟩ := ev
            have hfz2 := hfz (k * 3)
            have HTS := Lib.hid (fun u : Int => hT.out.storeF hg hrow k u)
            have HD := Lib.hid (fun u : Value => show (wr.setCell ⟨g, k * 3, none⟩ u).cell? ⟨g, k * 3 + 2, none⟩ = some (.slice Am m cm) from (World.cell?_setCell_other _ _ _ u (by simp)).trans hd)
            have HRW := Lib.hid hrow
            clear hfz hT hrow
            go_wp2
            go_loopw [15] (fun j wr => ∃ k' : Nat, k' ≤ m ∧ j = .int .i64 k' ∧ Hid (Turn7 w2 wr w2.heap.size (.slice (some ⟨g, 0, none⟩) nb cb) (.slice Ac nc cc) nb nc) ∧ Hid (wr.cell? ⟨g, k * 3 + 2, none⟩ = some (.slice Am m cm))) (fun j _ => m - (intOf j).toNat)
            case atStart => exact ⟨0, by omega, rfl, HTS.out _, HD.out _⟩
            case round =>
              obtain ⟨k', hk', rfl, hT, hD⟩ := hrel
              have hd' := hD.out
              by_cases hlt' : k' < m
              · obtain ⟨gl, x, rfl, hgl, hgl2, hne, hrowl, hx, hfz⟩ := hT.out.b.step hlt hd' hlt'
                have HTL := Lib.hid (fun u : Int => hT.out.storeL hgl hrowl k' u)
                have HDL := Lib.hid (fun u : Value => (World.cell?_of_block (Below.heap_setCell wr ⟨gl, k' * 2 + 1, none⟩ u g (fun q => hne q.symm))).trans hd')
                have hfz2 := hfz (k' * 2 + 1)
                clear hfz hT hrowl hD
                go_wp2
                go_roundw
                case rel => exact ⟨k' + 1, by omega, by go_num, HTL.out _, HDL.out _⟩
                case measure => simp [intOf]; omega
              · obtain rfl : m = k' := by omega
                have HTE := hT
                clear hT hD HTS HD
                go_wp2
                go_roundw
                case rel => exact ⟨k + 1, by omega, by go_num, HTE⟩
                case measure => simp [intOf]; omega
          · obtain rfl : nb = k := by omega
            have HT2 := hT
            clear hT HT1
            go_wp2_with fail
            go_loopw [16, 17] (fun i _ wr => ∃ k : Nat, k ≤ nc ∧ i = .int .i64 k ∧ Hid (Turn7 w2 wr w2.heap.size (.slice Ab nb cb) (.slice Ac nc cc) nb nc)) (fun i _ _ => nc - (intOf i).toNat)
            case atStart => exact ⟨0, by omega, rfl, HT2⟩
            case round =>
              obtain ⟨k, hk, rfl, hT⟩ := hrel
              by_cases hlt : k < nc
              · obtain ⟨g, cg, f, Am, m, cm, ev, _, hg, hg2, hrow, hf, hd, hfz, hm⟩ := hT.out.c.at_ hlt
                simp only [Value.slice.injEq] at ev
                obtain ⟨rfl, _, rfl⟩ := ev
                have hfz2 := hfz (k * 3)
                have HTS := Lib.hid (fun u : Int => hT.out.storeF hg hrow k u)
                have HD := Lib.hid (fun u : Value => show (wr.setCell ⟨g, k * 3, none⟩ u).cell? ⟨g, k * 3 + 2, none⟩ = some (.slice Am m cm) from (World.cell?_setCell_other _ _ _ u (by simp)).trans hd)
                have HRW := Lib.hid hrow
                clear hfz hT hrow
                go_wp2
                go_loopw [17] (fun j wr => ∃ k' : Nat, k' ≤ m ∧ j = .int .i64 k' ∧ Hid (Turn7 w2 wr w2.heap.size (.slice Ab nb cb) (.slice (some ⟨g, 0, none⟩) nc cc) nb nc) ∧ Hid (wr.cell? ⟨g, k * 3 + 2, none⟩ = some (.slice Am m cm))) (fun j _ => m - (intOf j).toNat)
                case atStart => exact ⟨0, by omega, rfl, HTS.out _, HD.out _⟩
                case round =>
                  obtain ⟨k', hk', rfl, hT, hD⟩ := hrel
                  have hd' := hD.out
                  by_cases hlt' : k' < m
                  · obtain ⟨gl, x, rfl, hgl, hgl2, hne, hrowl, hx, hfz⟩ := hT.out.c.step hlt hd' hlt'
                    have HTL := Lib.hid (fun u : Int => hT.out.storeL hgl hrowl k' u)
                    have HDL := Lib.hid (fun u : Value => (World.cell?_of_block (Below.heap_setCell wr ⟨gl, k' * 2 + 1, none⟩ u g (fun q => hne q.symm))).trans hd')
                    have hfz2 := hfz (k' * 2 + 1)
                    clear hfz hT hrowl hD
                    go_wp2
                    go_roundw
                    case rel => exact ⟨k' + 1, by omega, by go_num, HTL.out _, HDL.out _⟩
                    case measure => simp [intOf]; omega
                  · obtain rfl : m = k' := by omega
                    have HTE := hT
                    clear hT hD HTS HD
                    go_wp2
                    go_roundw
                    case rel => exact ⟨k + 1, by omega, by go_num, HTE⟩
                    case measure => simp [intOf]; omega
              · obtain rfl : nc = k := by omega
                have HBE := hT.out.h
                have HSE := Lib.hid (same7_any B2 A1 d2 c1 qs ps wr HE2.out HSQ.out ((HL2.out.below HBE).more HBE.size) ((HP.out.below (HBWH.out _ HBE)).more (HBWH.out _ HBE).size))
                unfold BoolR at HSE
                have HBX := Lib.hid (HBWH.out _ HBE)
                clear HBE hT HT2
                go_wp2_with fail
                refine HSE.out.mono ?_
                rintro e wx ⟨rfl, hbx⟩
                have HBY := Lib.hid (HBX.out.trans (hbx.mono HBX.out.size))
                clear hbx HSE
                go_wp2_with fail
                refine (works7_any _).mono ?_
                rintro e w' ⟨rfl, hbw⟩
                go_wp2_with fail
                go_ret
                exact ⟨rfl, HBY.out.trans (hbw.mono HBY.out.size)⟩
end Go.Proofs.Ytggofdahnbchjaa
