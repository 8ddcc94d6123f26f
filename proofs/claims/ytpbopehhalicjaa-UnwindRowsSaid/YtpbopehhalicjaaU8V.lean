/-
  Contract of unwind.Up, of an entry that is found and right alone, and of words that are there.
-/
import Derived.Test.YtpbopehhalicjaaU8U
import Derived.BigRegion
namespace Go.Proofs.Ytpbopehhalicjaa
open Go Go.RowKit

theorem res_tmp_row_tmp {P : Program} {fn : Func} {p u v : Tmp} {ty : TypeId} (h : fn.results = #[.tmp u, .cell p ty, .tmp v]) (tmps : Array Value) (w : World) (g : Nat) (t : TypeId) (cs : Array Value) (fr : Nat × Nat) (d : TypeDesc)
    (hp : tmps.getD p undef = .pointer (some ⟨g, 0, none⟩)) (hg : w.heap[g]? = some (.cells cs t fr))
    (hu : P.underlying ty = some d) (hd : (match d with | .struct _ | .array _ _ => true | _ => false) = true) (hi : (P.info? ty).map (·.size) = some cs.size) :
    (results fn tmps).run P w = .ok (.tuple #[tmps.getD u undef, .agg cs, tmps.getD v undef]) w := by
  have hp' : tmps[p]?.getD undef = .pointer (some ⟨g, 0, none⟩) := by simpa using hp
  simp [results, h, hp', asAddr, run_loadVar_row w g t ty cs fr d hg hu hd hi]
theorem up_res {fn : Func} {p u v : Tmp} (h : fn.results = #[.tmp u, .cell p 34, .tmp v]) (tmps : Array Value) (w : World) (g : Nat) (cs : List Value) (hp : tmps.getD p undef = .pointer (some ⟨g, 0, none⟩)) (hs : CAt w g 34 cs) (hl : cs.length = 4) :
    (results fn tmps).run Try.prog w = .ok (.tuple #[tmps.getD u undef, .agg cs.toArray, tmps.getD v undef]) w :=
  res_tmp_row_tmp h tmps w g 34 cs.toArray (0, 0) _ hp hs Try.underlying34 rfl (by rw [List.size_toArray, hl]; kernel_rfl)
def UpR8 (V : Vw) (p : Ps) (base way : Int) (w : World) (e : Ending) (w' : World) : Prop :=
  ∃ V2 : Vw, e = .returned (.tuple #[.int .i64 way, .agg (vC V2), .int .i64 0]) ∧ VL w' w'.heap.size V2 ∧ V2.K = callK.set 15 true ∧ V2.R = (savR V.W base (keptL 0 V.R) p.a).set 15 base ∧ V2.W = V.W ∧ Below w.heap.size w w'
theorem right_one {p : Ps} (h : rightL [p.sp] = true) : okF 0 p.sp ∧ riseL 5 p.a = true := by
  unfold rightL at h
  rw [Bool.and_eq_true] at h
  simp only [okA, Bool.and_true] at h
  exact okE_of h.2
theorem CLies.set {w : World} {B : Nat} {A : Option Addr} {l : List Value} (h : CLies w B A l) {p : Addr} (hp : ∀ a, A = some a → a.block ≠ p.block) (u : Value) : CLies (w.setCell p u) B A l := fun hl => by
  obtain ⟨g, o, e, hg, hc⟩ := h hl
  exact ⟨g, o, e, hg, fun j hj => (World.cell?_of_block (Below.heap_setCell w p u g (hp _ e))).trans (hc j hj)⟩
theorem VL.set {W : World} {B : Nat} {V : Vw} (h : VL W B V) {p : Addr} (h1 : V.a1.block ≠ p.block) (h2 : V.a2.block ≠ p.block) (h3 : ∀ a, V.A3 = some a → a.block ≠ p.block) (u : Value) : VL (W.setCell p u) B V :=
  ⟨h.hK, h.hR, h.h1, h.h2, h.k.set (fun a e => by injection e with e; subst e; exact h1) u, h.r.set (fun a e => by injection e with e; subst e; exact h2) u, h.ww.set h3 u, h.nil, h.nW⟩
theorem CAt.drew {W : World} {g : Nat} {e : TypeId} {cs : List Value} (h : CAt W g e cs) : CAt W.drew g e cs := h
theorem VL.drew {W : World} {B : Nat} {V : Vw} (h : VL W B V) : VL W.drew B V := ⟨h.hK, h.hR, h.h1, h.h2, h.k, h.r, h.ww, h.nil, h.nW⟩
theorem VL.all4 {W : World} {B b : Nat} {V : Vw} (h : VL W B V) (h1 : V.a1.block ≠ b) (h2 : V.a2.block ≠ b) (h3 : ∀ a, V.A3 = some a → a.block ≠ b) (u0 u1 u2 u3 : Value) : VL ((((W.setCell ⟨b, 0, none⟩ u0).setCell ⟨b, 1, none⟩ u1).setCell ⟨b, 2, none⟩ u2).setCell ⟨b, 3, none⟩ u3) B V :=
  (((h.set (p := ⟨b, 0, none⟩) h1 h2 h3 u0).set (p := ⟨b, 1, none⟩) h1 h2 h3 u1).set (p := ⟨b, 2, none⟩) h1 h2 h3 u2).set (p := ⟨b, 3, none⟩) h1 h2 h3 u3
theorem right_n1 (g c : Nat) (p : Ps) (w : World) (hal : p.a.length ≤ 1000000) (hr : rightL [p.sp] = true) (h : SLies w w.heap.size (some ⟨g, 0, none⟩) [p]) : Calls Try.prog 14 #[.slice (some ⟨g, 0, none⟩) 1 c] w (BoolR true w) := by
  have := right8_any (some ⟨g, 0, none⟩) c [p] w ⟨by simp, fun q hq => by simp at hq; subst hq; omega⟩ h
  simp only [List.map_cons, List.map_nil, hr, List.length_cons, List.length_nil] at this
  exact this

set_option maxRecDepth 100000 in
set_option maxHeartbeats 8000000 in
theorem up8_any (A : Option Addr) (c : Nat) (ps : List Ps) (pc : Int) (n : Nat) (V : Vw) (w : World) (hn : n < ps.length) (hls : ps.length ≤ 1000000) (hal : ps[n].a.length ≤ 1000000) (hyes : hasP pc ps[n]) (hno : ∀ j (hj : j < n), ¬ hasP pc ps[j]) (h : SLies w w.heap.size A ps)
    (hV : VL w w.heap.size V) (hk : ∀ h, V.K[15]'h = true) (r15 : Int) (hr : ∀ h, V.R[15]'h = r15) (h0 : 0 ≤ r15) (h1 : r15 ≤ 1000000) (hright : rightL [ps[n].sp] = true)
    (hkn : ∀ j (hj : j < 16), 6 ≤ j → j ≤ 11 → V.K[j]'(by have := hV.hK; omega) = true)
    (bk : Nat) (way : Int) (hbk : r15 + ps[n].u - 1 = bk) (hbl : bk < V.W.length) (hway : V.W[bk] = way) (hw0 : 0 ≤ way) (hw1 : way < 16777216)
    (hin : ∀ x ∈ ps[n].a, 0 ≤ r15 + ps[n].u + x.n ∧ r15 + ps[n].u + x.n < V.W.length) :
    Calls Try.prog 6 #[.slice A ps.length c, .int .i64 pc, .agg (vC V)] w (UpR8 V ps[n] (r15 + ps[n].u) way w) := by
  obtain ⟨⟨rf0, rf1, rf2, rf3, rf4⟩, hrise⟩ := right_one hright
  have hu0 : 0 ≤ ps[n].u := rf3
  have hu1 : ps[n].u ≤ 65536 := rf4
  have hb1 := below_lnew w (.cells (vC V) 34)
  have hb2 := below_lnew (w.alloc (.cells (vC V) 34)) (.cells vZ.toArray 34)
  have HV2 := Lib.hid ((viewAt_new w V).below hb2 (by simp))
  have hZ2 : CAt ((w.alloc (.cells (vC V) 34)).alloc (.cells vZ.toArray 34)) (w.heap.size + 1) 34 vZ := by
    have := heap_alloc_new (w.alloc (.cells (vC V) 34)) (.cells vZ.toArray 34)
    rw [World.size_alloc] at this
    exact this
  have HZ2 := Lib.hid hZ2
  have HB2 := Lib.hid (hb1.trans (hb2.mono hb1.size))
  have hz2 : w.heap.size + 2 ≤ ((w.alloc (.cells (vC V) 34)).alloc (.cells vZ.toArray 34)).heap.size := by simp
  have HL2 := Lib.hid ((hV.below HB2.out).more HB2.out.size)
  have HF := Lib.hid (frame8_any A c ps pc n V _ hn hls hal hyes hno ((h.below HB2.out).more HB2.out.size) HL2.out hk r15 hr h0 h1 hu0 hu1)
  have HVL := Lib.hid hV
  have HKN := Lib.hid (show ∀ j (hj : j < 16) (hl : j < V.K.length), 6 ≤ j → j ≤ 11 → V.K[j] = true from fun j hj _ a b => hkn j hj a b)
  have HRT := Lib.hid hright
  have HRI := Lib.hid (fun (x : Lc) (hx : x ∈ ps[n].a) => (⟨riseL_mem hrise x hx, hin x hx⟩ : ((5 : Int) < x.k ∧ x.k ≤ 11 ∧ -65536 ≤ x.n ∧ x.n ≤ -2) ∧ 0 ≤ r15 + ps[n].u + x.n ∧ r15 + ps[n].u + x.n < V.W.length))
  have HWY := Lib.hid hway
  have hnw := hV.nW
  have hnil := hV.nil
  have HNIL := Lib.hid hnil
  clear hb1 hb2 hZ2 h hV hk hr hyes hno hright hkn hin hrise hway hnil rf0 rf1 rf2 rf3 rf4
  have x0 := HV2.out.k
  have x1 := HV2.out.r
  have x2 := HV2.out.b
  have x3 := HV2.out.wd
  unfold FramedR at HF
  generalize hpe : ps[n] = p at *
  have HPE := Lib.hid hpe
  clear hpe
  obtain ⟨pf, pt, pu, pa, pA, pc'⟩ := p
  dsimp only [Ps.sp] at HF HRT HRI hal hu0 hu1 hbk
  generalize hbe : r15 + pu = base at *
  have HBE9 := Lib.hid hbe
  have hbs0 : 0 ≤ base := by omega
  have hbs1 : base ≤ 10000000 := by omega
  clear hbe
  unfold vC vZ at HV2 HZ2 HB2 HF HL2 hz2 x0 x1 x2 x3
  unfold vC
  go_enter Try.func6, Try.ntmps6
  go_wp2_with fail
  generalize ((w.alloc (.cells #[.slice (some V.a1) 16 V.c1, .slice (some V.a2) 16 V.c2, .int .i64 V.B, .slice V.A3 V.W.length V.c3] 34)).alloc (.cells #[.slice none 0 0, .slice none 0 0, .int .i64 0, .slice none 0 0] 34)) = W at *
  clear x0 x1 x2 x3
  refine HF.out.mono ?_
  rintro e w3 ⟨A5, c5, rfl, ho3, hb3⟩
  have hb4 := below_lnew w3 (.cells (pK ⟨pf, pt, pu, pa, A5, c5⟩) 29)
  have hb5 := below_lnew (w3.alloc (.cells (pK ⟨pf, pt, pu, pa, A5, c5⟩) 29)) (.cells (pK ⟨pf, pt, pu, pa, A5, c5⟩) 29)
  have hz3 := hb3.size
  have HV4 := Lib.hid (((HV2.out.below hb3 HV2.out.lt).below hb4 (by have := HV2.out.lt; omega)).below hb5 (by have := HV2.out.lt; simp; omega))
  have HZ4 := Lib.hid (((HZ2.out.below hb3 HZ2.out.lt).below hb4 (by have := HZ2.out.lt; omega)).below hb5 (by have := HZ2.out.lt; simp; omega))
  have HL4 := Lib.hid (((HL2.out.next hb3).next hb4).next hb5)
  have HB4 := Lib.hid (((HB2.out.trans (hb3.mono HB2.out.size)).trans (hb4.mono (by omega))).trans (hb5.mono (by simp; omega)))
  have HU4 := Lib.hid ((spAt_new w3 ⟨pf, pt, pu, pa, A5, c5⟩).below hb5 (by simp))
  have HO4 := Lib.hid ((ho3.below hb4).below hb5)
  have HS4 := Lib.hid (show SLies ((w3.alloc (.cells (pK ⟨pf, pt, pu, pa, A5, c5⟩) 29)).alloc (.cells (pK ⟨pf, pt, pu, pa, A5, c5⟩) 29)) ((w3.alloc (.cells (pK ⟨pf, pt, pu, pa, A5, c5⟩) 29)).alloc (.cells (pK ⟨pf, pt, pu, pa, A5, c5⟩) 29)).heap.size (some ⟨w3.heap.size + 1, 0, none⟩) [(⟨pf, pt, pu, pa, A5, c5⟩ : Ps)] from by
    have hs := spAt_new (w3.alloc (.cells (pK ⟨pf, pt, pu, pa, A5, c5⟩) 29)) ⟨pf, pt, pu, pa, A5, c5⟩
    rw [World.size_alloc] at hs
    refine ⟨fun _ => ⟨w3.heap.size + 1, 0, rfl, by simp, fun j hj f u hu => ?_⟩, fun q hq => ?_⟩
    · obtain rfl : j = 0 := by simp at hj; omega
      unfold SpAt at hs
      simp only [World.cell?, hs]
      simpa [pC] using hu
    · rw [List.mem_singleton] at hq
      subst hq
      exact lown_mn HO4.out)
  have u0 := (spAt_new w3 ⟨pf, pt, pu, pa, A5, c5⟩).fr
  have u1 := (spAt_new w3 ⟨pf, pt, pu, pa, A5, c5⟩).to
  have u2 := (spAt_new w3 ⟨pf, pt, pu, pa, A5, c5⟩).up
  have u3 := (spAt_new w3 ⟨pf, pt, pu, pa, A5, c5⟩).at_
  unfold pK at HV4 HZ4 HL4 HB4 HU4 HO4 HS4 u0 u1 u2 u3
  dsimp only at HV4 HZ4 HL4 HB4 HU4 HO4 HS4 u0 u1 u2 u3
  clear hb3 hb4 hb5 ho3 HF HV2 HZ2 HL2 HB2
  go_wp2_with fail
  clear u0 u1 u2 u3
  generalize ((w3.alloc (.cells #[.int .i64 pf, .int .i64 pt, .int .i64 pu, .slice A5 pa.length c5] 29)).alloc (.cells #[.int .i64 pf, .int .i64 pt, .int .i64 pu, .slice A5 pa.length c5] 29)) = X4 at *
  generalize w3.heap.size = gu at *
  refine (right_n1 (gu + 1) 1 ⟨pf, pt, pu, pa, A5, c5⟩ X4 hal HRT.out HS4.out).mono ?_
  rintro e w5 ⟨rfl, hb5⟩
  have HV5 := Lib.hid (HV4.out.below hb5 HV4.out.lt)
  have HZ5 := Lib.hid (HZ4.out.below hb5 HZ4.out.lt)
  have HL5 := Lib.hid (HL4.out.next hb5)
  have HB5 := Lib.hid (HB4.out.trans (hb5.mono HB4.out.size))
  have HU5 := Lib.hid (HU4.out.below hb5 HU4.out.lt)
  have HO5 := Lib.hid (HO4.out.below hb5)
  have v0 := HV5.out.k
  have v1 := HV5.out.r
  have v2 := HV5.out.b
  have v3 := HV5.out.wd
  have u0 := HU5.out.fr
  have u1 := HU5.out.to
  have u2 := HU5.out.up
  have u3 := HU5.out.at_
  dsimp only at u0 u1 u2 u3
  clear hb5 HV4 HZ4 HL4 HB4 HU4 HS4 HO4 hz2 hz3
  go_wp2_with fail
  refine (word_in V.A3 V.c3 V.W bk _ w5 (by first | rfl | exact hbk | omega | (rw [wrap8 (by omega) (by omega)]; omega)) hbl (by omega) HL5.out.ww).mono ?_
  rintro e w6 ⟨rfl, rfl⟩
  rw [HWY.out]
  have HM5 := Lib.hid (show LLies w5 w5.heap.size A5 pa from by
    obtain ⟨A6, c6, e6, _, _, h6⟩ := HO5.out.form
    injection e6 with q1 _ _
    rw [q1]
    exact h6)
  have HCL := Lib.hid (caller8_any pf pt pu pa A5 c5 base V w5 hal HM5.out HL5.out (fun j hj a b => HKN.out j hj _ a b) (fun x hx => by have := HRI.out x hx; omega) hbs0 hbs1)
  go_wp2_with fail
  refine HCL.out.mono ?_
  rintro e w7 ⟨V2, rfl, hL7, hK7, hR7, hW7, hb7, hf1, hf2, hf3⟩
  have HZ7 := Lib.hid (HZ5.out.below hb7 HZ5.out.lt)
  have z0 := HZ7.out.cell (j := 0) (by simp)
  have z1 := HZ7.out.cell (j := 1) (by simp)
  have z2 := HZ7.out.cell (j := 2) (by simp)
  have z3 := HZ7.out.cell (j := 3) (by simp)
  have zf := HZ7.out.frozen
  simp only [List.getElem_cons_zero, List.getElem_cons_succ] at z0 z1 z2 z3
  have HB7 := Lib.hid (HB5.out.trans (hb7.mono HB5.out.size))
  have HE7 := Lib.hid (And.intro hL7 (And.intro hK7 (And.intro hR7 hW7)))
  have HF7 := Lib.hid (And.intro hf1 (And.intro hf2 hf3))
  have hzlt := HZ5.out.lt
  have hzl7 := HZ7.out.lt
  obtain ⟨b1, d1, b2, d2, Bs2, B3, d3, K2, R2, W2⟩ := V2
  unfold vC
  dsimp only
  clear hb7 hL7 hK7 hR7 hW7 hf1 hf2 hf3 v0 v1 v2 v3 u0 u1 u2 u3 HCL
  go_wp2_with fail
  go_region
  go_wp2_with fail
  obtain ⟨hL7, hK7, hR7, hW7⟩ := HE7.out
  obtain ⟨hf1, hf2, hf3⟩ := HF7.out
  try dsimp only at hf1
  try dsimp only at hf2
  try dsimp only at hf3
  try dsimp only at hK7
  try dsimp only at hR7
  try dsimp only at hW7
  have g1 : b1.block ≠ w.heap.size + 1 := by omega
  have g2 : b2.block ≠ w.heap.size + 1 := by omega
  have g3 : ∀ a, B3 = some a → a.block ≠ w.heap.size + 1 := fun a e => by have := hf3 a e; omega
  have hLL := (hL7.all4 (b := w.heap.size + 1) g1 g2 g3 (.slice (some b1) 16 d1) (.slice (some b2) 16 d2) (.int .i64 Bs2) (.slice B3 W2.length d3)).all4 (b := w.heap.size + 1) g1 g2 g3 (.slice (some b1) 16 d1) (.slice (some b2) 16 d2) (.int .i64 Bs2) (.slice B3 W2.length d3)
  refine bodyPost_ret (up_res rfl _ _ (w.heap.size + 1) _ rfl (CAt.drew (cat_all4 (cat_all4 HZ7.out (.slice (some b1) 16 d1) (.slice (some b2) 16 d2) (.int .i64 Bs2) (.slice B3 W2.length d3)) (.slice (some b1) 16 d1) (.slice (some b2) 16 d2) (.int .i64 Bs2) (.slice B3 W2.length d3))) rfl) rfl ?_
  unfold UpR8
  try rw [HPE.out]
  try dsimp only
  try rw [HBE9.out]
  refine ⟨⟨b1, d1, b2, d2, Bs2, B3, d3, K2, R2, W2⟩, rfl, ?_, hK7, hR7, hW7, (below_all (below_all HB7.out (Nat.le_succ _) _ _ _ _) (Nat.le_succ _) _ _ _ _).drew⟩
  exact hLL.drew.more (below_all (below_all (Below.refl 0 w7) (Nat.zero_le _) (.slice (some b1) 16 d1) (.slice (some b2) 16 d2) (.int .i64 Bs2) (.slice B3 W2.length d3)) (Nat.zero_le (w.heap.size + 1)) (.slice (some b1) 16 d1) (.slice (some b2) 16 d2) (.int .i64 Bs2) (.slice B3 W2.length d3)).drew.size
end Go.Proofs.Ytpbopehhalicjaa
