/-
  Merged for a claim: S9D.
-/
import Derived.Test.YtbkfkdiadeaooaaGreatHS9C
import Derived.Test.YtbkfkdiadeaooaaGreatHJ5
import Derived.Laws.EntriesVeiled
namespace Go.Proofs.YtbkfkdiadeaooaaGreat
open Go Go.RowKit

theorem run_enter9 {f : FuncId} {fn : Func} (hf : Tryz.prog.funcs[f]? = some fn) (hn : (fn.name == "runtime.NumGoroutine") = false) (hb : fn.body.isNone = false) (args : Array Value) (w : World) : (callFunc f args).run Tryz.prog w = .ok (.enter f args) w := by
  have hn' : ¬ fn.name = "runtime.NumGoroutine" := by simpa using hn
  have hb' : ¬ fn.body = none := fun h => by rw [h] at hb; cases hb
  simp [callFunc, hf, hn', hb', go_sem]
theorem enter_holds (args : Array Value) (w : World) : (callFunc 69 args).run Tryz.prog w = .ok (.enter 69 args) w := run_enter9 Tryz.func69 (by kernel_rfl) (by kernel_rfl) args w

/-- a span goes out of its place -/
def outB (fr tt : Int) (s : Sp) : Bool := decide (s.f < fr) || decide (tt < s.t)
set_option maxRecDepth 100000 in
set_option maxHeartbeats 1000000 in
theorem holds1_any (p : Ps) (g : Nat) (fr tt : Int) (w : World) (h1 : w.cell? ⟨g, 1, none⟩ = some (.int .i64 fr)) (h2 : w.cell? ⟨g, 2, none⟩ = some (.int .i64 tt)) :
    Calls Tryz.prog 69 #[pv p, .pointer (some ⟨g, 0, none⟩)] w fun e w' => e = .returned (.bool (outB fr tt p.sp)) ∧ Below w.heap.size w w' := by
  obtain ⟨f, t, a, A, c⟩ := p
  have HB := Lib.hid (below_lnew w (.cells (pK ⟨f, t, a, A, c⟩) 77))
  have hgl := World.block_lt_of_cell? w _ h1
  simp only at hgl
  unfold pv
  unfold pK at HB ⊢
  dsimp only [Ps.sp] at HB ⊢
  have HO := Lib.hid (show outB fr tt ⟨f, t, a⟩ = (decide (f < fr) || decide (tt < t)) from rfl)
  rw [HO.out]
  clear HO
  by_cases q1 : f < fr
  · go_enter Tryz.func69, Tryz.ntmps69
    go_wp2
    go_ret
    exact ⟨by simp [q1], HB.out⟩
  · go_enter Tryz.func69, Tryz.ntmps69
    go_wp2
    go_ret
    exact ⟨by rw [decide_eq_false (by omega : ¬ f < fr), Bool.false_or]; rfl, HB.out⟩

/-- a function that is handed: what it tells of a span -/
def Tells9 (F : Nat) (caps : Array Value) (P : Sp → Bool) (B : Nat) (w : World) : Prop :=
  ∀ (r : Ps) (w2 : World), Below B w w2 → Calls Tryz.prog F (#[pv r] ++ caps) w2 fun e w' => e = .returned (.bool (P r.sp)) ∧ Below w2.heap.size w2 w'
def IndexR9 (P : Sp → Bool) (l : List Ps) (w : World) (e : Ending) (w' : World) : Prop :=
  Below w.heap.size w w' ∧ ∃ x : Int, e = .returned (.int .i64 x) ∧ decide (0 ≤ x) = (l.map Ps.sp).any P
theorem any_step {α : Type} {P : α → Bool} {s : List α} {k : Nat} {b : Bool} (h : k < s.length) (e : b = (s.drop k).any P) (hp : P s[k] = false) : b = (s.drop (k + 1)).any P := by
  rw [e, List.drop_eq_getElem_cons h, List.any_cons, hp, Bool.false_or]
theorem any_stop {α : Type} {P : α → Bool} {s : List α} {k : Nat} {b : Bool} (h : k < s.length) (e : b = (s.drop k).any P) (hp : P s[k] = true) : b = true := by
  rw [e, List.drop_eq_getElem_cons h, List.any_cons, hp, Bool.true_or]
theorem any_end {α : Type} {P : α → Bool} {s : List α} {b : Bool} (e : b = (s.drop s.length).any P) : b = false := by
  rw [e, List.drop_length]; rfl
set_option maxRecDepth 100000 in
set_option maxHeartbeats 1000000 in
theorem index9_any (F : Nat) (caps : Array Value) (P : Sp → Bool) (A : Option Addr) (c : Nat) (l : List Ps) (w : World) (hn : l.length ≤ 1099511627776) (h : PLies w w.heap.size A l)
    (hE : ∀ args w, (callFunc F args).run Tryz.prog w = .ok (.enter F args) w) (hF : Tells9 F caps P w.heap.size w) :
    Calls Tryz.prog 91 #[.slice A l.length c, .func (.func F) #[] caps] w (IndexR9 P l w) := by
  have HF := Lib.hid hF
  clear hF
  obtain ⟨b, hb⟩ : ∃ b, (l.map Ps.sp).any P = b := ⟨_, rfl⟩
  have H0 := Lib.hid (show b = (l.drop 0).any (fun p => P p.sp) by rw [← hb, List.any_map]; rfl)
  unfold IndexR9
  rw [hb]
  clear hb
  go_enter Tryz.func91, Tryz.ntmps91
  go_wp2_with fail
  go_loopw [8] (fun i wr => ∃ k : Nat, k ≤ l.length ∧ i = .int .i64 k ∧ Hid (Below w.heap.size w wr) ∧ Hid (b = (l.drop k).any (fun p => P p.sp))) (fun i _ => l.length - (intOf i).toNat)
  case atStart => exact ⟨0, by omega, rfl, Below.refl _ _, H0⟩
  case round =>
    obtain ⟨k, hk, rfl, hB, hr⟩ := hrel
    clear H0
    by_cases hlt : k < l.length
    · obtain ⟨g, o, rfl, hg, c0, c1, c2⟩ := (h.below hB.out).at_ hlt
      have hT := HF.out l[k] wr hB.out
      have HN := Lib.hid (fun hp => any_step hlt hr.out hp)
      have HY := Lib.hid (fun hp => any_stop hlt hr.out hp)
      clear hr
      generalize l[k] = r at *
      unfold pv pK at hT
      have HT := Lib.hid hT
      clear hT
      cases hp : P r.sp
      · have HN2 := Lib.hid (HN.out hp)
        clear HN HY
        rw [hp] at HT
        clear hp
        go_wp2_with fail
        refine HT.out.mono ?_
        rintro e w2 ⟨rfl, hb2⟩
        have hB2 := Lib.hid (hB.out.trans (hb2.mono hB.out.size))
        clear HT hb2
        go_wp2_with fail
        go_roundw
        case rel => exact ⟨k + 1, by omega, by go_num, hB2, HN2⟩
        case measure => simp [intOf]; omega
      · have HY2 := Lib.hid (HY.out hp)
        clear HN HY
        rw [hp] at HT
        clear hp
        go_wp2_with fail
        refine HT.out.mono ?_
        rintro e w2 ⟨rfl, hb2⟩
        have hB2 := Lib.hid (hB.out.trans (hb2.mono hB.out.size))
        clear HT hb2
        go_wp2_with fail
        go_ret
        exact ⟨hB2.out, k, rfl, by rw [HY2.out]; exact decide_eq_true (by omega)⟩
    · obtain rfl : k = l.length := by omega
      have HY2 := Lib.hid (any_end hr.out)
      clear hr
      go_wp2_with fail
      go_ret
      exact ⟨hB.out, -1, rfl, by rw [HY2.out]; rfl⟩
set_option maxRecDepth 100000 in
set_option maxHeartbeats 1000000 in
theorem contains9_any (F : Nat) (caps : Array Value) (P : Sp → Bool) (A : Option Addr) (c : Nat) (l : List Ps) (w : World) (hn : l.length ≤ 1099511627776) (h : PLies w w.heap.size A l)
    (hE : ∀ args w, (callFunc F args).run Tryz.prog w = .ok (.enter F args) w) (hF : Tells9 F caps P w.heap.size w) :
    Calls Tryz.prog 68 #[.slice A l.length c, .func (.func F) #[] caps] w (BoolR ((l.map Ps.sp).any P) w) := by
  have HI := Lib.hid (index9_any F caps P A c l w hn h hE hF)
  clear hF h hn
  go_enter Tryz.func68, Tryz.ntmps68
  go_wp2_with fail
  refine HI.out.mono ?_
  rintro e w1 ⟨hb1, x, rfl, hx⟩
  have HX := Lib.hid hx
  have HB := Lib.hid hb1
  clear hx hb1 HI
  go_wp2_with fail
  go_ret
  exact ⟨by rw [← HX.out]; rfl, HB.out⟩

def riseB (most : Int) : Int → List Int → Bool
  | _, [] => true
  | a, x :: l => decide (a < x ∧ x < most) && riseB most x l
theorem riseB_at {most a : Int} {l : List Int} {k : Nat} (h : k < l.length) : riseB most a (l.drop k) = (decide (a < l[k] ∧ l[k] < most) && riseB most l[k] (l.drop (k + 1))) := by
  rw [List.drop_eq_getElem_cons h]; rfl
set_option maxRecDepth 100000 in
set_option maxHeartbeats 1000000 in
theorem rise9_any (A : Option Addr) (c : Nat) (l : List Int) (most : Int) (w : World) (hn : l.length ≤ 1099511627776) (h : eI.Lies w w.heap.size A l) :
    Calls Tryz.prog 43 #[.slice A l.length c, .int .i64 most] w fun e w' => e = .returned (.bool (riseB most (-1) l)) ∧ w = w' := by
  obtain ⟨b, hb⟩ : ∃ b, riseB most (-1) l = b := ⟨_, rfl⟩
  have H0 := Lib.hid (show b = riseB most (-1) (l.drop 0) from hb.symm)
  rw [hb]
  clear hb
  go_enter Tryz.func43, Tryz.ntmps43
  go_wp2
  go_loop [5, 10] (fun a i => ∃ (k : Nat) (x : Int), k ≤ l.length ∧ i = .int .i64 k ∧ a = .int .i64 x ∧ Hid (b = riseB most x (l.drop k))) (fun _ i => l.length - (intOf i).toNat)
  case atStart => exact ⟨0, -1, by omega, rfl, rfl, H0⟩
  case round =>
    obtain ⟨k, x, hk, rfl, rfl, hr⟩ := hrel
    clear H0
    by_cases hlt : k < l.length
    · obtain ⟨g, o, rfl, hg, c1⟩ := eI_at h hlt
      have HR := Lib.hid (hr.out.trans (riseB_at hlt))
      clear hr
      generalize l[k] = r at *
      by_cases h1 : r ≤ x
      · have HX := Lib.hid (show b = false by rw [HR.out, decide_eq_false (by omega), Bool.false_and])
        clear HR
        go_wp2
        go_ret
        exact ⟨by rw [HX.out]; rfl, rfl⟩
      · by_cases h2 : most ≤ r
        · have HX := Lib.hid (show b = false by rw [HR.out, decide_eq_false (by omega), Bool.false_and])
          clear HR
          go_wp2
          go_ret
          exact ⟨by rw [HX.out]; rfl, rfl⟩
        · have HX := Lib.hid (show b = riseB most r (l.drop (k + 1)) by rw [HR.out, decide_eq_true (by omega), Bool.true_and])
          clear HR
          go_wp2
          go_round
          case rel => exact ⟨k + 1, r, by omega, by go_num, rfl, HX⟩
          case measure => simp [intOf]; omega
    · obtain rfl : k = l.length := by omega
      have HX := Lib.hid (show b = true by rw [hr.out, List.drop_length]; rfl)
      clear hr
      go_wp2
      go_ret
      exact ⟨by rw [HX.out]; rfl, rfl⟩

/-- small enough -/
def SmP (p : Pp) : Prop := ∀ r ∈ p.ss, Sm r.l
def lV (p : Pp) : Value := .agg (lK p)
def vsB (fr tt : Int) (q : Vr × List Sp) : Bool := varB q.1 && (rightL q.2 && !(q.2.any (outB fr tt)))
def holdB (p : Plc) : Bool := decide (p.vs.length ≤ 64 ∧ p.ss.length = p.vs.length) && (p.vs.zip p.ss).all (vsB p.fr p.tt)
theorem hold_no {p : Plc} (h : ¬ (p.vs.length ≤ 64 ∧ p.ss.length = p.vs.length)) : holdB p = false := by
  unfold holdB; rw [decide_eq_false h]; rfl
def prV (q : Pv × Rs) : Vr × List Sp := (q.1.d, q.2.d)
theorem hold_start {p : Pp} (h : p.vs.length ≤ 64 ∧ p.ss.length = p.vs.length) : holdB p.d = ((p.vs.zip p.ss).drop 0).all (fun q => vsB p.fr p.tt (prV q)) := by
  unfold holdB Pp.d
  rw [decide_eq_true (by simpa using h)]
  simp only [Bool.true_and, List.drop_zero]
  rw [List.zip_map, List.all_map]
  rfl

set_option maxRecDepth 100000 in
set_option maxHeartbeats 4000000 in
theorem holds_any (p : Pp) (w : World) (hs : SmP p) (h : PL w w.heap.size p) :
    Calls Tryz.prog 42 #[lV p] w (BoolR (holdB p.d) w) := by
  have HSm := Lib.hid hs
  clear hs
  by_cases h1 : 64 < p.vs.length
  · rw [hold_no (by simp [Pp.d]; omega)]
    have HB := Lib.hid (below_lnew w (.cells (lK p) 49))
    have h1i : (64 : Int) < (p.vs.length : Int) := by omega
    clear h HSm
    obtain ⟨nm, fr, tt, vs, vA, vc, ss, sA, sc⟩ := p
    unfold lV
    unfold lK tv at HB ⊢
    dsimp only at HB h1i ⊢
    go_enter Tryz.func42, Tryz.ntmps42
    go_wp2
    go_ret
    exact ⟨rfl, HB.out⟩
  by_cases h2 : p.ss.length = p.vs.length
  · have h1i : (p.vs.length : Int) ≤ 64 := by omega
    have H0 := Lib.hid (hold_start ⟨by omega, h2⟩)
    have hb := below_lnew w (.cells (lK p) 49)
    have hat := heap_alloc_new w (.cells (lK p) 49)
    have HP := Lib.hid ((h.below hb).more hb.size)
    obtain ⟨b, hbb⟩ : ∃ b, holdB p.d = b := ⟨_, rfl⟩
    rw [hbb] at H0 ⊢
    clear hbb h
    have HL := Lib.hid h2
    clear h2
    obtain ⟨nm, fr, tt, vs, vA, vc, ss, sA, sc⟩ := p
    unfold lV
    unfold lK tv at hb hat HP ⊢
    dsimp only at hb hat HP HL h1i H0 ⊢
    obtain ⟨W, hW⟩ : ∃ W, W = w.alloc (.cells #[.string (str nm), .int .i64 fr, .int .i64 tt, .slice vA vs.length vc, .slice sA ss.length sc] 49) := ⟨_, rfl⟩
    have hz : w.heap.size < W.heap.size := by rw [hW]; simp
    rw [← hW] at hb hat HP
    obtain ⟨c1, c2, c3, c4⟩ : W.cell? ⟨w.heap.size, 1, none⟩ = some (.int .i64 fr) ∧ W.cell? ⟨w.heap.size, 2, none⟩ = some (.int .i64 tt) ∧ W.cell? ⟨w.heap.size, 3, none⟩ = some (.slice vA vs.length vc) ∧ W.cell? ⟨w.heap.size, 4, none⟩ = some (.slice sA ss.length sc) := by
      simp [World.cell?, hat]
    have HB := Lib.hid hb
    clear hb hat
    have hL := HL.out
    have hli : ((ss.length : Int) != (vs.length : Int)) = false := by rw [hL]; simp
    clear hL
    go_enter Tryz.func42, Tryz.ntmps42
    go_wp2_with fail
    rw [← hW]
    clear hW hli
    go_loopw [21] (fun i wr => ∃ k : Nat, k ≤ vs.length ∧ i = .int .i64 k ∧ Hid (Below W.heap.size W wr) ∧ Hid (b = ((vs.zip ss).drop k).all (fun q => vsB fr tt (prV q)))) (fun i _ => vs.length - (intOf i).toNat)
    case atStart => exact ⟨0, by omega, rfl, Below.refl _ _, H0⟩
    case round =>
      obtain ⟨k, hk, rfl, hB, hr⟩ := hrel
      clear H0
      by_cases hlt : k < vs.length
      · have hks : k < ss.length := by rw [HL.out]; exact hlt
        have hsz : k < (vs.zip ss).length := by rw [List.length_zip]; omega
        obtain ⟨g, o, e1, hg, x0, x1, x2, x3, x4, x5⟩ := eV_at (HP.out.v.below hB.out) hlt
        obtain ⟨g2, o2, e2, hg2, y0⟩ := eR_at (HP.out.s.below hB.out) hks
        have hvx := (HP.out.vs _ (List.getElem_mem hlt)).below hB.out
        have hry := (HP.out.ss _ (List.getElem_mem hks)).below hB.out
        have HSY := Lib.hid (HSm.out _ (List.getElem_mem hks))
        have HVC := Lib.hid HP.out.vc
        have HSC := Lib.hid HP.out.sc
        have HN := Lib.hid (fun (hp : vsB fr tt (vs[k].d, ss[k].d) = true) => all_step hsz hr.out (by rw [List.getElem_zip]; exact hp))
        have HF := Lib.hid (fun (hp : vsB fr tt (vs[k].d, ss[k].d) = false) => all_stop hsz hr.out (by rw [List.getElem_zip]; exact hp))
        have hcv : k < vc := by have := HP.out.vc.1; dsimp only at this; omega
        have hcs : k < sc := by have := HP.out.sc.1; dsimp only at this; omega
        dsimp only at e1 e2
        subst e1
        subst e2
        clear hr
        generalize vs[k] = x at *
        generalize ss[k] = y at *
        have d1 := (hB.out.cell (p := ⟨w.heap.size, 1, none⟩) hz).trans c1
        have d2 := (hB.out.cell (p := ⟨w.heap.size, 2, none⟩) hz).trans c2
        have d3 := (hB.out.cell (p := ⟨w.heap.size, 3, none⟩) hz).trans c3
        have d4 := (hB.out.cell (p := ⟨w.heap.size, 4, none⟩) hz).trans c4
        have hb2 := below_lnew wr (.cells (vK x) 67)
        have hwz := hB.out.size
        have HIV := Lib.hid (isVar_any x _ (((hvx.more hwz).below hb2).more hb2.size))
        have HRY := Lib.hid hry
        obtain ⟨⟨xnm, xkd, xn, xtn, xwd, xfs⟩, xA, xc⟩ := x
        obtain ⟨yl, yA, yc⟩ := y
        unfold vV at HIV
        unfold vK tv at HIV hb2
        dsimp only [Rs.d] at HIV hb2 x0 x1 x2 x3 x4 x5 y0 HN HF
        have HB2 := Lib.hid hb2
        clear hb2 hvx hry
        go_upto_region 6 with fail
        obtain ⟨W2, hW2⟩ : ∃ W2, W2 = wr.alloc (.cells #[.string (str xnm), .int .u8 xkd, .int .i64 xn, .string (str xtn), .int .i64 xwd, .slice xA xfs.length xc] 67) := ⟨_, rfl⟩
        rw [← hW2] at HIV HB2 ⊢
        have f0 := heap_alloc_new wr (.cells #[.string (str xnm), .int .u8 xkd, .int .i64 xn, .string (str xtn), .int .i64 xwd, .slice xA xfs.length xc] 67)
        rw [← hW2] at f0
        obtain ⟨v0, v1, v2, v3, v4, v5⟩ : W2.cell? ⟨wr.heap.size, 0, none⟩ = some (.string (str xnm)) ∧ W2.cell? ⟨wr.heap.size, 1, none⟩ = some (.int .u8 xkd) ∧ W2.cell? ⟨wr.heap.size, 2, none⟩ = some (.int .i64 xn) ∧ W2.cell? ⟨wr.heap.size, 3, none⟩ = some (.string (str xtn)) ∧ W2.cell? ⟨wr.heap.size, 4, none⟩ = some (.int .i64 xwd) ∧ W2.cell? ⟨wr.heap.size, 5, none⟩ = some (.slice xA xfs.length xc) := by
          simp [World.cell?, f0]
        have hB2 := hB.out.trans (HB2.out.mono hwz)
        have e1 := (hB2.cell (p := ⟨w.heap.size, 1, none⟩) hz).trans c1
        have e2 := (hB2.cell (p := ⟨w.heap.size, 2, none⟩) hz).trans c2
        have e3 := (hB2.cell (p := ⟨w.heap.size, 3, none⟩) hz).trans c3
        have e4 := (hB2.cell (p := ⟨w.heap.size, 4, none⟩) hz).trans c4
        have s0 := (HB2.out.cell (p := ⟨g2, o2 + k, none⟩) (by dsimp only; omega)).trans y0
        have HWW := Lib.hid hB2
        clear hW2 hB2 d1 d2 d3 d4 x0 x1 x2 x3 x4 x5 y0
        cases hvb : varB ⟨xnm, xkd, xn, xtn, xwd, xfs⟩
        · have HR := Lib.hid (HF.out (by unfold vsB; dsimp only; rw [hvb]; rfl))
          rw [hvb] at HIV
          clear HN HF hvb
          go_wp2_with (go_at_call 67; refine HIV.out.mono ?_; rintro e w3 ⟨rfl, hb3⟩)
          go_ret
          exact ⟨by rw [HR.out]; rfl, HB.out.trans ((HWW.out.trans (hb3.mono HWW.out.size)).mono (by omega))⟩
        have HN2 := Lib.hid (fun (hp : (rightL (yl.map Ps.sp) && !((yl.map Ps.sp).any (outB fr tt))) = true) => HN.out (by unfold vsB; dsimp only; rw [hvb]; exact hp))
        have HF2 := Lib.hid (fun (hp : (rightL (yl.map Ps.sp) && !((yl.map Ps.sp).any (outB fr tt))) = false) => HF.out (by unfold vsB; dsimp only; rw [hvb]; exact hp))
        rw [hvb] at HIV
        clear HN HF hvb
        go_wp2_with fail
        refine HIV.out.mono ?_
        rintro e w3 ⟨rfl, hb3⟩
        have hz2 := HB2.out.size
        have hb23 := HB2.out.trans (hb3.mono hz2)
        have HW3 := Lib.hid (HWW.out.trans (hb3.mono HWW.out.size))
        have k1 := (hb3.cell (p := ⟨w.heap.size, 1, none⟩) (by dsimp only; omega)).trans e1
        have k2 := (hb3.cell (p := ⟨w.heap.size, 2, none⟩) (by dsimp only; omega)).trans e2
        have k4 := (hb3.cell (p := ⟨w.heap.size, 4, none⟩) (by dsimp only; omega)).trans e4
        have t0 := (hb3.cell (p := ⟨g2, o2 + k, none⟩) (by dsimp only; omega)).trans s0
        have hyl := (HRY.out.1.below (hb23.mono hwz)).more (B' := w3.heap.size) (by have := hb3.size; omega)
        have HYL := Lib.hid hyl.1
        have HRT := Lib.hid (right7_any yA yc yl w3 HSY.out hyl)
        have hz3 := hb3.size
        clear e1 e2 e3 e4 s0 v0 v1 v2 v3 v4 v5 HIV hyl hb3 hb23
        go_wp2_with fail
        refine HRT.out.mono ?_
        rintro e w4 ⟨rfl, hb4⟩
        have HW4 := Lib.hid (HW3.out.trans (hb4.mono HW3.out.size))
        cases hrl : rightL (yl.map Ps.sp)
        · have HR := Lib.hid (HF2.out (by rw [hrl]; rfl))
          clear HN2 HF2
          go_wp2_with fail
          go_ret
          exact ⟨by rw [HR.out]; rfl, HB.out.trans (HW4.out.mono (by omega))⟩
        have m1 := (hb4.cell (p := ⟨w.heap.size, 1, none⟩) (by dsimp only; omega)).trans k1
        have m2 := (hb4.cell (p := ⟨w.heap.size, 2, none⟩) (by dsimp only; omega)).trans k2
        have m4 := (hb4.cell (p := ⟨w.heap.size, 4, none⟩) (by dsimp only; omega)).trans k4
        have n0 := (hb4.cell (p := ⟨g2, o2 + k, none⟩) (by dsimp only; omega)).trans t0
        have hz4 := hb4.size
        have HCT := Lib.hid (contains9_any 69 #[.pointer (some ⟨w.heap.size, 0, none⟩)] (outB fr tt) yA yc yl w4 HSY.out.1 ((HYL.out.below hb4).more hz4) enter_holds
          (fun r w2 hb => holds1_any r w.heap.size fr tt w2 ((hb.cell (p := ⟨w.heap.size, 1, none⟩) (by dsimp only; omega)).trans m1) ((hb.cell (p := ⟨w.heap.size, 2, none⟩) (by dsimp only; omega)).trans m2)))
        have HN := Lib.hid (fun (hp : (yl.map Ps.sp).any (outB fr tt) = false) => HN2.out (by rw [hrl, hp]; rfl))
        have HF := Lib.hid (fun (hp : (yl.map Ps.sp).any (outB fr tt) = true) => HF2.out (by rw [hrl, hp]; rfl))
        clear HN2 HF2 hrl k1 k2 k4 t0 hb4 HRT
        go_wp2_with fail
        refine HCT.out.mono ?_
        rintro e w5 ⟨rfl, hb5⟩
        have HW5 := Lib.hid (HW4.out.trans (hb5.mono HW4.out.size))
        clear HCT hb5
        cases hcf : (yl.map Ps.sp).any (outB fr tt)
        · have HR := Lib.hid (HN.out hcf)
          clear HN HF hcf
          go_wp2_with fail
          go_roundw
          case rel => exact ⟨k + 1, by omega, by go_num, HW5, HR⟩
          case measure => simp [intOf]; omega
        · have HR := Lib.hid (HF.out hcf)
          clear HN HF hcf
          go_wp2_with fail
          go_ret
          exact ⟨by rw [HR.out]; rfl, HB.out.trans (HW5.out.mono (by omega))⟩
      · have hki : (vs.length : Int) ≤ k := by omega
        have HX := Lib.hid (show b = true by rw [hr.out, List.drop_eq_nil_of_le (by rw [List.length_zip]; omega)]; rfl)
        clear hr
        go_wp2_with fail
        go_ret
        exact ⟨by rw [HX.out]; rfl, HB.out.trans (hB.out.mono (by omega))⟩
  · rw [hold_no (by simp [Pp.d]; omega)]
    have HB := Lib.hid (below_lnew w (.cells (lK p) 49))
    have h1i : (p.vs.length : Int) ≤ 64 := by omega
    have h2i : ((p.ss.length : Int) != (p.vs.length : Int)) = true := by simp; omega
    clear h HSm h2
    obtain ⟨nm, fr, tt, vs, vA, vc, ss, sA, sc⟩ := p
    unfold lV
    unfold lK tv at HB ⊢
    dsimp only at HB h1i h2i ⊢
    go_enter Tryz.func42, Tryz.ntmps42
    go_wp2
    go_ret
    exact ⟨rfl, HB.out⟩
end Go.Proofs.YtbkfkdiadeaooaaGreat
