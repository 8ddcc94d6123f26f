/-
  Merged for a claim: SYI, S2A, S2B.
-/
import Derived.Test.YtjllbacefbjjaaaZSYH
namespace Go.Proofs.Ytjllbacefbjjaaa
open Go Go.RowKit

theorem Ps.has {w : World} {gp : Nat} {A : Option Addr} {c : Nat} {l u : List To} (h : Ps w gp A c l u) : HasT w gp 57 := by
 obtain ⟨k, _, _, hc⟩ := h.k
 exact ⟨_, _, hc⟩
def ndP : List To → List To → R Unit
 | [], u => .ok () u
 | t :: ts, u => if isT t.kd t.tx u = true then ndP ts u.tail else .bad u
section
variable {w : World} {gp : Nat} {A : Option Addr} {c : Nat} {l u : List To}
theorem name_yes (h : Ps w gp A c l u) (hy : isK 1 u = true) :
 Calls Try.prog 57 #[.pointer (some ⟨gp, 0, none⟩)] w (fun e w' => e = .returned (.string (str (hd u).tx)) ∧ Ps w' gp A c l u.tail ∧ w.grownBy w' (some gp)) := by
 have HO := Lib.hid (one_yes h 1 (by decide) hy)
 have hf := tok_f1
 unfold tV tS at HO
 go_enter Try.func57, Try.ntmps57
 go_wp2_with fail
 refine HO.out.mono ?_
 rintro e w1 ⟨rfl, h1, h2⟩
 go_wp2_with fail
 go_ret
 exact ⟨rfl, h1, h2⟩
theorem name_no (h : Ps w gp A c l u) (hy : isK 1 u = false) :
 Calls Try.prog 57 #[.pointer (some ⟨gp, 0, none⟩)] w (fun e w' => e = .panicked misC ∧ Ps w' gp A c l u ∧ w.grownBy w' (some gp)) := by
 have HO := Lib.hid (one_no h 1 (by decide) hy)
 go_enter Try.func57, Try.ntmps57
 go_wp2_with fail
 refine HO.out.mono ?_
 rintro e w1 ⟨rfl, h1, h2⟩
 go_wp2
 exact ⟨rfl, rfl, h1, h2⟩
theorem number_yes (h : Ps w gp A c l u) (hy : isK 2 u = true) :
 Calls Try.prog 71 #[.pointer (some ⟨gp, 0, none⟩)] w (fun e w' => e = .returned (.int .i64 (hd u).nu) ∧ Ps w' gp A c l u.tail ∧ w.grownBy w' (some gp)) := by
 have HO := Lib.hid (one_yes h 2 (by decide) hy)
 have hf := tok_f2
 unfold tV tS at HO
 go_enter Try.func71, Try.ntmps71
 go_wp2_with fail
 refine HO.out.mono ?_
 rintro e w1 ⟨rfl, h1, h2⟩
 go_wp2_with fail
 go_ret
 exact ⟨rfl, h1, h2⟩
theorem number_no (h : Ps w gp A c l u) (hy : isK 2 u = false) :
 Calls Try.prog 71 #[.pointer (some ⟨gp, 0, none⟩)] w (fun e w' => e = .panicked misC ∧ Ps w' gp A c l u ∧ w.grownBy w' (some gp)) := by
 have HO := Lib.hid (one_no h 2 (by decide) hy)
 go_enter Try.func71, Try.ntmps71
 go_wp2_with fail
 refine HO.out.mono ?_
 rintro e w1 ⟨rfl, h1, h2⟩
 go_wp2
 exact ⟨rfl, rfl, h1, h2⟩
def NdR (w : World) (gp : Nat) (A : Option Addr) (c : Nat) (l : List To) (r : R Unit) (e : Ending) (w' : World) : Prop := match r with
 | .ok _ v => e = .returned (.tuple #[]) ∧ Ps w' gp A c l v ∧ w.grownBy w' (some gp)
 | .bad v => e = .panicked misC ∧ Ps w' gp A c l v ∧ w.grownBy w' (some gp)
 | .out => False
set_option maxRecDepth 100000 in
set_option maxHeartbeats 2000000 in
theorem need_any (h : Ps w gp A c l u) (ts : List To) (hk : ∀ t ∈ ts, t.kd ≠ 0) (A2 : Option Addr) (c2 : Nat) (hT : eTo.LiesT w A2 ts) (hn : ts.length ≤ 9) :
 Calls Try.prog 56 #[.pointer (some ⟨gp, 0, none⟩), .slice A2 ts.length c2] w (NdR w gp A c l (ndP ts u)) := by
 have HP := Lib.hid h
 have HT := Lib.hid hT
 obtain ⟨r, hr⟩ : ∃ r, ndP ts u = r := ⟨_, rfl⟩
 rw [hr]
 have HR := Lib.hid hr
 clear h hT hr
 go_enter Try.func56, Try.ntmps56
 go_wp2_with fail
 go_loopw [8] (fun i wr => ∃ (j : Nat) (v : List To), j ≤ ts.length ∧ i = .int .i64 j ∧ Hid (ndP (ts.drop j) v = r) ∧ Hid (Ps wr gp A c l v) ∧ Hid (w.grownBy wr (some gp))) (fun i _ => ts.length - (intOf i).toNat)
 case atStart => exact ⟨0, u, by omega, rfl, HR, HP, World.grownBy.refl _ _⟩
 case round =>
  obtain ⟨j, v, hj, rfl, hr, hp, hg⟩ := hrel
  by_cases hlt : j < ts.length
  · have hTr := HT.out.but (ButT.grown hg.out (fun k e => by injection e with e; subst e; exact HP.out.has)) (by decide)
    obtain ⟨g, o, rfl, hgl, hcell⟩ := hTr.lies.at_ hlt
    have hkt := hk _ (List.getElem_mem hlt)
    have hr2 := hr.out
    rw [List.drop_eq_getElem_cons hlt, ndP] at hr2
    generalize ts[j] = t at *
    have d0 := hcell 0 _ rfl
    have d1 := hcell 1 _ rfl
    have d2 := hcell 2 _ rfl
    have d3 := hcell 3 _ rfl
    simp only [Nat.add_zero, show eTo.sz = 4 from rfl] at d0 d1 d2 d3
    have hbb := below_lnew wr (.cells #[.int .u8 t.kd, .string (str t.tx), .int .i64 t.nu, .int .i64 t.ln] 77)
    have hp2 := hp.out.next hbb
    have HBB := Lib.hid hbb
    cases hy : isT t.kd t.tx v
    · rw [hy, if_neg (by decide)] at hr2
      have HC := Lib.hid (take_no hp2 t hkt hy)
      have HF := Lib.hid hr2
      clear hcell hr hr2 hy hp2 hbb hTr
      obtain ⟨kd, tx, nu, ln⟩ := t
      unfold tV tS at HC
      dsimp only at d0 d1 d2 d3 HC HBB
      go_wp2_with fail
      refine HC.out.mono ?_
      rintro e w2 ⟨rfl, h1, h2⟩
      have HH1 := Lib.hid h1
      have HH2 := Lib.hid (grown_trans (grown_trans hg.out (grown_below HBB.out _)) h2)
      clear h1 h2
      go_wp2_with fail
      refine ⟨rfl, ?_⟩
      rw [← HF.out]
      exact ⟨rfl, HH1.out, HH2.out⟩
    · rw [hy, if_pos rfl] at hr2
      have HC := Lib.hid (take_yes hp2 t hkt hy)
      have HF := Lib.hid hr2
      clear hcell hr hr2 hy hp2 hbb hTr
      obtain ⟨kd, tx, nu, ln⟩ := t
      unfold tV tS at HC
      dsimp only at d0 d1 d2 d3 HC HBB
      go_wp2_with fail
      refine HC.out.mono ?_
      rintro e w2 ⟨rfl, h1, h2⟩
      have HH1 := Lib.hid h1
      have HH2 := Lib.hid (grown_trans (grown_trans hg.out (grown_below HBB.out _)) h2)
      clear h1 h2
      go_wp2_with fail
      go_roundw
      case rel => exact ⟨j + 1, v.tail, by omega, by go_num, HF, HH1, HH2⟩
      case measure => simp [intOf]; omega
  · obtain rfl : j = ts.length := by omega
    rw [List.drop_length] at hr
    have HF := Lib.hid (show r = .ok () v from hr.out.symm)
    clear hr
    go_wp2_with fail
    refine bodyPost_end (results_none rfl _ _ _) rfl ?_
    rw [HF.out]
    exact ⟨rfl, hp.out, hg.out⟩
end
end Go.Proofs.Ytjllbacefbjjaaa

namespace Go.Proofs.Ytjllbacefbjjaaa
open Go Go.RowKit

structure Rp (w : World) (gp : Nat) (A : Option Addr) (c : Nat) (l u : List To) (fl : Bool) : Prop where
 k : ∃ k : Nat, k ≤ l.length ∧ u = l.drop k ∧ CAt w gp 64 [.slice A l.length c, .int .i64 k, .bool fl]
 t : eTo.Lies w gp A l
 n : l.length ≤ 1000000
section
variable {w w' : World} {gp : Nat} {A : Option Addr} {c : Nat} {l u : List To} {fl : Bool} {B : Nat}
theorem Rp.lt (h : Rp w gp A c l u fl) : gp < w.heap.size := by
 obtain ⟨k, _, _, hc⟩ := h.k
 exact hc.lt
theorem Rp.below (h : Rp w gp A c l u fl) (hb : Below B w w') (hg : gp < B) : Rp w' gp A c l u fl := by
 obtain ⟨k, h1, h2, hc⟩ := h.k
 exact ⟨⟨k, h1, h2, hc.below hb hg⟩, h.t.below (hb.mono (Nat.le_of_lt hg)), h.n⟩
theorem Rp.next (h : Rp w gp A c l u fl) (hb : Below w.heap.size w w') : Rp w' gp A c l u fl := h.below hb h.lt
theorem Rp.draws (h : Rp w gp A c l u fl) (m : Nat) : Rp (w.drewN m) gp A c l u fl := h.next (below_draws m)
end
inductive Ans {α : Type} : Bool → List To → R α → α → List To → Bool → Prop
 | fail (x : α) (u : List To) (r : R α) : Ans true u r x u true
 | ok (x : α) (u z : List To) : Ans false u (.ok x z) x z false
 | bad (x : α) (u z : List To) : Ans false u (.bad z) x z true
def isX (kd : Int) (tx : List UInt8) (u : List To) : Bool := match u with
 | [] => false
 | t :: _ => decide (t.kd = kd) && (decide (tx = []) || decide (t.tx = tx))
theorem isX_K {kd : Int} {u : List To} : isX kd [] u = isK kd u := by
 cases u with
 | nil => rfl
 | cons t v => simp [isX, isK]
theorem isX_T {kd : Int} {tx : List UInt8} {u : List To} (h : tx ≠ []) : isX kd tx u = isT kd tx u := by
 cases u with
 | nil => rfl
 | cons t v => simp [isX, isT, h]
section
variable {w : World} {gp : Nat} {A : Option Addr} {c : Nat} {l u : List To} {fl : Bool}
set_option maxRecDepth 100000 in
set_option maxHeartbeats 1000000 in
theorem ris_any (h : Rp w gp A c l u fl) (kd : Int) (tx : List UInt8) :
 Calls Try.prog 19 #[.pointer (some ⟨gp, 0, none⟩), .int .u8 kd, .string (str tx)] w (fun e w' => e = .returned (.bool (!fl && isX kd tx u)) ∧ ∃ m, w' = w.drewN m) := by
 obtain ⟨k, hk, rfl, hc⟩ := h.k
 have p0 := hc.cell (j := 0) (by simp)
 have p1 := hc.cell (j := 1) (by simp)
 have p2 := hc.cell (j := 2) (by simp)
 simp only [List.getElem_cons_zero, List.getElem_cons_succ] at p0 p1 p2
 have hn := h.n
 have hlt := h.lt
 cases fl with
 | true =>
  clear hc h
  go_enter Try.func19, Try.ntmps19
  go_wp2_with fail
  go_quiet (fail)
  go_wp2_with fail
  go_ret
  exact ⟨rfl, _, rfl⟩
 | false =>
  by_cases hin : k < l.length
  · obtain ⟨g, o, rfl, hg, hcell⟩ := h.t.at_ hin
    have e : isX kd tx (l.drop k) = (decide ((l[k]).kd = kd) && (decide (tx = []) || decide ((l[k]).tx = tx))) := by rw [List.drop_eq_getElem_cons hin]; rfl
    rw [e]
    generalize l[k] = t at *
    have d0 := hcell 0 _ rfl
    have d1 := hcell 1 _ rfl
    simp only [Nat.add_zero, show eTo.sz = 4 from rfl] at d0 d1
    have hgw : g < w.heap.size := by omega
    have e1 : (str tx).toList.isEmpty = decide (tx = []) := by rw [str_toList]; cases tx <;> rfl
    have e2 := str_dec t.tx tx
    clear hcell e hc h
    obtain ⟨tk, tt, tn, tl⟩ := t
    dsimp only at *
    by_cases hkd : tk = kd
    · subst hkd
      rw [decide_eq_true rfl, Bool.true_and]
      by_cases he : tx = []
      · rw [decide_eq_true he] at e1 ⊢
        rw [Bool.true_or]
        clear e2
        generalize str tx = sx at *
        clear he
        go_enter Try.func19, Try.ntmps19
        go_wp2_with fail
        go_quiet (fail)
        go_wp2_with fail
        go_ret
        exact ⟨rfl, _, rfl⟩
      · rw [decide_eq_false he] at e1 ⊢
        rw [Bool.false_or]
        generalize decide (tt = tx) = r at *
        generalize str tx = sx at *
        generalize str tt = st at *
        clear he
        go_enter Try.func19, Try.ntmps19
        go_wp2_with fail
        go_quiet (fail)
        go_wp2_with fail
        go_ret
        exact ⟨rfl, _, rfl⟩
    · rw [decide_eq_false hkd, Bool.false_and]
      clear e1 e2 d1
      have hb1 : (tk == kd) = false := beq_eq_false_iff_ne.2 hkd
      have hb2 : decide (tk = kd) = false := decide_eq_false hkd
      generalize str tx = sx at *
      go_enter Try.func19, Try.ntmps19
      go_wp2_with fail
      go_quiet (fail)
      go_wp2_with fail
      go_ret
      exact ⟨rfl, _, rfl⟩
  · have e : isX kd tx (l.drop k) = false := by rw [List.drop_eq_nil_of_le (by omega)]; rfl
    rw [e]
    clear e hc h
    go_enter Try.func19, Try.ntmps19
    go_wp2_with fail
    go_quiet (fail)
    go_wp2_with fail
    go_ret
    exact ⟨rfl, _, rfl⟩
set_option maxRecDepth 100000 in
theorem rline_any (h : Rp w gp A c l u fl) :
 Calls Try.prog 23 #[.pointer (some ⟨gp, 0, none⟩)] w (fun e w' => e = .returned (.int .i64 (hd u).ln) ∧ ∃ m, w' = w.drewN m) := by
 obtain ⟨k, hk, rfl, hc⟩ := h.k
 have p0 := hc.cell (j := 0) (by simp)
 have p1 := hc.cell (j := 1) (by simp)
 simp only [List.getElem_cons_zero, List.getElem_cons_succ] at p0 p1
 have hn := h.n
 have hlt := h.lt
 by_cases hin : k < l.length
 · obtain ⟨g, o, rfl, hg, hcell⟩ := h.t.at_ hin
   have e : hd (l.drop k) = l[k] := by rw [List.drop_eq_getElem_cons hin]; rfl
   rw [e]
   generalize l[k] = t at *
   have d3 := hcell 3 _ rfl
   simp only [show eTo.sz = 4 from rfl] at d3
   have hgw : g < w.heap.size := by omega
   clear hcell e hc h
   go_enter Try.func23, Try.ntmps23
   go_wp2_with fail
   go_quiet (fail)
   go_wp2_with fail
   go_quiet (fail)
   go_wp2_with fail
   go_ret
   exact ⟨rfl, _, by first | rfl | (rw [World.drewN_drewN])⟩
 · have e : hd (l.drop k) = ⟨0, [], 0, 0⟩ := by rw [List.drop_eq_nil_of_le (by omega)]; rfl
   rw [e]
   clear e hc h
   go_enter Try.func23, Try.ntmps23
   go_wp2_with fail
   go_quiet (fail)
   go_wp2_with fail
   go_ret
   exact ⟨rfl, _, by first | rfl | (rw [World.drewN_drewN])⟩
end
end Go.Proofs.Ytjllbacefbjjaaa

namespace Go.Proofs.Ytjllbacefbjjaaa
open Go Go.RowKit

theorem Rp.has {w : World} {gp : Nat} {A : Option Addr} {c : Nat} {l u : List To} {fl : Bool} (h : Rp w gp A c l u fl) : HasT w gp 64 := by
 obtain ⟨k, _, _, hc⟩ := h.k
 exact ⟨_, _, hc⟩
def takeR (kd : Int) (tx : List UInt8) (u : List To) : R To := if isX kd tx u = true then .ok (hd u) u.tail else .bad u
section
variable {w : World} {gp : Nat} {A : Option Addr} {c : Nat} {l u : List To} {fl : Bool}
theorem Rp.fail (h : Rp w gp A c l u fl) : Rp (w.setCell ⟨gp, 2, none⟩ (.bool true)) gp A c l u true := by
 obtain ⟨k, h1, h2, hc⟩ := h.k
 exact ⟨⟨k, h1, h2, hc.set 2 _⟩, h.t.below ((Below.refl gp w).setCell (p := ⟨gp, 2, none⟩) (Nat.le_refl _) _), h.n⟩
theorem Rp.step (h : Rp w gp A c l u fl) {k0 : Nat} (hp : w.cell? ⟨gp, 1, none⟩ = some (.int .i64 k0)) (hu : u ≠ []) : Rp (w.setCell ⟨gp, 1, none⟩ (.int .i64 ((k0 : Int) + 1))) gp A c l u.tail fl := by
 obtain ⟨k, h1, rfl, hc⟩ := h.k
 have hk : k < l.length := by
  rcases Nat.lt_or_ge k l.length with q | q
  · exact q
  · exact absurd (List.drop_eq_nil_of_le q) hu
 have e := hc.cell (j := 1) (by simp)
 rw [hp] at e
 simp only [List.getElem_cons_zero, List.getElem_cons_succ, Option.some.injEq, Value.int.injEq, true_and] at e
 have e : k0 = k := by omega
 subst e
 refine ⟨⟨k0 + 1, by omega, by rw [List.tail_drop], ?_⟩, h.t.below ((Below.refl gp w).setCell (p := ⟨gp, 1, none⟩) (Nat.le_refl _) _), h.n⟩
 exact hc.set 1 (.int .i64 ((k0 : Int) + 1))
theorem isX_ne {kd : Int} {tx : List UInt8} {u : List To} (h : isX kd tx u = true) : u ≠ [] := by
 intro e
 subst e
 cases h
set_option maxRecDepth 100000 in
theorem rtake_any (h : Rp w gp A c l u fl) (kd : Int) (tx : List UInt8) :
 Calls Try.prog 39 #[.pointer (some ⟨gp, 0, none⟩), .int .u8 kd, .string (str tx)] w (fun e w' => ∃ t u' f', e = .returned (tV t) ∧ Ans fl u (takeR kd tx u) t u' f' ∧ Rp w' gp A c l u' f' ∧ w.grownBy w' (some gp)) := by
 have HI := Lib.hid (fun (w1 : World) (h1 : Rp w1 gp A c l u fl) => ris_any h1 kd tx)
 have HH := Lib.hid h
 have hlt := h.lt
 have HN := Lib.hid (h.next (below_lnew w zT))
 have hcT : CAt (w.alloc zT) w.heap.size 77 (tS to0) := heap_alloc_new w zT
 have HB := Lib.hid (below_lnew w zT)
 have hgp := h.lt
 go_enter Try.func39, Try.ntmps39
 go_wp2_with fail
 refine (HI.out _ HN.out).mono ?_
 rintro e X0 ⟨rfl, m, rfl⟩
 obtain ⟨X, hX⟩ : ∃ X, (w.alloc zT).drewN m = X := ⟨_, rfl⟩
 have hbX : Below w.heap.size w X := by rw [← hX]; exact HB.out.trans (below_draws m)
 have hcX : CAt X w.heap.size 77 (tS to0) := by rw [← hX]; exact hcT
 have HX := Lib.hid hX
 rw [hX]
 have h1 := h.next hbX
 have HP1 := Lib.hid h1
 obtain ⟨k, hk, hu, hc⟩ := h1.k
 have p0 := hc.cell (j := 0) (by simp)
 have p1 := hc.cell (j := 1) (by simp)
 have f1 := hc.frozen 1
 have f2 := hc.frozen 2
 have hkn : k ≤ 1000000 := by have := h1.n; omega
 have hln := h1.n
 have p2 := hc.cell (j := 2) (by simp)
 simp only [List.getElem_cons_zero, List.getElem_cons_succ] at p0 p1 p2
 have r0 := hcX.cell (j := 0) (by simp [tS])
 have r1 := hcX.cell (j := 1) (by simp [tS])
 have r2 := hcX.cell (j := 2) (by simp [tS])
 have r3 := hcX.cell (j := 3) (by simp [tS])
 have rf0 := hcX.frozen 0
 have rf1 := hcX.frozen 1
 have rf2 := hcX.frozen 2
 have rf3 := hcX.frozen 3
 simp only [tS, to0, List.getElem_cons_zero, List.getElem_cons_succ] at r0 r1 r2 r3
 have hgp1 : gp < X.heap.size := h1.lt
 have hszX : w.heap.size < X.heap.size := hcX.lt
 have hne1 : ¬ gp = w.heap.size := by omega
 have hne2 : ¬ w.heap.size = gp := by omega
 have HBX := Lib.hid hbX
 have HCX := Lib.hid hcX
 have HC := Lib.hid hc
 have HU := Lib.hid hu
 have HT := Lib.hid h1.t
 clear hX hbX hcX hcT h1 hc hu h HN HI HB HH
 cases hb : (!fl && isX kd tx u) with
 | false =>
  go_wp2_with fail
  have hS := setT_at to0 (HCX.out.other (p := ⟨gp, 2, none⟩) (show w.heap.size ≠ gp from hne2) (.bool true))
  have hbS := setT_below (W := X.setCell ⟨gp, 2, none⟩ (.bool true)) (B := w.heap.size) (g := w.heap.size) to0 (Nat.le_refl _)
  refine bodyPost_ret (tok_back (t := to0) rfl rfl hS) rfl ⟨to0, u, true, rfl, ?_, HP1.out.fail.below hbS hgp, grown_new (grown_trans (grown_below HBX.out _) (grown_set _ _ _ _)) hbS⟩
  cases fl with
  | true => exact .fail _ _ _
  | false =>
   rw [takeR, if_neg (by simpa using hb)]
   exact .bad _ _ _
 | true =>
  have hfl : fl = false := by
   cases fl
   · rfl
   · simp at hb
  subst hfl
  have hx : isX kd tx u = true := by simpa using hb
  have hin : k < l.length := by
   rcases Nat.lt_or_ge k l.length with q | q
   · exact q
   · rw [HU.out, List.drop_eq_nil_of_le q] at hx
     cases hx
  obtain ⟨g, o, rfl, hg, hcell⟩ := HT.out.at_ hin
  have HE := Lib.hid (show hd u = l[k] by rw [HU.out, List.drop_eq_getElem_cons hin]; rfl)
  generalize l[k] = t at *
  have d0 := hcell 0 _ rfl
  have d1 := hcell 1 _ rfl
  have d2 := hcell 2 _ rfl
  have d3 := hcell 3 _ rfl
  simp only [Nat.add_zero, show eTo.sz = 4 from rfl] at d0 d1 d2 d3
  have hgg : g < gp := hg
  have hgw : g < X.heap.size := by omega
  have HXX := Lib.hid hx
  clear hcell hb hx
  go_wp2_with fail
  go_region
  go_wp2_with fail
  have hS := setT_at t (HCX.out.other (p := ⟨gp, 1, none⟩) (show w.heap.size ≠ gp from hne2) (.int .i64 ((k : Int) + 1)))
  have hbS := setT_below (W := X.setCell ⟨gp, 1, none⟩ (.int .i64 ((k : Int) + 1))) (B := w.heap.size) (g := w.heap.size) t (Nat.le_refl _)
  have hI := (HP1.out.step p1 (isX_ne HXX.out)).below hbS hgp
  have hG := grown_new (grown_trans (grown_below HBX.out (some gp)) (grown_set X gp 1 (.int .i64 ((k : Int) + 1)))) hbS
  obtain ⟨Y, hY⟩ : ∃ Y, setT (X.setCell ⟨gp, 1, none⟩ (.int .i64 ((k : Int) + 1))) w.heap.size t = Y := ⟨_, rfl⟩
  rw [hY] at hS hI hG
  unfold setT at hY
  rw [hY]
  clear hY hbS d0 d1 d2 d3 r0 r1 r2 r3 rf0 rf1 rf2 rf3
  refine bodyPost_ret (tok_back (p := 6) (t := t) rfl rfl hS) rfl ⟨t, u.tail, false, rfl, ?_, hI.draws 1, grown_trans hG (grown_below (below_draws 1) _)⟩
  rw [takeR, if_pos HXX.out, HE.out]
  exact .ok _ _ _
def sgR (kd : Int) (tx : List UInt8) (u : List To) : R Unit := if isT kd tx u = true then .ok () u.tail else .bad u
theorem ans_unit {kd : Int} {tx : List UInt8} {u u' : List To} {fl f' : Bool} {t : To} (hx : tx ≠ []) (h : Ans fl u (takeR kd tx u) t u' f') : Ans fl u (sgR kd tx u) () u' f' := by
 have e := isX_T (kd := kd) (u := u) hx
 unfold takeR at h
 unfold sgR
 rw [e] at h
 revert h
 by_cases q : isT kd tx u = true
 · rw [if_pos q, if_pos q]
   intro h
   cases h with
   | fail => exact .fail _ _ _
   | ok => exact .ok _ _ _
 · rw [if_neg q, if_neg q]
   intro h
   cases h with
   | fail => exact .fail _ _ _
   | bad => exact .bad _ _ _
theorem rsign_any (h : Rp w gp A c l u fl) (tx : List UInt8) (hx : tx ≠ []) :
 Calls Try.prog 22 #[.pointer (some ⟨gp, 0, none⟩), .string (str tx)] w (fun e w' => e = .returned (.tuple #[]) ∧ ∃ u' f', Ans fl u (sgR 4 tx u) () u' f' ∧ Rp w' gp A c l u' f' ∧ w.grownBy w' (some gp)) := by
 have HO := Lib.hid (rtake_any h 4 tx)
 go_enter Try.func22, Try.ntmps22
 go_wp2_with fail
 refine HO.out.mono ?_
 rintro e w1 ⟨t, u', f', rfl, h1, h2, h3⟩
 go_wp2_with fail
 exact ⟨rfl, _, results_none (fn := Try.f22) rfl _ _ _, rfl, u', f', ans_unit hx h1, h2, h3⟩
theorem rword_any (h : Rp w gp A c l u fl) (tx : List UInt8) (hx : tx ≠ []) :
 Calls Try.prog 21 #[.pointer (some ⟨gp, 0, none⟩), .string (str tx)] w (fun e w' => e = .returned (.tuple #[]) ∧ ∃ u' f', Ans fl u (sgR 3 tx u) () u' f' ∧ Rp w' gp A c l u' f' ∧ w.grownBy w' (some gp)) := by
 have HO := Lib.hid (rtake_any h 3 tx)
 go_enter Try.func21, Try.ntmps21
 go_wp2_with fail
 refine HO.out.mono ?_
 rintro e w1 ⟨t, u', f', rfl, h1, h2, h3⟩
 go_wp2_with fail
 exact ⟨rfl, _, results_none (fn := Try.f21) rfl _ _ _, rfl, u', f', ans_unit hx h1, h2, h3⟩
theorem takeR_K {kd : Int} {u : List To} : takeR kd [] u = if isK kd u = true then .ok (hd u) u.tail else .bad u := by rw [takeR, isX_K]
theorem rname_any (h : Rp w gp A c l u fl) :
 Calls Try.prog 20 #[.pointer (some ⟨gp, 0, none⟩)] w (fun e w' => ∃ t u' f', e = .returned (.string (str t.tx)) ∧ Ans fl u (takeR 1 [] u) t u' f' ∧ Rp w' gp A c l u' f' ∧ w.grownBy w' (some gp)) := by
 have HO := Lib.hid (rtake_any h 1 [])
 rw [show str ([] : List UInt8) = ⟨#[]⟩ from rfl] at HO
 have hf := tok_f1
 unfold tV tS at HO
 go_enter Try.func20, Try.ntmps20
 go_wp2_with fail
 refine HO.out.mono ?_
 rintro e w1 ⟨t, u', f', rfl, h1, h2, h3⟩
 go_wp2_with fail
 go_ret
 exact ⟨t, u', f', rfl, h1, h2, h3⟩
end
end Go.Proofs.Ytjllbacefbjjaaa
