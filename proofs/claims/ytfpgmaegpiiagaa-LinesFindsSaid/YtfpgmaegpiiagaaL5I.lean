/-
  Contract of lines.rows and lines.Read.
-/
import Derived.Test.YtfpgmaegpiiagaaL5H
import Derived.Test.YtfpgmaegpiiagaaL5F
namespace Go.Proofs.Ytfpgmaegpiiagaa
open Go.RowKit

def RowsR (b : List UInt8) (w : World) (e : Ending) (w' : World) : Prop :=
  ∃ v t, e = .returned (.tuple #[v, .bool t]) ∧ Below w.heap.size w w' ∧ ((t = true ∧ ∃ l, par r0 b = some l ∧ ROwn w' w.heap.size v l ∧ l.length ≤ 20001) ∨ (t = false ∧ rdL b = none))

/-- behind some steps -/
structure Within (b : List UInt8) (k : Nat) (q : Rw) (ls : List Rw) : Prop where
  le : k ≤ b.length
  all : par r0 b = (par q (b.drop k)).map (ls ++ ·)
  inq : inF q
  few : ls.length ≤ 20001
theorem within_start (b : List UInt8) : Within b 0 r0 [] := ⟨by omega, by cases h : par r0 b <;> simp [h], inF_0, by simp⟩
theorem Within.none {b : List UInt8} {k : Nat} {q : Rw} {ls : List Rw} (h : Within b k q ls) (hk : k < b.length) (h0 : b[k].toNat ≠ 0) (hm : mv q b[k].toNat (b.drop (k + 1)) = Option.none) : rdL b = Option.none := by
  have ha := h.all
  rw [List.drop_eq_getElem_cons hk, par_none (fun e => h0 (by rw [e]; rfl)) hm] at ha
  unfold rdL
  rw [ha]
  rfl
theorem Within.many {b : List UInt8} {k : Nat} {q : Rw} {ls : List Rw} (h : Within b k q ls) (hn : 20000 < ls.length) : rdL b = Option.none := by
  have ha := h.all
  unfold rdL
  rw [ha]
  cases par q (b.drop k) with
  | none => rfl
  | some l =>
    have : rightB (ls ++ l) = false := right_long (by rw [List.length_append]; omega)
    simp [this]
theorem Within.cut {b : List UInt8} {q : Rw} {ls : List Rw} (h : Within b b.length q ls) : rdL b = Option.none := by
  have ha := h.all
  rw [List.drop_length, par_nil] at ha
  unfold rdL
  rw [ha]
  rfl
theorem Within.more {b : List UInt8} {k : Nat} {q : Rw} {ls : List Rw} (h : Within b k q ls) (hk : k < b.length) (h0 : b[k].toNat = 0) (hl : k + 1 ≠ b.length) : rdL b = Option.none := by
  have ha := h.all
  have e0 : b[k] = 0 := UInt8.toNat_inj.1 h0
  rw [List.drop_eq_getElem_cons hk, e0, par_end, if_neg (fun e => by have := congrArg List.length e; simp at this; omega)] at ha
  unfold rdL
  rw [ha]
  rfl
theorem Within.end_ {b : List UInt8} {k : Nat} {q : Rw} {ls : List Rw} (h : Within b k q ls) (hk : k < b.length) (h0 : b[k].toNat = 0) (hl : k + 1 = b.length) : par r0 b = some ls := by
  have ha := h.all
  have e0 : b[k] = 0 := UInt8.toNat_inj.1 h0
  rw [List.drop_eq_getElem_cons hk, e0, par_end, if_pos (List.eq_nil_of_length_eq_zero (by simp; omega))] at ha
  simpa using ha
theorem Within.next {b : List UInt8} {k n : Nat} {q p : Rw} {ls : List Rw} (h : Within b k q ls) (hk : k < b.length) (h0 : b[k].toNat ≠ 0) (hm : mv q b[k].toNat (b.drop (k + 1)) = some (p, n)) (hf : ls.length ≤ 20000) :
    Within b (k + 1 + n) p (ls ++ if 3 ≤ b[k].toNat then [p] else []) := by
  have ha := h.all
  have hle := mv_le hm
  rw [List.drop_eq_getElem_cons hk, par_some (fun e => h0 (by rw [e]; rfl)) hm, List.drop_drop] at ha
  refine ⟨by simp at hle; omega, ?_, mv_in hm, by split <;> simp <;> omega⟩
  rw [ha, Option.map_map]
  congr 1
  funext l
  simp only [Function.comp]
  split <;> simp

set_option maxRecDepth 100000 in
set_option maxHeartbeats 2000000 in
theorem rows_any (A : Option Addr) (c : Nat) (b : List UInt8) (w : World) (hn : b.length ≤ 1099511627776) (h : Lies w w.heap.size A b) :
    Calls Try.prog 26 #[.slice A b.length c] w (RowsR b w) := by
  have hrow := Lib.hid (rowAt_new w r0)
  have hbn := Lib.hid (below_new w (.cells (rK r0) 42))
  unfold rK r0 at hrow hbn
  simp only at hrow hbn
  go_enter Try.func26, Try.ntmps26
  go_wp2_with fail
  generalize w.alloc (.cells #[.int .i64 0, .int .i64 0] 42) = w1 at *
  generalize hgn : w.heap.size = gn at *
  go_loopw [2, 5] (fun v i wr => ∃ (k : Nat) (q : Rw) (ls : List Rw), k ≤ b.length ∧ i = .int .i64 k ∧ Hid (ROwn wr (gn + 1) v ls) ∧ Hid (RowAt wr gn q) ∧ Hid (Below gn w wr) ∧ Hid (Within b k q ls)) (fun _ i _ => b.length - (intOf i).toNat)
  case atStart => exact ⟨0, r0, [], by omega, rfl, ROwn.nil _ _, hrow, hbn, within_start b⟩
  case round =>
    obtain ⟨k, q, ls, hk, rfl, hv, hq, hB, hW⟩ := hrel
    clear hrow hbn
    by_cases hlt : k < b.length
    · by_cases h0 : b[k].toNat = 0
      · obtain ⟨g, o, rfl, hg, c0⟩ := (h.below hB.out).at_ hlt
        have HL := Lib.hid h0
        by_cases hl : k + 1 = b.length
        · have HP := Lib.hid (hW.out.end_ hlt h0 hl)
          have hf := Lib.hid hW.out.few
          rw [h0] at c0
          have hl1 : (k : Int) ≤ (b.length : Int) - 1 := by omega
          have hl2 : (b.length : Int) - 1 ≤ (k : Int) := by omega
          clear hW hl h0
          go_wp2_with fail
          go_ret2
          subst hgn
          exact ⟨_, _, rfl, hB.out, .inl ⟨by simp; omega, ls, HP.out, hv.out.base (by omega), hf.out⟩⟩
        · have HP := Lib.hid (hW.out.more hlt h0 hl)
          rw [h0] at c0
          have hl1 : (k : Int) < (b.length : Int) - 1 := by omega
          clear hW hl h0
          go_wp2_with fail
          go_ret2
          subst hgn
          exact ⟨_, _, rfl, hB.out, .inr ⟨by simp; omega, HP.out⟩⟩
      · have hm := Lib.hid (fun w2 (hb : Below gn w w2) => moved_any q A c k b w2 hn ((h.below hb).more (by have := hb.size; omega)) hlt h0 hW.out.inq)
        obtain ⟨g, o, rfl, hg, c0⟩ := (h.below hB.out).at_ hlt
        have hc0 : (0 : Int) < (b[k].toNat : Int) := by omega
        have hc1 : (b[k].toNat : Int) < 256 := by have := u8_lt b[k]; omega
        have q0 := hq.out.pc
        have q1 := hq.out.pt
        have hgl := hq.out.lt
        have hBz := hB.out.size
        have hm2 := Lib.hid (hm.out wr hB.out)
        clear hm
        unfold MovedR at hm2
        cases hmv : mv q b[k].toNat (b.drop (k + 1)) with
        | none =>
          have HP := Lib.hid (hW.out.none hlt h0 hmv)
          rw [hmv] at hm2
          unfold mvV rv rK r0 at hm2
          clear hW hmv
          generalize b[k].toNat = s at *
          go_wp2_with fail
          refine hm2.out.mono ?_
          rintro e w2 ⟨rfl, hb2⟩
          have hq2 := Lib.hid (hq.out.below hb2 hgl)
          have f0 := hq2.out.frozen 0
          have f1 := hq2.out.frozen 1
          have e0 := hq2.out.pc
          have e1 := hq2.out.pt
          have hB2 := Lib.hid ((hB.out.trans (hb2.mono (by omega))).grown (put2_grown w2 gn r0) (by have := hb2.size; omega) (fun j e => by cases e; exact Nat.le_refl _))
          clear hb2 hm2 q0 q1
          go_wp2_with fail
          go_ret2
          subst hgn
          exact ⟨_, _, rfl, hB2.out, .inr ⟨rfl, HP.out⟩⟩
        | some pn =>
          obtain ⟨p, n⟩ := pn
          have HM := Lib.hid (hW.out.many)
          have HN := Lib.hid (hW.out.next hlt h0 hmv)
          have hnl : n ≤ b.length - (k + 1) := by have := mv_le hmv; simpa using this
          rw [hmv] at hm2
          unfold mvV rv rK at hm2
          simp only at hm2
          obtain ⟨A2, nl, c2, rfl, hnl2, hcap, hA2, hL2⟩ := hv.out.formN
          have hvlt := Lib.hid hv.out.lt
          clear hW hmv hA2 hL2 hcap
          generalize b[k].toNat = s at *
          go_wp2_with fail
          refine hm2.out.mono ?_
          rintro e w2 ⟨rfl, hb2⟩
          have hq2 := Lib.hid (hq.out.below hb2 hgl)
          have f0 := hq2.out.frozen 0
          have f1 := hq2.out.frozen 1
          have e0 := hq2.out.pc
          have e1 := hq2.out.pt
          have hz2 := hb2.size
          have hB2 := Lib.hid ((hB.out.trans (hb2.mono (by omega))).grown (put2_grown w2 gn p) (by omega) (fun j e => by cases e; exact Nat.le_refl _))
          have hq3 := Lib.hid (put2_at hq2.out p)
          have hv3 := Lib.hid ((hv.out.below hb2).kept (fun j e => (put2_grown w2 gn p).block j (by have := hvlt.out j e; omega) (fun e' => by cases e'; have := hvlt.out _ e; omega)))
          clear hb2 hm2 q0 q1 hv hq hB hvlt
          by_cases hmany : 20000 < nl
          · have HP := Lib.hid (HM.out (by rw [hnl2.out]; exact hmany))
            clear HM HN
            go_wp2_with fail
            go_ret2
            subst hgn
            exact ⟨_, _, rfl, hB2.out, .inr ⟨rfl, HP.out⟩⟩
          · have HN2 := Lib.hid (HN.out (by rw [hnl2.out]; omega))
            clear HM HN
            by_cases h3 : 3 ≤ s
            · rw [if_pos h3] at HN2
              have hr3 := Lib.hid (show RowAt ((put2 w2 gn p).alloc (.cells (rK p) 42)) w2.heap.size p from by
                have := rowAt_new (put2 w2 gn p) p
                rwa [show (put2 w2 gn p).heap.size = w2.heap.size by simp [put2, World.setCell]] at this)
              have hv4 := Lib.hid (hv3.out.below (below_new (put2 w2 gn p) (.cells (rK p) 42)))
              have hq4 := Lib.hid (hq3.out.below (below_new (put2 w2 gn p) (.cells (rK p) 42)) hq3.out.lt)
              have hB4 := Lib.hid (hB2.out.trans ((below_new (put2 w2 gn p) (.cells (rK p) 42)).mono (by have := hB2.out.size; omega)))
              have hfew : ls.length ≤ 1000000 := by rw [hnl2.out]; omega
              unfold put2 rK at hr3 hv4 hq4 hB4
              go_wp2_with (at_builtin
                           refine app_row _ rfl (.tmp 39) (.tmp 41) rfl (gn + 1) _ ls rfl hv4.out w2.heap.size 1 p rfl hr3.out hfew (by simp [World.setCell]; omega) ?_
                           intro v5 w5 ho5 hg5
                           have hq5 := Lib.hid (hq4.out.kept hg5 (fun e => by have := (hv4.out.lt _ e).1; omega))
                           have hB5 := Lib.hid (hB4.out.grown hg5 (by simp [World.setCell]; omega) (fun j e => by have := (hv4.out.lt _ e).1; omega))
                           clear hg5)
              go_roundw
              case rel => exact ⟨k + 1 + n, p, _, by omega, by go_num, ho5, hq5, hB5, HN2⟩
              case measure => simp [intOf]; omega
            · rw [if_neg h3, List.append_nil] at HN2
              unfold put2 at hv3 hq3 hB2
              go_wp2_with fail
              go_roundw
              case rel => exact ⟨k + 1 + n, p, ls, by omega, by go_num, hv3, hq3, hB2, HN2⟩
              case measure => simp [intOf]; omega
    · obtain rfl : k = b.length := by omega
      have HP := Lib.hid hW.out.cut
      have hl1 : (b.length : Int) - 1 < (b.length : Int) := by omega
      clear hW
      go_wp2_with fail
      go_ret2
      subst hgn
      exact ⟨_, _, rfl, hB.out, .inr ⟨by simp; omega, HP.out⟩⟩

/-- the error of what is read, and the rows -/
noncomputable def reE (b : List UInt8) : Int := if (rdL b).isSome then 0 else 5
noncomputable def reL (b : List UInt8) : List Rw := (rdL b).getD []
theorem re_some {b : List UInt8} {l : List Rw} (h : rdL b = some l) : reE b = 0 ∧ reL b = l := by simp [reE, reL, h]
theorem re_none {b : List UInt8} (h : rdL b = none) : reE b = 5 ∧ reL b = [] := by simp [reE, reL, h]
theorem re_few (b : List UInt8) : (reL b).length ≤ 20000 := by
  cases h : rdL b with
  | none => rw [(re_none h).2]; simp
  | some l =>
    rw [(re_some h).2]
    have := rdL_right h
    simp only [rightB, Bool.and_eq_true, decide_eq_true_eq] at this
    exact this.1
theorem re_ok {b : List UInt8} (h : reE b = 0) : rdL b = some (reL b) := by
  cases hq : rdL b with
  | none => rw [(re_none hq).1] at h; cases h
  | some l => rw [(re_some hq).2]
theorem re_no {b : List UInt8} (h : reE b ≠ 0) : reE b = 5 ∧ reL b = [] := by
  cases hq : rdL b with
  | none => exact re_none hq
  | some l => exact absurd (re_some hq).1 h
theorem rd_par {b : List UInt8} {l : List Rw} (h : par r0 b = some l) (hr : rightB l = true) : rdL b = some l := by
  unfold rdL; rw [h]; exact if_pos hr
theorem rd_par_no {b : List UInt8} {l : List Rw} (h : par r0 b = some l) (hr : rightB l = false) : rdL b = none := by
  unfold rdL; rw [h]; exact if_neg (by rw [hr]; simp)
def ReadR (b : List UInt8) (w : World) (e : Ending) (w' : World) : Prop := ∃ v, e = .returned (.tuple #[v, .int .i64 (reE b)]) ∧ ROwn w' w.heap.size v (reL b) ∧ Below w.heap.size w w'
theorem right_n (A : Option Addr) (n c : Nat) (l : List Rw) (w : World) (hl : l.length = n) (hn : n ≤ 1099511627776) (h : RLies w w.heap.size A l) :
    Calls Try.prog 12 #[.slice A n c] w (RightR l w) := by
  subst hl; exact right_any A c l w hn h

set_option maxRecDepth 100000 in
set_option maxHeartbeats 1000000 in
theorem read_any (A : Option Addr) (c : Nat) (b : List UInt8) (w : World) (hn : b.length ≤ 1099511627776) (h : Lies w w.heap.size A b) :
    Calls Try.prog 16 #[.slice A b.length c] w (ReadR b w) := by
  have HP := Lib.hid (rows_any A c b w hn h)
  clear h
  unfold RowsR at HP
  go_enter Try.func16, Try.ntmps16
  go_wp2_with fail
  refine HP.out.mono ?_
  rintro e w1 ⟨v, t, rfl, hb1, hcase⟩
  rcases hcase with ⟨rfl, l, hp, hv, hf⟩ | ⟨rfl, hno⟩
  · have hv' := Lib.hid hv
    obtain ⟨A2, nl, c2, rfl, hnl, hcap, hA2, hL2⟩ := hv.formN
    have HR := Lib.hid (right_n A2 nl c2 l w1 hnl.out (by rw [← hnl.out]; omega) hL2)
    unfold RightR at HR
    have HB1 := Lib.hid hb1
    have HPP := Lib.hid hp
    clear hv hcap hA2 hL2 HP hp hb1 hf
    cases hr : rightB l
    · rw [hr] at HR
      obtain ⟨E1, E2⟩ := re_none (rd_par_no HPP.out hr)
      have HE := Lib.hid (And.intro E1 E2)
      clear hr E1 E2
      go_wp2_with (go_at_call 12; refine HR.out.mono ?_; rintro e w2 ⟨rfl, hb2⟩)
      go_ret2
      refine ⟨_, by rw [HE.out.1]; rfl, ?_, HB1.out.trans (hb2.mono HB1.out.size)⟩
      rw [HE.out.2]
      exact ROwn.nil _ _
    · rw [hr] at HR
      obtain ⟨E1, E2⟩ := re_some (rd_par HPP.out hr)
      have HE := Lib.hid (And.intro E1 E2)
      clear hr E1 E2
      go_wp2_with (go_at_call 12; refine HR.out.mono ?_; rintro e w2 ⟨rfl, hb2⟩)
      go_ret2
      refine ⟨_, by rw [HE.out.1]; rfl, ?_, HB1.out.trans (hb2.mono HB1.out.size)⟩
      rw [HE.out.2]
      exact hv'.out.below hb2
  · obtain ⟨E1, E2⟩ := re_none hno
    have HE := Lib.hid (And.intro E1 E2)
    have HB1 := Lib.hid hb1
    clear HP hb1 E1 E2 hno
    go_wp2_with fail
    go_ret2
    refine ⟨_, by rw [HE.out.1]; rfl, ?_, HB1.out⟩
    rw [HE.out.2]
    exact ROwn.nil _ _
end Go.Proofs.Ytfpgmaegpiiagaa
