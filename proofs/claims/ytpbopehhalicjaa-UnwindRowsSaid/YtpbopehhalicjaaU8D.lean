/-
  Contracts of unwind.rise and unwind.Right.
-/
import Derived.Test.YtpbopehhalicjaaU8C
namespace Go.Proofs.Ytpbopehhalicjaa
open Go Go.RowKit

def BoolR (b : Bool) (w : World) (e : Ending) (w' : World) : Prop := e = .returned (.bool b) ∧ Below w.heap.size w w'
theorem rise_stop {l : List Lc} {a : Int} {k : Nat} (hk : k < l.length) (hr : riseL 5 l = riseL a (l.drop k)) (ho : ¬ okW a l[k]) : riseL 5 l = false := by
  rw [hr, riseL_at hk, decide_eq_false ho, Bool.false_and]
theorem rise_step {l : List Lc} {a : Int} {k : Nat} (hk : k < l.length) (hr : riseL 5 l = riseL a (l.drop k)) (ho : okW a l[k]) : riseL 5 l = riseL l[k].k (l.drop (k + 1)) := by
  rw [hr, riseL_at hk, decide_eq_true ho, Bool.true_and]
theorem rise_end {l : List Lc} {a : Int} (hr : riseL 5 l = riseL a (l.drop l.length)) : riseL 5 l = true := by
  rw [hr, List.drop_length]; rfl
theorem not_okW {a : Int} {x : Lc} (h : x.k ≤ a ∨ 11 < x.k ∨ x.n < -65536 ∨ -2 < x.n) : ¬ okW a x := by unfold okW; omega

set_option maxRecDepth 100000 in
set_option maxHeartbeats 1000000 in
theorem rise_any (A : Option Addr) (c : Nat) (l : List Lc) (w : World) (hn : l.length ≤ 1099511627776) (h : LLies w w.heap.size A l) :
    Calls Try.prog 23 #[.slice A l.length c] w (BoolR (riseL 5 l) w) := by
  go_enter Try.func23, Try.ntmps23
  go_wp2
  go_loopw [3, 8] (fun a i wr => ∃ (k : Nat) (x : Int), k ≤ l.length ∧ i = .int .i64 k ∧ a = .int .i64 x ∧ Hid (riseL 5 l = riseL x (l.drop k)) ∧ Hid (Below w.heap.size w wr)) (fun _ i _ => l.length - (intOf i).toNat)
  case atStart => exact ⟨0, 5, by omega, rfl, rfl, rfl, Below.refl _ _⟩
  case round =>
    obtain ⟨k, x, hk, rfl, rfl, hr, hB⟩ := hrel
    by_cases hlt : k < l.length
    · obtain ⟨g, o, rfl, hg, c1, c2⟩ := (h.below hB.out).at_ hlt
      have HN := Lib.hid (fun ho => rise_step hlt hr.out ho)
      have HF := Lib.hid (fun ho => rise_stop hlt hr.out (not_okW ho))
      have HZ := Lib.hid (hB.out.trans ((below_lnew wr (.cells #[.int .i64 l[k].k, .int .i64 l[k].n] 31)).mono hB.out.size))
      clear hr
      generalize l[k] = r at *
      by_cases h1 : r.k ≤ x
      · go_wp2
        go_ret
        exact ⟨by rw [HF.out (by omega)]; rfl, HZ.out⟩
      · by_cases h2 : 11 < r.k
        · go_wp2
          go_ret
          exact ⟨by rw [HF.out (by omega)]; rfl, HZ.out⟩
        · by_cases h3 : r.n < -65536
          · go_wp2
            go_ret
            exact ⟨by rw [HF.out (by omega)]; rfl, HZ.out⟩
          · by_cases h4 : -2 < r.n
            · go_wp2
              go_ret
              exact ⟨by rw [HF.out (by omega)]; rfl, HZ.out⟩
            · have HN2 := Lib.hid (HN.out ⟨by omega, by omega, by omega, by omega⟩)
              clear HN HF
              go_wp2
              go_roundw
              case rel => exact ⟨k + 1, r.k, by omega, by go_num, rfl, HN2, HZ⟩
              case measure => simp [intOf]; omega
    · obtain rfl : k = l.length := by omega
      have HR := Lib.hid (rise_end hr.out)
      clear hr
      go_wp2
      go_ret
      exact ⟨by rw [HR.out]; rfl, hB.out⟩

theorem rightS_long {xs : List Sp} (h : 4000 < xs.length) : rightL xs = false := by
  unfold rightL; rw [decide_eq_false (by omega)]; rfl
theorem rightS_start {xs : List Sp} (h : xs.length ≤ 4000) : rightL xs = okA 0 (xs.drop 0) := by
  unfold rightL; rw [decide_eq_true h]; rfl
theorem rightP_step {ps : List Ps} {a : Int} {k : Nat} (hk : k < ps.length) (hr : rightL (ps.map Ps.sp) = okA a ((ps.map Ps.sp).drop k)) (ho : okE a ps[k].sp = true) : rightL (ps.map Ps.sp) = okA ps[k].t ((ps.map Ps.sp).drop (k + 1)) := by
  rw [hr, okA_at (by simpa using hk), List.getElem_map, ho, Bool.true_and]; rfl
theorem rightP_stop {ps : List Ps} {a : Int} {k : Nat} (hk : k < ps.length) (hr : rightL (ps.map Ps.sp) = okA a ((ps.map Ps.sp).drop k)) (ho : okE a ps[k].sp = false) : rightL (ps.map Ps.sp) = false := by
  rw [hr, okA_at (by simpa using hk), List.getElem_map, ho, Bool.false_and]
theorem rightP_end {ps : List Ps} {a : Int} (hr : rightL (ps.map Ps.sp) = okA a ((ps.map Ps.sp).drop ps.length)) : rightL (ps.map Ps.sp) = true := by
  rw [hr, List.drop_eq_nil_of_le (by simp)]; rfl
theorem okE_no {a : Int} {y : Sp} (h : y.f < a ∨ y.t ≤ y.f ∨ 16777216 < y.t ∨ y.u < 0 ∨ 65536 < y.u) : okE a y = false := by
  unfold okE; rw [decide_eq_false (by unfold okF; omega), Bool.false_and]
theorem okE_rise {a : Int} {y : Sp} (h1 : a ≤ y.f) (h2 : y.f < y.t) (h3 : y.t ≤ 16777216) (h4 : 0 ≤ y.u) (h5 : y.u ≤ 65536) : okE a y = riseL 5 y.a := by
  unfold okE; rw [decide_eq_true ⟨h1, h2, h3, h4, h5⟩, Bool.true_and]
/-- small enough -/
def Sm (ps : List Ps) : Prop := ps.length ≤ 1099511627776 ∧ ∀ p ∈ ps, p.a.length ≤ 1099511627776
theorem below_lnew3 (w : World) (o o2 o3 : Obj) : Below w.heap.size w (((w.alloc o).alloc o2).alloc o3) := (below_lnew2 w o o2).alloc (by simp; omega) _

set_option maxRecDepth 100000 in
set_option maxHeartbeats 2000000 in
theorem right8_any (A : Option Addr) (c : Nat) (ps : List Ps) (w : World) (hs : Sm ps) (h : SLies w w.heap.size A ps) :
    Calls Try.prog 14 #[.slice A ps.length c] w (BoolR (rightL (ps.map Ps.sp)) w) := by
  have hn := hs.1
  by_cases hb : 4000 < ps.length
  · have HR := Lib.hid (show rightL (ps.map Ps.sp) = false from rightS_long (by simpa using hb))
    have hb2 : (4000 : Int) < ps.length := by omega
    go_enter Try.func14, Try.ntmps14
    go_wp2
    go_ret
    exact ⟨by rw [HR.out]; rfl, Below.refl _ _⟩
  · have H0 := Lib.hid (show rightL (ps.map Ps.sp) = okA 0 ((ps.map Ps.sp).drop 0) from rightS_start (by simpa using hb))
    have hb2 : (ps.length : Int) ≤ 4000 := by omega
    go_enter Try.func14, Try.ntmps14
    go_wp2
    go_loopw [3, 11] (fun a i wr => ∃ (k : Nat) (x : Int), k ≤ ps.length ∧ i = .int .i64 k ∧ a = .int .i64 x ∧ Hid (rightL (ps.map Ps.sp) = okA x ((ps.map Ps.sp).drop k)) ∧ Hid (Below w.heap.size w wr)) (fun _ i _ => ps.length - (intOf i).toNat)
    case atStart => exact ⟨0, 0, by omega, rfl, rfl, H0, Below.refl _ _⟩
    case round =>
      obtain ⟨k, x, hk, rfl, rfl, hr, hB⟩ := hrel
      clear H0
      by_cases hlt : k < ps.length
      · obtain ⟨g, o, rfl, hg, c1, c2, c3, c4⟩ := (h.below hB.out).1.at_ hlt
        have HN := Lib.hid (fun ho => rightP_step hlt hr.out ho)
        have HF := Lib.hid (fun ho => rightP_stop hlt hr.out ho)
        have HZ0 := below_lnew wr (.cells (pK ps[k]) 29)
        have HX := Lib.hid (spAt_new wr ps[k])
        have HM := Lib.hid ((((h.below hB.out).2 _ (List.getElem_mem hlt)).more hB.out.size).below HZ0)
        have HSm := hs.2 _ (List.getElem_mem hlt)
        have HZ := Lib.hid (hB.out.trans (HZ0.mono hB.out.size))
        have HZ1 := Lib.hid HZ0.size
        clear hr HZ0
        generalize ps[k] = r at *
        have HNo := Lib.hid (fun q => HF.out (okE_no (a := x) (y := r.sp) q))
        obtain ⟨rf, rt, ru, ra, rA, rc⟩ := r
        simp only [pK] at HX HZ HZ1 HM
        dsimp only [Ps.sp] at *
        by_cases h1 : rf < x
        · have HR := Lib.hid (HNo.out (by omega))
          clear HN HF HNo
          go_wp2
          go_ret
          exact ⟨by rw [HR.out]; rfl, HZ.out⟩
        by_cases h2 : rt ≤ rf
        · have HR := Lib.hid (HNo.out (by omega))
          clear HN HF HNo
          go_wp2
          go_ret
          exact ⟨by rw [HR.out]; rfl, HZ.out⟩
        by_cases h3 : 16777216 < rt
        · have HR := Lib.hid (HNo.out (by omega))
          clear HN HF HNo
          go_wp2
          go_ret
          exact ⟨by rw [HR.out]; rfl, HZ.out⟩
        by_cases h4 : ru < 0
        · have HR := Lib.hid (HNo.out (by omega))
          clear HN HF HNo
          go_wp2
          go_ret
          exact ⟨by rw [HR.out]; rfl, HZ.out⟩
        by_cases h5 : 65536 < ru
        · have HR := Lib.hid (HNo.out (by omega))
          clear HN HF HNo
          go_wp2
          go_ret
          exact ⟨by rw [HR.out]; rfl, HZ.out⟩
        have HE := okE_rise (a := x) (y := ⟨rf, rt, ru, ra⟩) (by dsimp only; omega) (by dsimp only; omega) (by dsimp only; omega) (by dsimp only; omega) (by dsimp only; omega)
        rw [HE] at HN HF
        have HC := Lib.hid (rise_any rA rc ra _ HSm (HM.out.2.2.more HZ1.out))
        unfold BoolR at HC
        clear HM HE HNo
        cases hr : riseL 5 ra
        · have HR := Lib.hid (HF.out hr)
          rw [hr] at HC
          clear HN HF hr
          go_wp2_with (go_at_call 23; refine HC.out.mono ?_; rintro e w3 ⟨rfl, hb3⟩)
          go_ret
          exact ⟨by rw [HR.out]; rfl, HZ.out.trans (hb3.mono HZ.out.size)⟩
        · have HN2 := Lib.hid (HN.out hr)
          rw [hr] at HC
          clear HN HF hr
          go_wp2_with (go_at_call 23; refine HC.out.mono ?_; rintro e w3 ⟨rfl, hb3⟩; have hX3 := HX.out.below hb3 (by simp); have d1 := hX3.to; dsimp only at d1)
          go_roundw
          case rel => exact ⟨k + 1, rt, by omega, by go_num, rfl, HN2, HZ.out.trans (hb3.mono HZ.out.size)⟩
          case measure => simp [intOf]; omega
      · obtain rfl : k = ps.length := by omega
        have HR := Lib.hid (rightP_end hr.out)
        clear hr
        go_wp2
        go_ret
        exact ⟨by rw [HR.out]; rfl, hB.out⟩
end Go.Proofs.Ytpbopehhalicjaa
