/-
  Contract of the document's Right of entries.
-/
import Derived.Test.YtgpoicbbmaimpaaU8D
namespace Go.Proofs.Ytgpoicbbmaimpaa
open Go Go.RowKit

theorem refRight_stop {ps : List Ps} {a : Int} {k : Nat} (hk : k < ps.length) (hr : okA 0 (ps.map Ps.sp) = okA a ((ps.map Ps.sp).drop k)) (ho : okE a ps[k].sp = false) : rightL (ps.map Ps.sp) = false := by
  unfold rightL
  rw [hr, okA_at (by simpa using hk), List.getElem_map, ho, Bool.false_and, Bool.and_false]
theorem refRight_step {ps : List Ps} {a : Int} {k : Nat} (hk : k < ps.length) (hr : okA 0 (ps.map Ps.sp) = okA a ((ps.map Ps.sp).drop k)) (ho : okE a ps[k].sp = true) : okA 0 (ps.map Ps.sp) = okA ps[k].t ((ps.map Ps.sp).drop (k + 1)) := by
  rw [hr, okA_at (by simpa using hk), List.getElem_map, ho, Bool.true_and]; rfl
theorem refRight_end {ps : List Ps} {a : Int} (hr : okA 0 (ps.map Ps.sp) = okA a ((ps.map Ps.sp).drop ps.length)) : rightL (ps.map Ps.sp) = decide ((ps.length : Int) ≤ 4000) := by
  unfold rightL
  rw [hr, List.drop_eq_nil_of_le (by simp)]
  have : (ps.length ≤ 4000) ↔ ((ps.length : Int) ≤ 4000) := by omega
  simp [okA, this]

set_option maxRecDepth 100000 in
set_option maxHeartbeats 4000000 in
theorem refRight8_any (A : Option Addr) (c : Nat) (ps : List Ps) (w : World) (hs : Sm ps) (h : SLies w w.heap.size A ps) :
    Calls Try.prog 17 #[.slice A ps.length c] w (BoolR (rightL (ps.map Ps.sp)) w) := by
  have hn := hs.1
  have HSM := Lib.hid hs.2
  clear hs
  go_enter Try.func17, Try.ntmps17
  go_wp2
  go_loopw [3, 4] (fun a i wr => ∃ (k : Nat) (x : Int), k ≤ ps.length ∧ i = .int .i64 k ∧ a = .int .i64 x ∧ Hid (okA 0 (ps.map Ps.sp) = okA x ((ps.map Ps.sp).drop k)) ∧ Hid (Below w.heap.size w wr)) (fun _ i _ => ps.length - (intOf i).toNat)
  case atStart => exact ⟨0, 0, by omega, rfl, rfl, rfl, Below.refl _ _⟩
  case round =>
    obtain ⟨k, x, hk, rfl, rfl, hr, hB⟩ := hrel
    by_cases hlt : k < ps.length
    · obtain ⟨g, o, rfl, hg, c1, c2, c3, c4⟩ := (h.below hB.out).1.at_ hlt
      have HN := Lib.hid (fun ho => refRight_step hlt hr.out ho)
      have HF := Lib.hid (fun ho => refRight_stop hlt hr.out ho)
      have HZ0 := below_lnew wr (.cells (pK ps[k]) 48)
      have HX := Lib.hid (spAt_new wr ps[k])
      have HM := Lib.hid (((((h.below hB.out).2 _ (List.getElem_mem hlt)).more hB.out.size).below HZ0).more HZ0.size)
      have HSm := HSM.out _ (List.getElem_mem hlt)
      have HZ := Lib.hid (hB.out.trans (HZ0.mono hB.out.size))
      clear hr HZ0
      generalize ps[k] = r at *
      have HNo := Lib.hid (fun q => HF.out (okE_no (a := x) (y := r.sp) q))
      obtain ⟨rf, rt, ru, ra, rA, rc⟩ := r
      simp only [pK] at HX HZ HM
      dsimp only [Ps.sp] at *
      by_cases h1 : rf < x
      · have HR := Lib.hid (HNo.out (by omega))
        clear HN HF HNo
        go_wp2
        go_ret
        exact ⟨by rw [HR.out]; rfl, HZ.out⟩
      by_cases h2 : rt ≤ rf
      · have HR := Lib.hid (HNo.out (by omega))
        clear HN HF HNo
        go_wp2
        go_ret
        exact ⟨by rw [HR.out]; rfl, HZ.out⟩
      by_cases h3 : 16777216 < rt
      · have HR := Lib.hid (HNo.out (by omega))
        clear HN HF HNo
        go_wp2
        go_ret
        exact ⟨by rw [HR.out]; rfl, HZ.out⟩
      by_cases h4 : ru < 0
      · have HR := Lib.hid (HNo.out (by omega))
        clear HN HF HNo
        go_wp2
        go_ret
        exact ⟨by rw [HR.out]; rfl, HZ.out⟩
      by_cases h5 : 65536 < ru
      · have HR := Lib.hid (HNo.out (by omega))
        clear HN HF HNo
        go_wp2
        go_ret
        exact ⟨by rw [HR.out]; rfl, HZ.out⟩
      have HE := okE_rise (a := x) (y := ⟨rf, rt, ru, ra⟩) (by dsimp only; omega) (by dsimp only; omega) (by dsimp only; omega) (by dsimp only; omega) (by dsimp only; omega)
      rw [HE] at HN HF
      clear HE HNo
      have d3 := HX.out.at_
      have d1 := HX.out.to
      dsimp only at d3 d1
      go_wp2
      generalize wr.alloc (.cells #[.int .i64 rf, .int .i64 rt, .int .i64 ru, .slice rA ra.length rc] 48) = W at *
      generalize wr.heap.size = gu at *
      go_loop [6, 7] (fun a i => ∃ (j : Nat) (y : Int), j ≤ ra.length ∧ i = .int .i64 j ∧ a = .int .i64 y ∧ Hid (riseL 5 ra = riseL y (ra.drop j))) (fun _ i => ra.length - (intOf i).toNat)
      case atStart => exact ⟨0, 5, by omega, rfl, rfl, rfl⟩
      case round =>
        obtain ⟨j, y, hj, rfl, rfl, hw⟩ := hrel
        by_cases hlj : j < ra.length
        · obtain ⟨g2, o2, rfl, hg2, e1, e2⟩ := HM.out.2.2.at_ hlj
          have HWN := Lib.hid (fun ho => rise_step hlj hw.out ho)
          have HWF := Lib.hid (fun ho => rise_stop hlj hw.out (not_okW ho))
          clear hw
          generalize ra[j] = q at *
          by_cases k1 : q.k ≤ y
          · have HR := Lib.hid (HF.out (HWF.out (by omega)))
            clear HN HF HWN HWF
            go_wp2
            go_ret
            exact ⟨by rw [HR.out]; rfl, HZ.out⟩
          by_cases k2 : 11 < q.k
          · have HR := Lib.hid (HF.out (HWF.out (by omega)))
            clear HN HF HWN HWF
            go_wp2
            go_ret
            exact ⟨by rw [HR.out]; rfl, HZ.out⟩
          by_cases k3 : -2 < q.n
          · have HR := Lib.hid (HF.out (HWF.out (by omega)))
            clear HN HF HWN HWF
            go_wp2
            go_ret
            exact ⟨by rw [HR.out]; rfl, HZ.out⟩
          by_cases k4 : q.n < -65536
          · have HR := Lib.hid (HF.out (HWF.out (by omega)))
            clear HN HF HWN HWF
            go_wp2
            go_ret
            exact ⟨by rw [HR.out]; rfl, HZ.out⟩
          have HW2 := Lib.hid (HWN.out ⟨by omega, by omega, by omega, by omega⟩)
          clear HN HF HWN HWF
          go_wp2
          go_round
          case rel => exact ⟨j + 1, q.k, by omega, by go_num, rfl, HW2⟩
          case measure => simp [intOf]; omega
        · obtain rfl : j = ra.length := by omega
          have HN2 := Lib.hid (HN.out (rise_end hw.out))
          clear HN HF hw
          go_wp2
          go_roundw
          case rel => exact ⟨k + 1, rt, by omega, by go_num, rfl, HN2, HZ⟩
          case measure => simp [intOf]; omega
    · obtain rfl : k = ps.length := by omega
      have HR := Lib.hid (refRight_end hr.out)
      clear hr
      go_wp2
      go_ret
      exact ⟨by rw [HR.out]; rfl, hB.out⟩
end Go.Proofs.Ytgpoicbbmaimpaa
