/-
  The walk of UnwindGets.
-/
import Derived.Test.YtgpoicbbmaimpaaU8Y
import Derived.Test.YtgpoicbbmaimpaaU8L
import Derived.Test.YtgpoicbbmaimpaaR0B
namespace Go.Proofs.Ytgpoicbbmaimpaa
open Go Go.RowKit

theorem okA_len : ∀ {l : List Sp} {a : Int}, okA a l = true → ∀ y ∈ l, y.a.length ≤ 16
  | [], _, _, _, hy => absurd hy (by simp)
  | x :: l, a, h, y, hy => by
    rw [show okA a (x :: l) = (okE a x && okA x.t l) from rfl, Bool.and_eq_true] at h
    rcases List.mem_cons.1 hy with rfl | hy
    · have := riseL_len (okE_of h.1).2 (by omega)
      omega
    · exact okA_len h.2 y hy
theorem rightL_sm {ps : List Ps} (h : rightL (ps.map Ps.sp) = true) : ps.length ≤ 4000 ∧ ∀ p ∈ ps, p.a.length ≤ 16 := by
  unfold rightL at h
  rw [Bool.and_eq_true] at h
  refine ⟨by have := of_decide_eq_true h.1; rwa [List.length_map] at this, fun p hp => okA_len h.2 p.sp (List.mem_map_of_mem hp)⟩
theorem gsL_sm {b : List UInt8} {i : Int} {ps : List Ps} (h : ps.map Ps.sp = gsL b i) : Sm ps := by
  rcases gs_cases (b := b) i with ⟨_, h2, _⟩ | ⟨k, n, _, _, hg, _, _⟩
  · rw [h2] at h
    have : ps = [] := by simpa using h
    subst this
    exact ⟨by simp, fun p hp => absurd hp (by simp)⟩
  · have hr := (gotS_has hg).1
    rw [← h] at hr
    obtain ⟨h1, h2⟩ := rightL_sm hr
    exact ⟨by omega, fun p hp => by have := h2 p hp; omega⟩
theorem kept8_n (g : Nat) (A : Option Addr) (c B : Nat) (l : List UInt8) (w : World) (hn : l.length ≤ 1099511627776) (hk : Blk w g (l ++ t8)) (h : Lies w B A l) :
    Calls Try.prog 14 #[.slice (some ⟨g, 0, none⟩) l.length (l.length + 8), .slice A l.length c] w fun e w' => e = .returned (.bool true) ∧ w = w' := kept_any g A c B l w hn hk h

set_option maxRecDepth 100000 in
set_option maxHeartbeats 2000000 in
theorem unwindGets_any (A : Option Addr) (c : Nat) (b : List UInt8) (i : Int) (w : World) (h : Lies w w.heap.size A b) :
    Calls Try.prog 4 #[.slice A b.length c, .int .i64 i] w (BoolR true w) := by
  by_cases hbig : 8192 < b.length
  · have hb2 : (8192 : Int) < b.length := by omega
    go_enter Try.func4, Try.ntmps4
    go_wp2_with fail
    refine (works8_any _).mono ?_
    rintro e w' ⟨rfl, hb⟩
    go_wp2
    go_ret
    exact ⟨rfl, hb⟩
  · have hb2 : (b.length : Int) ≤ 8192 := by omega
    have HL := Lib.hid h
    clear h
    go_enter Try.func4, Try.ntmps4
    go_wp2_with fail
    refine (roomy_any A c b _ (by omega) HL.out).mono ?_
    rintro e w1 ⟨rfl, hk1, hb1⟩
    have HK1 := Lib.hid hk1
    have HB1 := Lib.hid hb1
    have HI1 := Lib.hid (hk1.lies (List.prefix_append b t8) hk1.lt)
    have g01 := hk1.lt
    clear hk1 hb1
    go_wp2_with fail
    refine (get8_all _ _ b i w1 (by omega) HI1.out).mono ?_
    rintro e w2 ⟨v2, rfl, ho2, hb2'⟩
    have HB2 := Lib.hid (HB1.out.trans (hb2'.mono HB1.out.size))
    have HK2 := Lib.hid (HK1.out.below hb2' g01)
    have HO2 := Lib.hid ho2
    have g12 := hb2'.size
    clear ho2 hb2'
    go_wp2_with fail
    refine (refGet8_any A c b i w2 (by omega) ((HL.out.below HB2.out).more HB2.out.size)).mono ?_
    rintro e w3 ⟨v3, rfl, ho3, hb3⟩
    have HB3 := Lib.hid (HB2.out.trans (hb3.mono HB2.out.size))
    have HK3 := Lib.hid (HK2.out.below hb3 (by omega))
    have g23 := hb3.size
    obtain ⟨A2, c2, ps, rfl, e2, _, _, hM2⟩ := (HO2.out.below hb3).form
    obtain ⟨A3, c3, qs, rfl, e3, _, _, hM3⟩ := ho3.form
    have HSM := Lib.hid (same8_any A2 A3 c2 c3 ps qs w3 (by rw [e2, e3]) (gsL_sm e2) hM2 hM3)
    clear ho3 hb3 hM2 hM3 HO2 e2 e3
    generalize gsE b i = E at *
    generalize gsN b i = N at *
    go_wp2_with fail
    refine HSM.out.mono ?_
    rintro e w4 ⟨rfl, hb4⟩
    have HB4 := Lib.hid (HB3.out.trans (hb4.mono HB3.out.size))
    have HK4 := Lib.hid (HK3.out.below hb4 (by omega))
    clear hb4
    go_wp2_with fail
    refine (kept8_n w.heap.size A c w.heap.size b w4 (by omega) HK4.out (HL.out.below HB4.out)).mono ?_
    rintro e w' ⟨rfl, rfl⟩
    go_wp2_with fail
    refine (works8_any _).mono ?_
    rintro e w7 ⟨rfl, hb7⟩
    go_wp2_with fail
    go_ret
    exact ⟨rfl, HB4.out.trans (hb7.mono HB4.out.size)⟩
end Go.Proofs.Ytgpoicbbmaimpaa
