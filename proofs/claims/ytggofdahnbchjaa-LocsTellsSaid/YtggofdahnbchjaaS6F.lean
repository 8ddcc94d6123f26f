/-
  The contract of expr.read and expr.Get.
-/
import Derived.Test.YtggofdahnbchjaaS6E
import Derived.Test.YtggofdahnbchjaaL2F
import Derived.Test.YtggofdahnbchjaaKR
namespace Go.Proofs.Ytggofdahnbchjaa
open Go Go.RowKit

/-- what expr.read answers -/
def ReadR6 (b : List UInt8) (k : Nat) (w : World) (e : Ending) (w' : World) : Prop :=
  Below w.heap.size w w' ∧ ((∃ x n, rdO (b.drop k) = some (x, n) ∧ isL x.k = true ∧ e = .returned (.tuple #[.agg #[.int .u8 x.k, .int .i64 x.n], .int .i64 (k + n), .bool true])) ∨
    ((∀ x n, rdO (b.drop k) = some (x, n) → isL x.k = false) ∧ e = .returned (.tuple #[.agg #[.int .u8 0, .int .i64 0], .int .i64 0, .bool false])))

theorem loc_size : (Try.prog.info? 44).map (·.size) = some 2 := by kernel_rfl
theorem loc_back3 {fn : Func} {p u v : Tmp} (h : fn.results = #[.cell p 44, .tmp u, .tmp v]) {tmps : Array Value} {w : World} {g : Nat} {r : Lc} (hp : tmps.getD p undef = .pointer (some ⟨g, 0, none⟩))
    (hg : LocAt w g r) : (results fn tmps).run Try.prog w = .ok (.tuple #[cv r, tmps.getD u undef, tmps.getD v undef]) w :=
  res_row_tmp2 h tmps w g _ _ _ _ hp hg Try.underlying44 rfl loc_size
theorem LocAt.frozen {w : World} {g : Nat} {r : Lc} (h : LocAt w g r) (j : Nat) : w.frozen? ⟨g, j, none⟩ = false := by
  unfold LocAt at h
  simp [World.frozen?, h]
theorem LocAt.set0 {w : World} {g : Nat} {q : Lc} (h : LocAt w g q) (k : Int) : LocAt (w.setCell ⟨g, 0, none⟩ (.int .u8 k)) g ⟨k, q.n⟩ := by
  unfold LocAt cK at *
  simp [World.setCell, Array.getElem?_modify, h]
theorem LocAt.set1 {w : World} {g : Nat} {q : Lc} (h : LocAt w g q) (n : Int) : LocAt (w.setCell ⟨g, 1, none⟩ (.int .i64 n)) g ⟨q.k, n⟩ := by
  unfold LocAt cK at *
  simp [World.setCell, Array.getElem?_modify, h]
theorem below_set {B : Nat} {w w1 : World} (h : Below B w w1) (a : Addr) (v : Value) (hB : B ≤ a.block) : Below B w (w1.setCell a v) := h.setCell hB v

set_option maxRecDepth 100000 in
set_option maxHeartbeats 2000000 in
theorem read6_any (A : Option Addr) (c : Nat) (b : List UInt8) (k : Nat) (w : World) (hn : b.length ≤ 1099511627776) (hk : k ≤ b.length) (h : Lies w w.heap.size A b) :
    Calls Try.prog 78 #[.slice A b.length c, .int .i64 k] w (ReadR6 b k w) := by
  by_cases hlt : k < b.length
  · obtain ⟨g, o, rfl, hg, c0⟩ := h.at_ hlt
    have HD := Lib.hid (show b.drop k = b[k] :: b.drop (k + 1) from List.drop_eq_getElem_cons hlt)
    have hkb : (k : Int) < (b.length : Int) := by omega
    have HU := Lib.hid (fun w1 (hb : Below w.heap.size w w1) => S_any (some ⟨g, o, none⟩) c b ((k : Int) + 1) w1 w.heap.size hn (h.below hb))
    have hb0 := below_lnew w (.cells #[.int .u8 b[k].toNat, .int .i64 0] 44)
    have HB0 := Lib.hid hb0
    have HL0 := Lib.hid (locAt_new w ⟨b[k].toNat, 0⟩)
    unfold cK at HL0
    simp only at HL0
    clear hb0 h
    have HO := Lib.hid (of_any ⟨b[k].toNat, 0⟩)
    unfold OfR at HO
    simp only at HO
    have HRD := Lib.hid (show rdO (b.drop k) = if nmb b[k].toNat = true then (if good true (b.drop (k + 1)) then some (⟨b[k].toNat, hv true (b.drop (k + 1))⟩, lg (b.drop (k + 1)) 10 + 1) else none) else some (⟨b[k].toNat, 0⟩, 1) by rw [HD.out, rdO_cons])
    have hku := good_u8 b[k]
    by_cases hi : isL b[k].toNat = true
    · obtain ⟨fF, fN, fT, hsv, hst⟩ := stp_of ⟨b[k].toNat, 0⟩ hi
      obtain ⟨mF, mL, mN, mT, nA, eF, eL, eN, eT, cF, cN, cT⟩ := hst
      have CN := Lib.hid cN
      have HI := Lib.hid hi
      rw [hsv, hi] at HO
      simp only at HO CN mN
      clear mF mL mT nA eF eL eT cF cN cT hsv hi
      generalize tyL b[k].toNat = T at *
      by_cases hnm : nmb b[k].toNat = true
      · rw [hnm] at CN HRD
        rw [if_pos rfl] at HRD
        have h1i : ¬ ((k : Int) + 1 < 0 ∨ (b.length : Int) < (k : Int) + 1) := by omega
        have hN1 : ((k : Int) + 1) = ((k + 1 : Nat) : Int) := by omega
        by_cases hg2 : good true (b.drop (k + 1))
        · rw [if_pos hg2] at HRD
          obtain ⟨q1, q2, q3⟩ := rd_ok (b := true) (l := b) (k := k + 1) (by omega) hg2
          rw [hN1, q1, q2, q3] at HU
          have hmn : nmb b[k].toNat = true := hnm
          clear hg2 hnm q1 q2 q3
          generalize hv true (b.drop (k + 1)) = z at *
          generalize lg (b.drop (k + 1)) 10 = y at *
          generalize b[k].toNat = kd at *
          have HU' := Lib.hid (fun w1 hb => by have := HU.out w1 hb; rwa [← hN1] at this)
          clear HU hN1
          go_enter Try.func78, Try.ntmps78
          go_wp2_with fail
          refine (HO.out _).mono ?_
          rintro e w1 ⟨rfl, hb1⟩
          have HL1 := Lib.hid (HL0.out.below hb1 (by simp))
          have HB1 := Lib.hid (HB0.out.trans (hb1.mono HB0.out.size))
          have c1 := HL1.out.kd
          have c2 := HL1.out.nm
          have f0 := HL1.out.frozen 0
          have f1 := HL1.out.frozen 1
          simp only at c1 c2
          clear hb1 c0
          go_wp2_with fail
          refine (CN.out _).mono ?_
          rintro e w2 ⟨rfl, rfl⟩
          go_wp2_with fail
          refine (HU'.out _ HB1.out).mono ?_
          rintro e w2 ⟨rfl, rfl⟩
          go_wp2_with fail
          refine bodyPost_ret (loc_back3 (r := ⟨kd, z⟩) rfl rfl (((HL1.out.set1 z).set0 kd).set1 z)) rfl ?_
          exact ⟨below_set (below_set (below_set HB1.out _ _ (Nat.le_refl _)) _ _ (Nat.le_refl _)) _ _ (Nat.le_refl _), .inl ⟨⟨kd, z⟩, y + 1, HRD.out, HI.out, by simp only [cv, cK]; go_num⟩⟩
        · rw [if_neg hg2] at HRD
          obtain ⟨q1, q2, q3⟩ := rd_form (b := true) (l := b) (k := k + 1) (by omega) hg2
          rw [hN1, q1, q2, q3] at HU
          clear hg2 hnm q1 q2 q3
          generalize b[k].toNat = kd at *
          have HU' := Lib.hid (fun w1 hb => by have := HU.out w1 hb; rwa [← hN1] at this)
          clear HU hN1
          go_enter Try.func78, Try.ntmps78
          go_wp2_with fail
          refine (HO.out _).mono ?_
          rintro e w1 ⟨rfl, hb1⟩
          have HL1 := Lib.hid (HL0.out.below hb1 (by simp))
          have HB1 := Lib.hid (HB0.out.trans (hb1.mono HB0.out.size))
          have c1 := HL1.out.kd
          have c2 := HL1.out.nm
          have f0 := HL1.out.frozen 0
          have f1 := HL1.out.frozen 1
          simp only at c1 c2
          clear hb1 c0
          go_wp2_with fail
          refine (CN.out _).mono ?_
          rintro e w2 ⟨rfl, rfl⟩
          go_wp2_with fail
          refine (HU'.out _ HB1.out).mono ?_
          rintro e w2 ⟨rfl, rfl⟩
          go_wp2_with fail
          refine bodyPost_ret (loc_back3 (r := ⟨0, 0⟩) rfl rfl ((HL1.out.set0 0).set1 0)) rfl ?_
          exact ⟨below_set (below_set HB1.out _ _ (Nat.le_refl _)) _ _ (Nat.le_refl _), .inr ⟨fun x n e => (by rw [HRD.out] at e; cases e), rfl⟩⟩
      · have hnm' : nmb b[k].toNat = false := by simpa using hnm
        rw [hnm'] at CN HRD
        rw [if_neg (by decide)] at HRD
        clear hnm hnm' HU
        generalize b[k].toNat = kd at *
        go_enter Try.func78, Try.ntmps78
        go_wp2_with fail
        refine (HO.out _).mono ?_
        rintro e w1 ⟨rfl, hb1⟩
        have HL1 := Lib.hid (HL0.out.below hb1 (by simp))
        have HB1 := Lib.hid (HB0.out.trans (hb1.mono HB0.out.size))
        have c1 := HL1.out.kd
        have c2 := HL1.out.nm
        have f0 := HL1.out.frozen 0
        have f1 := HL1.out.frozen 1
        simp only at c1 c2
        clear hb1 c0
        go_wp2_with fail
        refine (CN.out _).mono ?_
        rintro e w2 ⟨rfl, rfl⟩
        go_wp2_with fail
        refine bodyPost_ret (loc_back3 (r := ⟨kd, 0⟩) rfl rfl ((HL1.out.set0 kd).set1 0)) rfl ?_
        exact ⟨below_set (below_set HB1.out _ _ (Nat.le_refl _)) _ _ (Nat.le_refl _), .inl ⟨⟨kd, 0⟩, 1, HRD.out, HI.out, rfl⟩⟩
    · have hi' : isL b[k].toNat = false := by simpa using hi
      have HNO := Lib.hid (show ∀ x n, rdO (b.drop k) = some (x, n) → isL x.k = false from fun x n e => by
        rw [HRD.out] at e
        split at e
        · split at e
          · cases e; exact hi'
          · cases e
        · cases e; exact hi')
      rw [hi'] at HO
      clear hi hi' HU HRD
      generalize sv ⟨b[k].toNat, 0⟩ = s at *
      generalize b[k].toNat = kd at *
      go_enter Try.func78, Try.ntmps78
      go_wp2_with fail
      refine (HO.out _).mono ?_
      rintro e w1 ⟨rfl, hb1⟩
      have HL1 := Lib.hid (HL0.out.below hb1 (by simp))
      have HB1 := Lib.hid (HB0.out.trans (hb1.mono HB0.out.size))
      have c1 := HL1.out.kd
      have c2 := HL1.out.nm
      have f0 := HL1.out.frozen 0
      have f1 := HL1.out.frozen 1
      simp only at c1 c2
      clear hb1 c0
      go_wp2_with fail
      refine bodyPost_ret (loc_back3 (r := ⟨0, 0⟩) rfl rfl ((HL1.out.set0 0).set1 0)) rfl ?_
      exact ⟨below_set (below_set HB1.out _ _ (Nat.le_refl _)) _ _ (Nat.le_refl _), .inr ⟨HNO.out, rfl⟩⟩
  · obtain rfl : k = b.length := by omega
    have HR := Lib.hid (show rdO (b.drop b.length) = none by rw [List.drop_length]; rfl)
    have hb0 := Lib.hid (below_lnew w (.cells #[.int .u8 0, .int .i64 0] 44))
    go_enter Try.func78, Try.ntmps78
    go_wp2_with fail
    refine bodyPost_ret (loc_back3 (r := ⟨0, 0⟩) rfl rfl (heap_alloc_new _ _)) rfl ?_
    exact ⟨hb0.out, .inr ⟨fun x n e => (by rw [HR.out] at e; cases e), rfl⟩⟩
end Go.Proofs.Ytggofdahnbchjaa
