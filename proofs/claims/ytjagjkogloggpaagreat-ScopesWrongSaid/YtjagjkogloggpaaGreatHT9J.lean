/-
  Merged for a claim: T9J.
-/
import Derived.Test.YtjagjkogloggpaaGreatHJ24
import Derived.Test.YtjagjkogloggpaaGreatHJ25
namespace Go.Proofs.YtjagjkogloggpaaGreat
open Go Go.RowKit

theorem mem_like {α β : Type} {f : α → β} {l m : List α} (h : l.map f = m.map f) {x : α} (hx : x ∈ l) : ∃ y ∈ m, f y = f x := by
  have : f x ∈ m.map f := by rw [← h]; exact List.mem_map_of_mem hx
  obtain ⟨y, hy, e⟩ := List.mem_map.1 this
  exact ⟨y, hy, e⟩
theorem sm_like {l m : List Ps} (h : l.map Ps.sp = m.map Ps.sp) (hs : Sm m) : Sm l :=
  ⟨by rw [map_len h]; exact hs.1, fun q hq => by
    obtain ⟨y, hy, e⟩ := mem_like h hq
    have e2 : y.a = q.a := congrArg Sp.a e
    rw [← e2]
    exact hs.2 y hy⟩
theorem few_like {p q : Pp} (h : p.d = q.d) (hs : FewP q) : FewP p := by
  have hv : p.vs.map Pv.d = q.vs.map Pv.d := congrArg Plc.vs h
  have hr : p.ss.map Rs.d = q.ss.map Rs.d := congrArg Plc.ss h
  refine ⟨fun r hr2 => ?_, by rw [map_len hv]; exact hs.2.1, by rw [map_len hr]; exact hs.2.2.1, fun v hv2 => ?_, fun r hr2 => ?_⟩
  · obtain ⟨y, hy, e⟩ := mem_like hr hr2
    exact sm_like e.symm (hs.1 y hy)
  · obtain ⟨y, hy, e⟩ := mem_like hv hv2
    rw [← e]
    exact hs.2.2.2.1 y hy
  · obtain ⟨y, hy, e⟩ := mem_like hr hr2
    have := map_len (show r.l.map Ps.sp = y.l.map Ps.sp from e.symm)
    rw [this]
    exact hs.2.2.2.2 y hy
theorem fewT_like {ps ps2 : List Pp} {qs qs2 : List Pq} (h : ps2.map Pp.d = ps.map Pp.d) (h2 : qs2.map Pq.d = qs.map Pq.d) (hs : FewT ps qs) : FewT ps2 qs2 :=
  ⟨by rw [map_len h]; exact hs.1, by rw [map_len h2]; exact hs.2.1, fun p hp => by
    obtain ⟨y, hy, e⟩ := mem_like h hp
    exact few_like e.symm (hs.2.2.1 y hy), fun q hq => by
    obtain ⟨y, hy, e⟩ := mem_like h2 hq
    rw [← e]
    exact hs.2.2.2 y hy⟩
theorem FewT.same {ps : List Pp} {qs : List Pq} (hs : FewT ps qs) : ps.length ≤ 1099511627776 ∧ ∀ p ∈ ps, SmP p ∧ p.vs.length ≤ 1099511627776 ∧ p.ss.length ≤ 1099511627776 ∧ ∀ v ∈ p.vs, v.d.fs.length ≤ 1099511627776 :=
  ⟨by have := hs.1; omega, fun p hp => ⟨(hs.2.2.1 p hp).1, by have := (hs.2.2.1 p hp).2.1; omega, by have := (hs.2.2.1 p hp).2.2.1; omega, fun v hv => by have := (hs.2.2.1 p hp).2.2.2.1 v hv; omega⟩⟩
theorem FewT.samep {ps : List Pp} {qs : List Pq} (hs : FewT ps qs) : qs.length ≤ 1099511627776 ∧ ∀ q ∈ qs, q.d.sc.length ≤ 1099511627776 :=
  ⟨by have := hs.2.1; omega, fun q hq => by have := hs.2.2.2 q hq; omega⟩
theorem FewT.smT {ps : List Pp} {qs : List Pq} (hs : FewT ps qs) : SmT ps qs := ⟨fun p hp => (hs.2.2.1 p hp).1, fun q hq => by have := hs.2.2.2 q hq; omega⟩

set_option maxRecDepth 100000 in
set_option maxHeartbeats 8000000 in
theorem scopesFinds_any (A A2 : Option Addr) (c c2 : Nat) (ps : List Pp) (qs : List Pq) (pc pt : Int) (nm : List UInt8) (W : World) (hT : TIn W A c ps A2 c2 qs) :
    Calls Tryz.prog 4 #[.agg #[.slice A ps.length c, .slice A2 qs.length c2], .int .i64 pc, .int .i64 pt, .string (str nm)] W (BoolR true W) := by
  have hb1 := below_lnew W (.cells #[.slice A ps.length c, .slice A2 qs.length c2] 35)
  have hc1 : CAt (W.alloc (.cells #[.slice A ps.length c, .slice A2 qs.length c2] 35)) W.heap.size _ [_, _] := heap_alloc_new W (.cells #[.slice A ps.length c, .slice A2 qs.length c2] 35)
  obtain ⟨w1, hw1⟩ : ∃ x, W.alloc (.cells #[.slice A ps.length c, .slice A2 qs.length c2] 35) = x := ⟨_, rfl⟩
  have hz1 : W.heap.size < w1.heap.size := by rw [← hw1]; simp
  rw [hw1] at hb1 hc1
  have t0 := hc1.cell (j := 0) (by simp)
  have t1 := hc1.cell (j := 1) (by simp)
  simp only [List.getElem_cons_zero, List.getElem_cons_succ] at t0 t1
  have HT1 := Lib.hid ((hT.l.below hb1).more hb1.size)
  have HU1 := Lib.hid ((hT.p.below hb1).more hb1.size)
  have HB1 := Lib.hid hb1
  have HV := Lib.hid (vast9_any A A2 c c2 ps qs w1 HT1.out HU1.out)
  clear hT hb1 hc1
  go_enter Tryz.func4, Tryz.ntmps4
  go_wp2_with fail
  clear hw1
  refine HV.out.mono ?_
  rintro e w2 ⟨b, rfl, hb2, hfew⟩
  have HF := Lib.hid hfew
  have HB2 := Lib.hid (HB1.out.trans (hb2.mono (by omega)))
  have t02 := (hb2.cell (p := ⟨W.heap.size, 0, none⟩) hz1).trans t0
  have t12 := (hb2.cell (p := ⟨W.heap.size, 1, none⟩) hz1).trans t1
  have HT2 := Lib.hid (HT1.out.next hb2)
  have HU2 := Lib.hid (HU1.out.next hb2)
  have hz2 : W.heap.size < w2.heap.size := Nat.lt_of_lt_of_le hz1 hb2.size
  clear hfew hb2 t0 t1 HV HT1 HU1
  cases b
  rotate_left
  · go_wp2_with fail
    refine (works9_any _).mono ?_
    rintro e w3 ⟨rfl, hb3⟩
    go_wp2_with fail
    go_ret
    exact ⟨rfl, HB2.out.trans (hb3.mono (by omega))⟩
  have HG := Lib.hid (HF.out rfl)
  clear HF
  by_cases hnm : (1000 : Int) < (str nm).size
  · go_wp2_with fail
    refine (works9_any _).mono ?_
    rintro e w3 ⟨rfl, hb3⟩
    go_wp2_with fail
    go_ret
    exact ⟨rfl, HB2.out.trans (hb3.mono (by omega))⟩
  go_wp2_with fail
  refine (twin9_any A c ps w2 HG.out.1 HG.out.2.2.1 HT2.out).mono ?_
  rintro e w3 ⟨v3, rfl, hm3, hb3⟩
  obtain ⟨A3, c3, ps3, rfl, he3, _, _, hl3⟩ := hm3.tl
  have HE3 := Lib.hid he3
  have HL3 := Lib.hid hl3
  have HB3 := Lib.hid (HB2.out.trans (hb3.mono (by omega)))
  have t03 := (hb3.cell (p := ⟨W.heap.size, 0, none⟩) hz2).trans t02
  have t13 := (hb3.cell (p := ⟨W.heap.size, 1, none⟩) hz2).trans t12
  have HT3 := Lib.hid (HT2.out.next hb3)
  have HU3 := Lib.hid (HU2.out.next hb3)
  have hz3 : W.heap.size < w3.heap.size := Nat.lt_of_lt_of_le hz2 hb3.size
  clear hm3 hb3 he3 hl3 t02 t12 HT2 HU2
  go_wp2_with fail
  refine (twinPoints_any A2 c2 qs w3 HG.out.2.1 HG.out.2.2.2 HU3.out).mono ?_
  rintro e w4 ⟨v4, rfl, hm4, hb4⟩
  obtain ⟨A4, c4, qs4, rfl, he4, _, _, hl4⟩ := hm4.ul
  have HE4 := Lib.hid he4
  have HL4 := Lib.hid (HL3.out.next hb4)
  have HM4 := Lib.hid hl4
  have HB4 := Lib.hid (HB3.out.trans (hb4.mono (by omega)))
  have t04 := (hb4.cell (p := ⟨W.heap.size, 0, none⟩) hz3).trans t03
  have t14 := (hb4.cell (p := ⟨W.heap.size, 1, none⟩) hz3).trans t13
  have HT4 := Lib.hid (HT3.out.next hb4)
  have HU4 := Lib.hid (HU3.out.next hb4)
  have hz4 : W.heap.size < w4.heap.size := Nat.lt_of_lt_of_le hz3 hb4.size
  have HFF := Lib.hid (fewT_like HE3.out he4 HG.out)
  clear hm4 hb4 he4 hl4 t03 t13 HT3 HU3 HL3
  have HIN := Lib.hid (in9_any A3 c3 ps3 pc w4 HFF.out.same.1 HL4.out.1)
  rw [HE3.out] at HIN
  obtain ⟨x1, hx1⟩ : ∃ x, inF pc 0 (ps.map Pp.d) = x := ⟨_, rfl⟩
  rw [hx1] at HIN
  have HX1 := Lib.hid hx1
  clear hx1
  go_wp2_with fail
  refine HIN.out.mono ?_
  rintro e w5 ⟨rfl, hb5⟩
  have HL5 := Lib.hid (HL4.out.next hb5)
  have HM5 := Lib.hid (HM4.out.next hb5)
  have HB5 := Lib.hid (HB4.out.trans (hb5.mono (by omega)))
  have t05 := (hb5.cell (p := ⟨W.heap.size, 0, none⟩) hz4).trans t04
  have t15 := (hb5.cell (p := ⟨W.heap.size, 1, none⟩) hz4).trans t14
  have HT5 := Lib.hid (HT4.out.next hb5)
  have HU5 := Lib.hid (HU4.out.next hb5)
  have hz5 : W.heap.size < w5.heap.size := Nat.lt_of_lt_of_le hz4 hb5.size
  clear hb5 t04 t14 HT4 HU4 HL4 HM4 HIN
  have HIN := Lib.hid (refIn9_any A c ps pc w5 HG.out.same.1 HT5.out.1)
  rw [HX1.out] at HIN
  go_wp2_with fail
  refine HIN.out.mono ?_
  rintro e w6 ⟨rfl, hb6⟩
  have HL6 := Lib.hid (HL5.out.next hb6)
  have HM6 := Lib.hid (HM5.out.next hb6)
  have HB6 := Lib.hid (HB5.out.trans (hb6.mono (by omega)))
  have t06 := (hb6.cell (p := ⟨W.heap.size, 0, none⟩) hz5).trans t05
  have t16 := (hb6.cell (p := ⟨W.heap.size, 1, none⟩) hz5).trans t15
  have HT6 := Lib.hid (HT5.out.next hb6)
  have HU6 := Lib.hid (HU5.out.next hb6)
  have hz6 : W.heap.size < w6.heap.size := Nat.lt_of_lt_of_le hz5 hb6.size
  clear hb6 t05 t15 HT5 HU5 HL5 HM5 HIN
  have HIN := Lib.hid (named9_any A3 A4 c3 c4 ps3 qs4 pt nm w6 HFF.out.samep.2 HL6.out HM6.out)
  rw [HE3.out, HE4.out] at HIN
  obtain ⟨x2, hx2⟩ : ∃ x, nmd (ps.map Pp.d) (qs.map Pq.d) pt nm = x := ⟨_, rfl⟩
  rw [hx2] at HIN
  have HX2 := Lib.hid hx2
  clear hx2
  go_wp2_with fail
  refine HIN.out.mono ?_
  rintro e w7 ⟨rfl, hb7⟩
  have HL7 := Lib.hid (HL6.out.next hb7)
  have HM7 := Lib.hid (HM6.out.next hb7)
  have HB7 := Lib.hid (HB6.out.trans (hb7.mono (by omega)))
  have t07 := (hb7.cell (p := ⟨W.heap.size, 0, none⟩) hz6).trans t06
  have t17 := (hb7.cell (p := ⟨W.heap.size, 1, none⟩) hz6).trans t16
  have HT7 := Lib.hid (HT6.out.next hb7)
  have HU7 := Lib.hid (HU6.out.next hb7)
  have hz7 : W.heap.size < w7.heap.size := Nat.lt_of_lt_of_le hz6 hb7.size
  clear hb7 t06 t16 HT6 HU6 HL6 HM6 HIN
  have HIN := Lib.hid (refNamed9_any A A2 c c2 ps qs pt nm w7 HG.out.samep.2 HT7.out HU7.out)
  rw [HX2.out] at HIN
  go_wp2_with fail
  refine HIN.out.mono ?_
  rintro e w8 ⟨rfl, hb8⟩
  have HL8 := Lib.hid (HL7.out.next hb8)
  have HM8 := Lib.hid (HM7.out.next hb8)
  have HB8 := Lib.hid (HB7.out.trans (hb8.mono (by omega)))
  have t08 := (hb8.cell (p := ⟨W.heap.size, 0, none⟩) hz7).trans t07
  have t18 := (hb8.cell (p := ⟨W.heap.size, 1, none⟩) hz7).trans t17
  have HT8 := Lib.hid (HT7.out.next hb8)
  have HU8 := Lib.hid (HU7.out.next hb8)
  have hz8 : W.heap.size < w8.heap.size := Nat.lt_of_lt_of_le hz7 hb8.size
  clear hb8 t07 t17 HT7 HU7 HL7 HM7 HIN
  go_wp2_with fail
  refine (same9_any A3 A c3 c ps3 ps w8 HE3.out HFF.out.same.1 HFF.out.same.2 HL8.out HT8.out).mono ?_
  rintro e w9 ⟨rfl, hb9⟩
  have HM9 := Lib.hid (HM8.out.next hb9)
  have HB9 := Lib.hid (HB8.out.trans (hb9.mono (by omega)))
  have t19 := (hb9.cell (p := ⟨W.heap.size, 1, none⟩) hz8).trans t18
  have HU9 := Lib.hid (HU8.out.next hb9)
  have hz9 : W.heap.size < w9.heap.size := Nat.lt_of_lt_of_le hz8 hb9.size
  clear hb9 t08 t18 HT8 HU8 HL8 HM8
  go_wp2_with fail
  refine (samePoints_any A4 A2 c4 c2 qs4 qs w9 HE4.out HFF.out.samep.1 HFF.out.samep.2 HM9.out HU9.out).mono ?_
  rintro e wA ⟨rfl, hbA⟩
  have HBA := Lib.hid (HB9.out.trans (hbA.mono (by omega)))
  have hzA : W.heap.size < wA.heap.size := Nat.lt_of_lt_of_le hz9 hbA.size
  clear hbA t19 HU9 HM9
  go_wp2_with fail
  refine (works9_any _).mono ?_
  rintro e wB ⟨rfl, hbB⟩
  have HBB := Lib.hid (HBA.out.trans (hbB.mono (by omega)))
  go_wp2_with fail
  go_ret
  exact ⟨rfl, HBB.out⟩
end Go.Proofs.YtjagjkogloggpaaGreat
