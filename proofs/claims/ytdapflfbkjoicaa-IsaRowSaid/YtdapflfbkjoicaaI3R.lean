/-
  The walk of IsaRow.
-/
import Derived.Test.YtdapflfbkjoicaaKI
import Derived.Test.YtdapflfbkjoicaaI3P
import Derived.Test.YtdapflfbkjoicaaI3W
import Derived.Deep.RegionHeld3
namespace Go.Proofs.Ytdapflfbkjoicaa
open Go.RowKit

def rights (xs : List Ins) : List Ins := xs.filter rightB
def catB (xs : List Ins) : List UInt8 := xs.flatMap ownB
theorem rights_take {xs : List Ins} {q : Nat} (h : q < xs.length) : rights (xs.take (q + 1)) = rights (xs.take q) ++ (if rightB xs[q] = true then [xs[q]] else []) := by
  rw [List.take_succ_eq_append_getElem h, rights, List.filter_append]
  congr 1
  by_cases hb : rightB xs[q] = true <;> simp [hb]
theorem catB_snoc (xs : List Ins) (x : Ins) : catB (xs ++ [x]) = catB xs ++ ownB x := by simp [catB]
theorem catB_len (xs : List Ins) : (catB xs).length ≤ 41 * xs.length := by
  induction xs with
  | nil => simp [catB]
  | cons x xs ih =>
    have := ownB_len x
    simp only [catB, List.flatMap_cons, List.length_append, List.length_cons] at *
    omega
theorem rights_len (xs : List Ins) : (rights xs).length ≤ xs.length := List.length_filter_le _ _
theorem rights_mem {xs : List Ins} {x : Ins} (h : x ∈ rights xs) : x ∈ xs ∧ rightB x = true := List.mem_filter.1 h
theorem cat_at {ys : List Ins} {q : Nat} (h : q < ys.length) : ownB ys[q] <+: (catB ys).drop (catB (ys.take q)).length := by
  have e : catB ys = catB (ys.take q) ++ (ownB ys[q] ++ catB (ys.drop (q + 1))) := by
    have : ys = ys.take q ++ (ys[q] :: ys.drop (q + 1)) := by rw [← List.drop_eq_getElem_cons h, List.take_append_drop]
    conv => lhs; rw [this]
    simp only [catB, List.flatMap_append, List.flatMap_cons]
  rw [e, List.drop_left]
  exact List.prefix_append _ _
theorem cat_take {ys : List Ins} {q : Nat} (h : q < ys.length) : catB (ys.take (q + 1)) = catB (ys.take q) ++ ownB ys[q] := by
  rw [List.take_succ_eq_append_getElem h, catB_snoc]
theorem cat_le (ys : List Ins) (q : Nat) : (catB (ys.take q)).length ≤ (catB ys).length := by
  have : catB ys = catB (ys.take q) ++ catB (ys.drop q) := by rw [catB, catB, catB, ← List.flatMap_append, List.take_append_drop]
  rw [this, List.length_append]
  omega
theorem IOwn.below {w w' : World} {B : Nat} {v : Value} {xs : List Ins} (h : IOwn w B v xs) (hb : Below w.heap.size w w') : IOwn w' B v xs :=
  World.ownsRow.kept h (row := none) (grown_below hb none) (by
    cases hq : v.ownBlock with
    | none => exact .inl rfl
    | some k => exact .inr (by simp))
theorem own_iown {w : World} {B B' : Nat} {b v : Value} {l : List UInt8} {ys : List Ins} (h1 : Own w B b l) (h2 : IOwn w B' v ys) : b.ownBlock = none ∨ b.ownBlock ≠ v.ownBlock := by
  rcases h2.2 with ⟨rfl, _⟩ | ⟨g, cap, cur, rfl, _, hh, _⟩
  · cases hq : b.ownBlock with
    | none => exact .inl rfl
    | some k => exact .inr (by simp [Value.ownBlock])
  · exact .inr (fun e => own_ne h1 hh (by decide) (by rw [e]; rfl))
theorem ins_neq (a : Ins) (w : World) : (binOp .neq 24 (.agg (ic a)) (.agg (ic a))).run Try.prog w = .ok (.bool false) w := by
  simp [binOp, go_sem, ins_equal]
/-- an instruction's cells from an address on -/
def Seven (w : World) (g o : Nat) (x : Ins) : Prop :=
  w.cell? ⟨g, o, none⟩ = some (.int .u8 x.k) ∧ w.cell? ⟨g, o + 1, none⟩ = some (.int .u8 x.o) ∧ w.cell? ⟨g, o + 2, none⟩ = some (.int .i64 x.r) ∧
      w.cell? ⟨g, o + 3, none⟩ = some (.int .i64 x.s) ∧ w.cell? ⟨g, o + 4, none⟩ = some (.int .i64 x.t) ∧ w.cell? ⟨g, o + 5, none⟩ = some (.int .i64 x.n) ∧ w.cell? ⟨g, o + 6, none⟩ = some (.int .i64 x.m)
theorem Seven.below {w w' : World} {g o B : Nat} {x : Ins} (h : Seven w g o x) (hb : Below B w w') (hB : g < B) : Seven w' g o x := by
  have h1 : ∀ j, w'.cell? ⟨g, j, none⟩ = w.cell? ⟨g, j, none⟩ := fun j => hb.cell (p := ⟨g, j, none⟩) hB
  unfold Seven at *
  simp only [h1]
  exact h
theorem ILies.seven {w : World} {B : Nat} {A : Option Addr} {xs : List Ins} (h : ILies w B A xs) {j : Nat} (hj : j < xs.length) : ∃ g o, A = some ⟨g, o, none⟩ ∧ g < B ∧ Seven w g (o + j * 7) xs[j] := h.at_ hj

/-- an instruction's cells in a block, and from an address on -/
def Both7 (W : World) (g gw o : Nat) (y : Ins) : Prop := (W.cell? ⟨g, 0, none⟩ = some (.int .u8 y.k) ∧ W.cell? ⟨g, 1, none⟩ = some (.int .u8 y.o) ∧ W.cell? ⟨g, 2, none⟩ = some (.int .i64 y.r) ∧ W.cell? ⟨g, 3, none⟩ = some (.int .i64 y.s) ∧ W.cell? ⟨g, 4, none⟩ = some (.int .i64 y.t) ∧ W.cell? ⟨g, 5, none⟩ = some (.int .i64 y.n) ∧ W.cell? ⟨g, 6, none⟩ = some (.int .i64 y.m)) ∧ (W.cell? ⟨gw, o, none⟩ = some (.int .u8 y.k) ∧ W.cell? ⟨gw, o + 1, none⟩ = some (.int .u8 y.o) ∧ W.cell? ⟨gw, o + 2, none⟩ = some (.int .i64 y.r) ∧ W.cell? ⟨gw, o + 3, none⟩ = some (.int .i64 y.s) ∧ W.cell? ⟨gw, o + 4, none⟩ = some (.int .i64 y.t) ∧ W.cell? ⟨gw, o + 5, none⟩ = some (.int .i64 y.n) ∧ W.cell? ⟨gw, o + 6, none⟩ = some (.int .i64 y.m))
theorem Both7.below {w w' : World} {g gw o B : Nat} {y : Ins} (h : Both7 w g gw o y) (hb : Below B w w') (h1 : g < B) (h2 : gw < B) : Both7 w' g gw o y := by
  have e1 : ∀ j, w'.cell? ⟨g, j, none⟩ = w.cell? ⟨g, j, none⟩ := fun j => hb.cell (p := ⟨g, j, none⟩) h1
  have e2 : ∀ j, w'.cell? ⟨gw, j, none⟩ = w.cell? ⟨gw, j, none⟩ := fun j => hb.cell (p := ⟨gw, j, none⟩) h2
  unfold Both7 at *
  simp only [e1, e2]
  exact h
theorem drawn {w w2 : World} (h : Below w.drew.heap.size w.drew w2) : Below w.heap.size w w2 := ⟨h.os, h.tape, h.output, h.size, h.block⟩
theorem Own.here {w : World} {B : Nat} {A : Option Addr} {n c : Nat} {l : List UInt8} (h : Own w B (.slice A n c) l) : n = l.length ∧ n ≤ c ∧ (A = none → c = 0) ∧ Lies w w.heap.size A l := by
  obtain ⟨A', c', e, h1, h2, h3⟩ := h.form
  cases e
  exact ⟨rfl, h1, h2, h3⟩
theorem IOwn.here {w : World} {B : Nat} {A : Option Addr} {n c : Nat} {ys : List Ins} (h : IOwn w B (.slice A n c) ys) : n = ys.length ∧ n ≤ c ∧ ILies w w.heap.size A ys := by
  obtain ⟨A', c', e, h1, h2⟩ := h.form
  cases e
  exact ⟨rfl, h1, h2⟩

set_option maxRecDepth 100000 in
set_option maxHeartbeats 4000000 in
theorem isaRow_any (A : Option Addr) (c : Nat) (xs : List Ins) (w : World) (hr : ∀ x ∈ xs, x.Rng) (h : ILies w w.heap.size A xs) :
    Calls Try.prog 6 #[.slice A xs.length c] w (Yes w) := by
  by_cases hbig : 100 < xs.length
  · go_enter Try.func6, Try.ntmps6
    go_wp2_with fail
    refine (works_any _).mono ?_
    rintro e w' ⟨rfl, hb⟩
    go_wp2
    go_ret
    exact ⟨rfl, hb⟩
  · have hbg : xs.length ≤ 100 := by omega
    clear hbig
    have HX := Lib.hid h
    have HR := Lib.hid hr
    clear h hr
    go_enter Try.func6, Try.ntmps6
    go_wp2_with fail
    go_loopw [3, 4, 5] (fun b v i wr => ∃ q : Nat, q ≤ xs.length ∧ i = .int .i64 q ∧ Hid (Own wr w.heap.size b (catB (rights (xs.take q)))) ∧ Hid (IOwn wr w.heap.size v (rights (xs.take q))) ∧ Hid (Below w.heap.size w wr)) (fun _ _ i _ => xs.length - (intOf i).toNat)
    case atStart => exact ⟨0, by omega, rfl, Own.nil _ _, IOwn.nil _ _, Below.refl _ _⟩
    case round =>
      obtain ⟨q, hq, rfl, ho, hi, hb⟩ := hrel
      have hz := hb.out.size
      by_cases hlt : q < xs.length
      · have hxr := HR.out xs[q] (List.getElem_mem hlt)
        obtain ⟨g, o, rfl, hg, hsv⟩ := (HX.out.below hb.out).seven hlt
        have hst := Lib.hid (rights_take hlt)
        obtain ⟨x, hx⟩ : ∃ x, x = xs[q] := ⟨_, rfl⟩
        rw [← hx] at hxr hst hsv
        clear hx
        have HXR := Lib.hid hxr
        have HSV := Lib.hid hsv
        have hR := fun w => right_any x w
        unfold RightR at hR
        rcases hright : rightB x with _ | _
        · rw [hright] at hR hst
          have HRT := Lib.hid hR
          clear hR hright hxr
          unfold iv ic at HRT
          obtain ⟨d0, d1, d2, d3, d4, d5, d6⟩ := hsv
          go_wp2_with fail
          refine (HRT.out _).mono ?_
          rintro e w2 ⟨rfl, hb2⟩
          have HO2 := Lib.hid (show Own w2 w.heap.size u3 (catB (rights (xs.take (q + 1)))) by rw [hst.out]; simpa using ho.out.below hb2)
          have HI2 := Lib.hid (show IOwn w2 w.heap.size u4 (rights (xs.take (q + 1))) by rw [hst.out]; simpa using hi.out.below hb2)
          have HB2 := Lib.hid (hb.out.trans (hb2.mono hz))
          clear hb2 ho hi hb
          go_wp2_with fail
          go_roundw
          case rel => exact ⟨q + 1, by omega, by go_num, HO2, HI2, HB2⟩
          case measure => simp [intOf]; omega
        · rw [hright] at hR hst
          have hR1 := Lib.hid hright
          have HRT := Lib.hid hR
          have hlen1 := rights_len (xs.take q)
          have hlen2 := catB_len (rights (xs.take q))
          simp only [List.length_take] at hlen1
          clear hR hright hxr
          unfold iv ic at HRT
          have hlq : (rights (xs.take q)).length ≤ 100 := by omega
          have hll : (catB (rights (xs.take q))).length ≤ 4100 := by omega
          clear hlen1 hlen2
          generalize rights (xs.take q) = ys at *
          obtain ⟨l, hl⟩ : ∃ l, l = catB ys := ⟨_, rfl⟩
          rw [← hl] at ho hll
          have HLQ := Lib.hid hl
          clear hl
          obtain ⟨Ab, cb, rfl, _, hAb, hLb⟩ := ho.out.form
          have HAB := Lib.hid hAb
          have HLB := Lib.hid hLb
          obtain ⟨d0, d1, d2, d3, d4, d5, d6⟩ := hsv
          clear hAb hLb
          go_wp2_with fail
          refine (HRT.out _).mono ?_
          rintro e w2 ⟨rfl, hb2⟩
          have hz2 := hb2.size
          have HS2 := Lib.hid (HSV.out.below (hb2.mono hz) hg)
          have HI2 := Lib.hid ((hi.out.below hb2).alloc (.cells (ic x) 24))
          have HO2 := Lib.hid ((ho.out.below hb2).alloc (.cells (ic x) 24))
          have HB2 := Lib.hid ((hb.out.trans (hb2.mono hz)).alloc (Nat.le_trans hz hz2) (.cells (ic x) 24))
          have HC2 := Lib.hid (HS2.out.below (below_box w2 (.cells (ic x) 24)) (by omega))
          have HN2 := Lib.hid (show InsAt (w2.alloc (.cells (ic x) 24)) w2.heap.size x from heap_alloc_new w2 _)
          have hsv2 := HS2.out
          obtain ⟨d0, d1, d2, d3, d4, d5, d6⟩ := hsv2
          unfold ic at HI2 HO2 HB2 HC2 HN2
          clear hb2 HS2
          go_wp2_with (at_builtin; refine app_ins _ rfl (.tmp 26) (.tmp 31) rfl w.heap.size u4 ys rfl HI2.out w2.heap.size 1 x rfl HN2.out (by omega) (by simp; omega) ?_; intro v3 w3 hi3 hg3; have HI3 := Lib.hid hi3; have HG3 := Lib.hid hg3; have hsv3 : Seven w3 g (o + q * 7) x := HC2.out.below (Below.grown (Below.refl w.heap.size _) hg3 (by simp; omega) (fun k hk => (HI2.out.lt k hk).1)) hg; obtain ⟨k0, k1, k2, k3, k4, k5, k6⟩ := hsv3; clear hi3 hg3)
          have hz3 := HG3.out.size
          have HB3 := Lib.hid (HB2.out.grown HG3.out (by simp; omega) (fun k hk => (HI2.out.lt k hk).1))
          have HO3 := Lib.hid (HO2.out.kept HG3.out (own_iown HO2.out HI2.out))
          have HL3 := Lib.hid HO3.out.here.2.2.2
          refine (isaPut_any Ab cb l x w3 HXR.out HAB.out HL3.out (by omega)).mono ?_
          rintro e w4 ⟨b4, rfl, ho4, hb4⟩
          have hz4 := HB3.out.size
          have HO4 := Lib.hid (show Own w4 w.heap.size b4 (catB (rights (xs.take (q + 1)))) by
            rw [hst.out, if_pos trivial, catB_snoc, ← HLQ.out]
            exact ho4.base hz4)
          have HI4 := Lib.hid (show IOwn w4 w.heap.size v3 (rights (xs.take (q + 1))) by
            rw [hst.out, if_pos trivial]
            exact HI3.out.below hb4)
          have HB4 := Lib.hid (HB3.out.trans (hb4.mono hz4))
          clear ho4 hb4 k0 k1 k2 k3 k4 k5 k6 d0 d1 d2 d3 d4 d5 d6 ho hi hb
          go_wp2_with fail
          go_roundw
          case rel => exact ⟨q + 1, by omega, by go_num, HO4, HI4, HB4⟩
          case measure => simp [intOf]; omega
      · obtain rfl : q = xs.length := by omega
        rw [List.take_length] at ho hi
        have hl1 := rights_len xs
        have hl2 := catB_len (rights xs)
        have hmem : Hid (∀ y ∈ rights xs, y.Rng ∧ rightB y = true) := fun y hy => ⟨HR.out y (rights_mem hy).1, (rights_mem hy).2⟩
        have hly : (rights xs).length ≤ 100 := by omega
        have hll : (catB (rights xs)).length ≤ 4100 := by omega
        clear hl1 hl2 HX HR
        generalize rights xs = ys at *
        obtain ⟨l, hl⟩ : ∃ l, l = catB ys := ⟨_, rfl⟩
        rw [← hl] at ho hll
        have HLQ := Lib.hid hl
        clear hl
        obtain ⟨Ab, cb, rfl, hcb, hAb, hLb⟩ := ho.out.form
        obtain ⟨Aw, cw, rfl, hcw, hLw⟩ := hi.out.form
        have HLB := Lib.hid hLb
        have HLW := Lib.hid hLw
        have hat0 : Hid ((catB (ys.take 0)).length = 0) := rfl
        have hb0 := hb.out
        generalize hwb : wr = wb at *
        clear hAb hLb hLw hwb
        go_wp2_with fail
        go_loopw [6, 7] (fun a k wr => ∃ p : Nat, p ≤ ys.length ∧ k = .int .i64 p ∧ a = .int .i64 ((catB (ys.take p)).length : Nat) ∧ Hid (Below wb.heap.size wb wr)) (fun _ k _ => ys.length - (intOf k).toNat)
        case atStart => exact ⟨0, by omega, rfl, rfl, Below.refl _ _⟩
        case round =>
          obtain ⟨p, hp, rfl, rfl, hw⟩ := hrel
          have hzb := hb0.size
          have hzw := hw.out.size
          have hap := cat_le ys p
          rw [← HLQ.out] at hap
          by_cases hlt : p < ys.length
          · have hm := hmem.out ys[p] (List.getElem_mem hlt)
            have hpre := cat_at hlt
            have hnx := cat_take hlt
            rw [← HLQ.out] at hpre
            obtain ⟨gw, ow, rfl, hgw, hsv⟩ := (HLW.out.below hw.out).seven hlt
            obtain ⟨y, hy⟩ : ∃ y, y = ys[p] := ⟨_, rfl⟩
            rw [← hy] at hm hpre hnx hsv
            clear hy
            have hG := isaGet_any Ab cb l ((catB (ys.take p)).length : Nat) wr hcb (by omega) ((HLB.out.below hw.out).more hzw)
            unfold GetR at hG
            obtain ⟨g1, g2, g3⟩ := get_put hm.1 hm.2 hpre hap
            rw [g1, g2, g3] at hG
            have hS := fun W => isaSize_any y W hm.1
            have hlen := own_len hm.2
            have hapn := pre_len hpre hap
            have HN := Lib.hid (show (catB (ys.take (p + 1))).length = (catB (ys.take p)).length + (ownB y).length by rw [hnx, List.length_append])
            have hneq := ins_neq y
            clear g1 g2 g3 hpre hnx hm
            generalize (ownB y).length = sz at *
            generalize (catB (ys.take p)).length = at0 at *
            rw [Int.natCast_add] at hG
            have HG := Lib.hid hG
            have HS := Lib.hid hS
            clear hG hS
            unfold iv ic at HG HS
            unfold ic at hneq
            have HSV := Lib.hid hsv
            clear hsv
            go_wp2_with fail
            refine HG.out.mono ?_
            rintro e w2 ⟨rfl, hb2⟩
            have hz2 := hb2.size
            have hgw2 : gw < w2.heap.size := by omega
            have hB7 : Both7 (w2.alloc (.cells (ic y) 24)) w2.heap.size gw (ow + p * 7) y :=
              ⟨(ins_cells (show InsAt (w2.alloc (.cells (ic y) 24)) w2.heap.size y from heap_alloc_new _ _)).1, (HSV.out.below (hb2.mono hzw) hgw).below (below_box _ _) hgw2⟩
            unfold ic Both7 at hB7
            obtain ⟨⟨d0, d1, d2, d3, d4, d5, d6⟩, k0, k1, k2, k3, k4, k5, k6⟩ := hB7
            have HW2 := Lib.hid (hw.out.trans ((hb2.trans ((below_box w2 (.cells (ic y) 24)).mono hz2)).mono hzw))
            unfold ic at HW2
            have w1 : IntKind.i64.wrap ((at0 : Int) + (sz : Int)) = (at0 : Int) + (sz : Int) := by rw [IntKind.wrap_i64]; omega
            have w2' : (((at0 : Int) + (sz : Int)) != ((at0 : Int) + (sz : Int))) = false := by simp
            have i0 : (0 : Int) ≤ (p : Int) := by omega
            have i1 : (p : Int) < (ys.length : Int) := by omega
            clear hb2
            go_wp2_with fail
            go_region_held3 (fun W => (W.cell? ⟨w2.heap.size, 0, none⟩ = some (.int .u8 y.k) ∧ W.cell? ⟨w2.heap.size, 1, none⟩ = some (.int .u8 y.o) ∧ W.cell? ⟨w2.heap.size, 2, none⟩ = some (.int .i64 y.r) ∧ W.cell? ⟨w2.heap.size, 3, none⟩ = some (.int .i64 y.s) ∧ W.cell? ⟨w2.heap.size, 4, none⟩ = some (.int .i64 y.t) ∧ W.cell? ⟨w2.heap.size, 5, none⟩ = some (.int .i64 y.n) ∧ W.cell? ⟨w2.heap.size, 6, none⟩ = some (.int .i64 y.m)) ∧ (W.cell? ⟨gw, ow + p * 7, none⟩ = some (.int .u8 y.k) ∧ W.cell? ⟨gw, ow + p * 7 + 1, none⟩ = some (.int .u8 y.o) ∧ W.cell? ⟨gw, ow + p * 7 + 2, none⟩ = some (.int .i64 y.r) ∧ W.cell? ⟨gw, ow + p * 7 + 3, none⟩ = some (.int .i64 y.s) ∧ W.cell? ⟨gw, ow + p * 7 + 4, none⟩ = some (.int .i64 y.t) ∧ W.cell? ⟨gw, ow + p * 7 + 5, none⟩ = some (.int .i64 y.n) ∧ W.cell? ⟨gw, ow + p * 7 + 6, none⟩ = some (.int .i64 y.m))) (first | go_keep | (exact Both7.below (show Both7 _ w2.heap.size gw (ow + p * 7) y from by assumption) hb4 (by simp) (by simp; omega))) (first
              | (go_at_call 13; refine (HS.out _).mono ?_; rintro e w4 ⟨rfl, hb4⟩))
            have HB4 := Lib.hid (HW2.out.trans (Below.mono (by first | exact drawn hb4 | exact hb4) (by simp; omega)))
            clear hb4 w1 w2' i0 i1 d0 d1 d2 d3 d4 d5 d6 k0 k1 k2 k3 k4 k5 k6 HW2 HG HS hneq
            go_wp2_with fail
            go_roundw
            case rel => exact ⟨p + 1, by omega, by go_num, by rw [HN.out, Int.natCast_add], HB4⟩
            case measure => simp [intOf]; omega
          · obtain rfl : p = ys.length := by omega
            have he : (catB (ys.take ys.length)).length = l.length := by rw [List.take_length, HLQ.out]
            rw [he]
            have hbe : ((l.length : Int) == (l.length : Int)) = true := by simp
            have HB4 := Lib.hid (hb0.trans (hw.out.mono hzb))
            clear he hap
            go_wp2_with fail
            refine (works_any _).mono ?_
            rintro e w9 ⟨rfl, hb9⟩
            have HB9 := Lib.hid (HB4.out.trans (hb9.mono HB4.out.size))
            clear hb9
            go_wp2_with fail
            go_ret
            exact ⟨rfl, HB9.out⟩

end Go.Proofs.Ytdapflfbkjoicaa
