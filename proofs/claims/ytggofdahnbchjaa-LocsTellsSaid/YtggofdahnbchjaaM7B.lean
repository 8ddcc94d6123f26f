/-
  The document's At and Cut.
-/
import Derived.Test.YtggofdahnbchjaaL7U
namespace Go.Proofs.Ytggofdahnbchjaa
open Go Go.RowKit

theorem atS_hit {ps : List Ps} {pc : Int} {k : Nat} (hk : k < ps.length) (h : ∀ p ∈ ps.take k, hasS pc p.sp = false) (hq : hasS pc ps[k].sp = true) : atS (ps.map Ps.sp) pc = ps[k].a := by
  have e : ps = ps.take k ++ ps[k] :: ps.drop (k + 1) := by rw [List.getElem_cons_drop, List.take_append_drop]
  have e2 : ps.map Ps.sp = (ps.take k).map Ps.sp ++ ps[k].sp :: (ps.drop (k + 1)).map Ps.sp := by
    rw [← List.map_cons, ← List.map_append, ← e]
  unfold atS
  rw [e2, List.find?_append, List.find?_eq_none.2 (fun x hx => by
    obtain ⟨p, hp, rfl⟩ := List.mem_map.1 hx
    rw [h p hp]
    decide), Option.none_or, List.find?_cons_of_pos hq]
  rfl
theorem atS_miss {ps : List Ps} {pc : Int} (h : ∀ p ∈ ps, hasS pc p.sp = false) : atS (ps.map Ps.sp) pc = [] := by
  unfold atS
  rw [List.find?_eq_none.2 (fun x hx => by
    obtain ⟨p, hp, rfl⟩ := List.mem_map.1 hx
    rw [h p hp]
    decide)]
  rfl
theorem take_mem {α : Type} {P : α → Prop} {l : List α} {k : Nat} (hk : k < l.length) (h : ∀ x ∈ l.take k, P x) (hx : P l[k]) : ∀ x ∈ l.take (k + 1), P x := fun x hm => by
  rw [← List.take_append_getElem hk] at hm
  rcases List.mem_append.1 hm with hm | hm
  · exact h x hm
  · rw [List.mem_singleton] at hm
    rw [hm]
    exact hx

set_option maxRecDepth 100000 in
set_option maxHeartbeats 2000000 in
theorem refAt7_any (A : Option Addr) (c : Nat) (ps : List Ps) (pc : Int) (w : World) (hs : Sm ps) (h : SLies w w.heap.size A ps) :
    Calls Try.prog 26 #[.slice A ps.length c, .int .i64 pc] w (MadeLocs w (atS (ps.map Ps.sp) pc)) := by
  have HSM := Lib.hid hs
  have hls := hs.1
  clear hs
  go_enter Try.func26, Try.ntmps26
  go_wp2
  go_loopw [5] (fun i wr => ∃ k : Nat, k ≤ ps.length ∧ i = .int .i64 k ∧ Hid (∀ p ∈ ps.take k, hasS pc p.sp = false) ∧ Hid (Below w.heap.size w wr)) (fun i _ => ps.length - (intOf i).toNat)
  case atStart => exact ⟨0, by omega, rfl, fun p hp => absurd hp (by simp), Below.refl _ _⟩
  case round =>
    obtain ⟨k, hk, rfl, hN, hB⟩ := hrel
    by_cases hlt : k < ps.length
    · obtain ⟨g, o, rfl, hg, c1, c2', c3⟩ := (h.1.below hB.out).at_ hlt
      have hm1 := (h.2 _ (List.getElem_mem hlt)).below hB.out
      have hal := HSM.out.2 _ (List.getElem_mem hlt)
      have hwr := hB.out.size
      have HH := Lib.hid (atS_hit hlt hN.out)
      have HT := Lib.hid (take_mem (P := fun p : Ps => hasS pc p.sp = false) hlt hN.out)
      generalize ps[k] = p at *
      obtain ⟨pf, pt, pa, pA, pcc⟩ := p
      have HTW := Lib.hid (twin6_any pA pcc pa wr hm1.2.1 hal (hm1.2.2.more hwr))
      unfold MadeLocs at HTW
      dsimp only [Ps.sp] at c1 c2' c3 HH HT
      clear hm1 hal
      by_cases hf : pf ≤ pc
      · by_cases ht : pc < pt
        · have HR := Lib.hid (HH.out (by unfold hasS; dsimp only; rw [decide_eq_true hf, decide_eq_true ht]; rfl))
          clear HH HT
          go_wp2_with fail
          refine HTW.out.mono ?_
          rintro e w1 ⟨v, rfl, ho, hb⟩
          have HO := Lib.hid ho
          have HB1 := Lib.hid (hB.out.trans (hb.mono hwr))
          clear ho hb
          go_wp2_with fail
          go_ret
          exact ⟨_, rfl, by rw [HR.out]; exact HO.out.base hwr, HB1.out⟩
        · have HT2 := Lib.hid (HT.out (by unfold hasS; dsimp only; rw [decide_eq_false ht, Bool.and_false]))
          clear HH HT HTW
          go_wp2
          go_roundw
          case rel => exact ⟨k + 1, by omega, by go_num, HT2, hB⟩
          case measure => simp [intOf]; omega
      · have HT2 := Lib.hid (HT.out (by unfold hasS; dsimp only; rw [decide_eq_false hf, Bool.false_and]))
        clear HH HT HTW
        go_wp2
        go_roundw
        case rel => exact ⟨k + 1, by omega, by go_num, HT2, hB⟩
        case measure => simp [intOf]; omega
    · obtain rfl : k = ps.length := by omega
      have hN2 := hN.out
      rw [List.take_length] at hN2
      have HR := Lib.hid (atS_miss hN2)
      clear hN2
      go_wp2
      go_ret
      exact ⟨_, rfl, by rw [HR.out]; exact LOwn.nil _ _, hB.out⟩

theorem cutP_4 {fr to : Int} {p : Ps} {a b : List Ps} (h1 : (p.f < p.t ∧ p.f < fr → a = [lowP fr p]) ∧ (¬ (p.f < p.t ∧ p.f < fr) → a = [])) (h2 : (p.f < p.t ∧ to < p.t → b = [highP to p]) ∧ (¬ (p.f < p.t ∧ to < p.t) → b = [])) : cutP fr to p = a ++ b := by
  unfold cutP
  by_cases hx : p.f < p.t ∧ p.f < fr
  · rw [h1.1 hx, if_pos (by omega)]
    by_cases hy : p.f < p.t ∧ to < p.t
    · rw [h2.1 hy, if_pos (by omega)]
    · rw [h2.2 hy, if_neg (by omega)]
  · rw [h1.2 hx, if_neg (by omega)]
    by_cases hy : p.f < p.t ∧ to < p.t
    · rw [h2.1 hy, if_pos (by omega)]
    · rw [h2.2 hy, if_neg (by omega)]
theorem pieces_mn {w : World} {B : Nat} {fr to : Int} {ps : List Ps} (h : ∀ p ∈ ps, Mn w B p) : ∀ q ∈ pieces fr to ps, Mn w B q := fun q hq => by
  obtain ⟨p, hp, e⟩ := pieces_mem hq
  exact mn_of (h p hp) e
theorem pieces_sm {fr to : Int} {ps : List Ps} (h : ∀ p ∈ ps, p.a.length ≤ 1099511627776) : ∀ q ∈ pieces fr to ps, q.a.length ≤ 1099511627776 := fun q hq => by
  obtain ⟨p, hp, e⟩ := pieces_mem hq
  rw [e.1]
  exact h p hp

set_option maxRecDepth 100000 in
set_option maxHeartbeats 4000000 in
theorem refCut7_any (A : Option Addr) (c : Nat) (ps : List Ps) (fr to : Int) (w : World) (hs : Sm ps) (hl : ps.length ≤ 100000) (h : SLies w w.heap.size A ps) :
    Calls Try.prog 27 #[.slice A ps.length c, .int .i64 fr, .int .i64 to] w (MadeSpans w (cutL fr to (ps.map Ps.sp))) := by
  by_cases hft : to ≤ fr
  · have HE := Lib.hid (show cutL fr to (ps.map Ps.sp) = ps.map Ps.sp from if_pos hft)
    have HT := Lib.hid (twin7_any A c ps w hs (by omega) h)
    unfold MadeSpans at HT
    go_enter Try.func27, Try.ntmps27
    go_wp2_with fail
    refine HT.out.mono ?_
    rintro e w1 ⟨v, rfl, ho, hb⟩
    go_wp2_with fail
    go_ret
    exact ⟨_, rfl, by rw [HE.out]; exact ho, hb⟩
  · have HE := Lib.hid (show cutL fr to (ps.map Ps.sp) = (ps.map Ps.sp).flatMap (cutS fr to) from if_neg hft)
    have HSM := Lib.hid hs
    have HW := Lib.hid h
    clear h hs
    go_enter Try.func27, Try.ntmps27
    go_wp2
    go_loopw [7, 8] (fun v i wr => ∃ k : Nat, k ≤ ps.length ∧ i = .int .i64 k ∧ Hid (POwn wr w.heap.size v (pieces fr to (ps.take k))) ∧ Hid (Below w.heap.size w wr)) (fun _ i _ => ps.length - (intOf i).toNat)
    case atStart => exact ⟨0, by omega, rfl, POwn.nil _ _, Below.refl _ _⟩
    case round =>
      obtain ⟨k, hk, rfl, hO, hB⟩ := hrel
      have hwr := hB.out.size
      by_cases hlt : k < ps.length
      · obtain ⟨g, o, rfl, hg, c1, c2', c3⟩ := (HW.out.1.below hB.out).at_ hlt
        have HSU := Lib.hid (pieces_succ (fr := fr) (to := to) hlt)
        have hpl : (pieces fr to (ps.take k)).length ≤ 200000 := by
          have := pieces_len fr to (ps.take k)
          rw [List.length_take] at this
          omega
        have hX := spAt_new wr ps[k]
        have hb1 := below_lnew wr (.cells (pK ps[k]) 46)
        have HO1 := Lib.hid (hO.out.below hb1)
        have HB1 := Lib.hid (hB.out.trans (hb1.mono hwr))
        have hz1 : (wr.alloc (.cells (pK ps[k]) 46)).heap.size = wr.heap.size + 1 := by simp
        have y0 := hX.fr
        have y1 := hX.to
        have y2 := hX.at_
        have HX := Lib.hid hX
        have HOlt := Lib.hid (fun k e => (hO.out.lt k e).2)
        generalize pieces fr to (ps.take k) = L at *
        clear hX hb1 hO
        generalize ps[k] = p at *
        obtain ⟨pf, pt, pa, pA, pcc⟩ := p
        have HC4 := Lib.hid (fun a b => cutP_4 (fr := fr) (to := to) (p := ⟨pf, pt, pa, pA, pcc⟩) (a := a) (b := b))
        simp only [pK] at HO1 HB1 hz1 y0 y1 y2 HX
        dsimp only [lowP, highP] at c1 c2' c3 HC4
        by_cases ha : pf < pt
        · by_cases hb : pf < fr
          · by_cases hc : to < pt
            · have HQ := Lib.hid (HC4.out [⟨pf, min pt fr, pa, pA, pcc⟩] [⟨max pf to, pt, pa, pA, pcc⟩] ⟨fun _ => rfl, fun q => absurd (by omega) q⟩ ⟨fun _ => rfl, fun q => absurd (by omega) q⟩)
              have hxl := spAt_new (wr.alloc (.cells #[.int .i64 pf, .int .i64 pt, .slice pA pa.length pcc] 46)) ⟨pf, min pt fr, pa, pA, pcc⟩
              have hol := HO1.out.below (below_lnew (wr.alloc (.cells #[.int .i64 pf, .int .i64 pt, .slice pA pa.length pcc] 46)) (.cells (pK ⟨pf, min pt fr, pa, pA, pcc⟩) 46))
              have hbl := HB1.out.trans ((below_lnew (wr.alloc (.cells #[.int .i64 pf, .int .i64 pt, .slice pA pa.length pcc] 46)) (.cells (pK ⟨pf, min pt fr, pa, pA, pcc⟩) 46)).mono HB1.out.size)
              have HXl := Lib.hid hxl
              have HOl := Lib.hid hol
              have HBl := Lib.hid hbl
              have hzl := hbl.size
              have HUl := Lib.hid (HX.out.below (below_lnew (wr.alloc (.cells #[.int .i64 pf, .int .i64 pt, .slice pA pa.length pcc] 46)) (.cells (pK ⟨pf, min pt fr, pa, pA, pcc⟩) 46)) HX.out.lt)
              simp only [pK] at HXl HOl HBl hzl HUl
              (try simp only [World.size_alloc] at HXl)
              clear hxl hol hbl
              go_wp2_with (at_builtin
                           first
                             | (refine app_span _ rfl (.tmp 36) (.tmp 46) rfl w.heap.size _ L rfl HOl.out (wr.heap.size + 1) 1 ⟨pf, min pt fr, pa, pA, pcc⟩ rfl HXl.out (by omega) HBl.out.size ?_; intro vl wl hrl hgl; have HRl := Lib.hid hrl; have HBL := Lib.hid (HBl.out.grown hgl HBl.out.size (fun k e => (HOl.out.lt k e).1)); have hUl : SpAt wl wr.heap.size ⟨pf, pt, pa, pA, pcc⟩ := (hgl.block _ HUl.out.lt (fun e => by have h9 := HOlt.out _ e.symm; omega)).trans HUl.out; have y0l := hUl.fr; have y1l := hUl.to; have y2l := hUl.at_; dsimp only at y0l y1l y2l; have hxh := spAt_new wl ⟨max pf to, pt, pa, pA, pcc⟩; have hoh := HRl.out.below (below_lnew wl (.cells (pK ⟨max pf to, pt, pa, pA, pcc⟩) 46)); have hbh := HBL.out.trans ((below_lnew wl (.cells (pK ⟨max pf to, pt, pa, pA, pcc⟩) 46)).mono HBL.out.size); have HXh := Lib.hid hxh; have HOh := Lib.hid hoh; have HBh := Lib.hid hbh; have hzh := hbh.size; skip; simp only [pK] at HXh HOh HBh hzh; (try simp only [World.size_alloc] at HXh); clear hxh hoh hbh; clear hgl hrl hUl)
                             | (refine app_span _ rfl (.tmp 59) (.tmp 69) rfl w.heap.size _ (L ++ [(⟨pf, min pt fr, pa, pA, pcc⟩ : Ps)]) rfl HOh.out wl.heap.size 1 ⟨max pf to, pt, pa, pA, pcc⟩ rfl HXh.out (by (try rw [List.length_append]); (try simp only [List.length_cons, List.length_nil]); omega) HBh.out.size ?_; intro vh wh hrh hgh; have HRh := Lib.hid hrh; have HBH := Lib.hid (HBh.out.grown hgh HBh.out.size (fun k e => (HOh.out.lt k e).1)); clear hgh hrh))
              go_roundw
              case rel => exact ⟨k + 1, by omega, by go_num, by rw [HSU.out, HQ.out]; exact Lib.hid (by simpa only [List.append_assoc, List.append_nil, List.nil_append] using HRh.out), HBH⟩
              case measure => simp [intOf]; omega
            · have HQ := Lib.hid (HC4.out [⟨pf, min pt fr, pa, pA, pcc⟩] [] ⟨fun _ => rfl, fun q => absurd (by omega) q⟩ ⟨fun q => absurd q (by omega), fun _ => rfl⟩)
              have hxl := spAt_new (wr.alloc (.cells #[.int .i64 pf, .int .i64 pt, .slice pA pa.length pcc] 46)) ⟨pf, min pt fr, pa, pA, pcc⟩
              have hol := HO1.out.below (below_lnew (wr.alloc (.cells #[.int .i64 pf, .int .i64 pt, .slice pA pa.length pcc] 46)) (.cells (pK ⟨pf, min pt fr, pa, pA, pcc⟩) 46))
              have hbl := HB1.out.trans ((below_lnew (wr.alloc (.cells #[.int .i64 pf, .int .i64 pt, .slice pA pa.length pcc] 46)) (.cells (pK ⟨pf, min pt fr, pa, pA, pcc⟩) 46)).mono HB1.out.size)
              have HXl := Lib.hid hxl
              have HOl := Lib.hid hol
              have HBl := Lib.hid hbl
              have hzl := hbl.size
              have HUl := Lib.hid (HX.out.below (below_lnew (wr.alloc (.cells #[.int .i64 pf, .int .i64 pt, .slice pA pa.length pcc] 46)) (.cells (pK ⟨pf, min pt fr, pa, pA, pcc⟩) 46)) HX.out.lt)
              simp only [pK] at HXl HOl HBl hzl HUl
              (try simp only [World.size_alloc] at HXl)
              clear hxl hol hbl
              go_wp2_with (at_builtin
                           first
                             | (refine app_span _ rfl (.tmp 36) (.tmp 46) rfl w.heap.size _ L rfl HOl.out (wr.heap.size + 1) 1 ⟨pf, min pt fr, pa, pA, pcc⟩ rfl HXl.out (by omega) HBl.out.size ?_; intro vl wl hrl hgl; have HRl := Lib.hid hrl; have HBL := Lib.hid (HBl.out.grown hgl HBl.out.size (fun k e => (HOl.out.lt k e).1)); have hUl : SpAt wl wr.heap.size ⟨pf, pt, pa, pA, pcc⟩ := (hgl.block _ HUl.out.lt (fun e => by have h9 := HOlt.out _ e.symm; omega)).trans HUl.out; have y0l := hUl.fr; have y1l := hUl.to; have y2l := hUl.at_; dsimp only at y0l y1l y2l; clear hgl hrl hUl))
              go_roundw
              case rel => exact ⟨k + 1, by omega, by go_num, by rw [HSU.out, HQ.out]; exact Lib.hid (by simpa only [List.append_assoc, List.append_nil, List.nil_append] using HRl.out), HBL⟩
              case measure => simp [intOf]; omega
          · by_cases hc : to < pt
            · have HQ := Lib.hid (HC4.out [] [⟨max pf to, pt, pa, pA, pcc⟩] ⟨fun q => absurd q (by omega), fun _ => rfl⟩ ⟨fun _ => rfl, fun q => absurd (by omega) q⟩)
              have hxh := spAt_new (wr.alloc (.cells #[.int .i64 pf, .int .i64 pt, .slice pA pa.length pcc] 46)) ⟨max pf to, pt, pa, pA, pcc⟩
              have hoh := HO1.out.below (below_lnew (wr.alloc (.cells #[.int .i64 pf, .int .i64 pt, .slice pA pa.length pcc] 46)) (.cells (pK ⟨max pf to, pt, pa, pA, pcc⟩) 46))
              have hbh := HB1.out.trans ((below_lnew (wr.alloc (.cells #[.int .i64 pf, .int .i64 pt, .slice pA pa.length pcc] 46)) (.cells (pK ⟨max pf to, pt, pa, pA, pcc⟩) 46)).mono HB1.out.size)
              have HXh := Lib.hid hxh
              have HOh := Lib.hid hoh
              have HBh := Lib.hid hbh
              have hzh := hbh.size
              skip
              simp only [pK] at HXh HOh HBh hzh
              (try simp only [World.size_alloc] at HXh)
              clear hxh hoh hbh
              go_wp2_with (at_builtin
                           first
                             | (refine app_span _ rfl (.tmp 59) (.tmp 69) rfl w.heap.size _ L rfl HOh.out (wr.heap.size + 1) 1 ⟨max pf to, pt, pa, pA, pcc⟩ rfl HXh.out (by (try rw [List.length_append]); (try simp only [List.length_cons, List.length_nil]); omega) HBh.out.size ?_; intro vh wh hrh hgh; have HRh := Lib.hid hrh; have HBH := Lib.hid (HBh.out.grown hgh HBh.out.size (fun k e => (HOh.out.lt k e).1)); clear hgh hrh))
              go_roundw
              case rel => exact ⟨k + 1, by omega, by go_num, by rw [HSU.out, HQ.out]; exact Lib.hid (by simpa only [List.append_assoc, List.append_nil, List.nil_append] using HRh.out), HBH⟩
              case measure => simp [intOf]; omega
            · have HQ := Lib.hid (HC4.out [] [] ⟨fun q => absurd q (by omega), fun _ => rfl⟩ ⟨fun q => absurd q (by omega), fun _ => rfl⟩)
              go_wp2
              go_roundw
              case rel => exact ⟨k + 1, by omega, by go_num, by rw [HSU.out, HQ.out]; exact Lib.hid (by simpa only [List.append_assoc, List.append_nil, List.nil_append] using HO1.out), HB1⟩
              case measure => simp [intOf]; omega
        · have HQ := Lib.hid (HC4.out [] [] ⟨fun q => absurd q (by omega), fun _ => rfl⟩ ⟨fun q => absurd q (by omega), fun _ => rfl⟩)
          go_wp2
          go_roundw
          case rel => exact ⟨k + 1, by omega, by go_num, by rw [HSU.out, HQ.out]; exact Lib.hid (by simpa only [List.append_assoc, List.append_nil, List.nil_append] using HO1.out), HB1⟩
          case measure => simp [intOf]; omega
      · obtain rfl : k = ps.length := by omega
        have hO2 := hO.out
        rw [List.take_length] at hO2
        obtain ⟨A5, c5, e5, _, _, hP5⟩ := hO2.form
        subst e5
        have hpl := pieces_len fr to ps
        have HT := Lib.hid (twin7_any A5 c5 (pieces fr to ps) wr ⟨by omega, pieces_sm HSM.out.2⟩ (by omega) ⟨hP5, pieces_mn (fun p hp => ((HW.out.2 p hp).below hB.out).more hwr)⟩)
        unfold MadeSpans at HT
        rw [pieces_sp, ← HE.out] at HT
        clear hO2 hP5 hO
        generalize pieces fr to ps = L at *
        go_wp2_with fail
        refine HT.out.mono ?_
        rintro e w1 ⟨v, rfl, ho, hb⟩
        obtain ⟨ps1, e1, ho1, hm1⟩ := ho
        go_wp2_with fail
        go_ret
        exact ⟨_, rfl, ⟨ps1, e1, ho1.base hwr, fun p hp => (hm1 p hp).base hwr⟩, hB.out.trans (hb.mono hwr)⟩
end Go.Proofs.Ytggofdahnbchjaa
