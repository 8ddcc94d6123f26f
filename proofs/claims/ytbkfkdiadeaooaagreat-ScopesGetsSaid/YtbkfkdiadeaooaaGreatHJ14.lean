/-
  Merged for a claim: S9L, S9M.
-/
import Derived.Test.YtbkfkdiadeaooaaGreatHS9K
import Derived.Test.YtbkfkdiadeaooaaGreatHJ9
namespace Go.Proofs.YtbkfkdiadeaooaaGreat
open Go Go.RowKit

/-- a table that is put may be put -/
def TabP (ps : List Pp) (qs : List Pq) : Prop := SmT ps qs ∧ ∀ p ∈ ps, ∀ r ∈ p.ss, ∀ q ∈ r.l, ∀ x ∈ q.a, x.Rng
theorem name_len {s : List UInt8} (h : nameB s = true) : 1 ≤ s.length ∧ s.length ≤ 24 := by
  unfold nameB at h
  rw [Bool.and_eq_true] at h
  exact of_decide_eq_true h.1
theorem fld_len {fs : List (List UInt8)} (h : fldB fs = true) : fs.length ≤ 8 ∧ ∀ s ∈ fs, s.length ≤ 255 := by
  unfold fldB at h
  rw [Bool.and_eq_true] at h
  refine ⟨(of_decide_eq_true h.1).2, fun s hs => ?_⟩
  have := name_len (List.all_eq_true.1 h.2 s hs)
  omega
theorem varP_of {v : Vr} (h : varB v = true) : VarP v := by
  unfold varB at h
  rw [Bool.and_eq_true, Bool.and_eq_true] at h
  obtain ⟨h1, _, h3⟩ := h
  have a := name_len h1
  unfold kindB at h3
  split at h3
  · rename_i hk
    rw [Bool.and_eq_true] at h3
    unfold plainB at h3
    rw [Bool.and_eq_true] at h3
    have t := of_decide_eq_true h3.1.1
    have f := of_decide_eq_true h3.1.2
    exact ⟨by omega, by rw [t]; simp, by omega, fun e => by omega, by omega, fun s hs => by rw [List.eq_nil_of_length_eq_zero f] at hs; cases hs⟩
  · split at h3
    · rename_i hk
      rw [Bool.and_eq_true] at h3
      unfold plainB at h3
      rw [Bool.and_eq_true] at h3
      have t := of_decide_eq_true h3.1.1
      have f := of_decide_eq_true h3.1.2
      have n := of_decide_eq_true h3.2
      exact ⟨by omega, by rw [t]; simp, by omega, fun e => by omega, by omega, fun s hs => by rw [List.eq_nil_of_length_eq_zero f] at hs; cases hs⟩
    · split at h3
      · rename_i hk
        rw [Bool.and_eq_true, Bool.and_eq_true] at h3
        have t := name_len h3.2.1
        have f := fld_len h3.2.2
        exact ⟨by omega, by omega, by omega, fun e => by omega, f.1, f.2⟩
      · cases h3
theorem hold_of {p : Pp} (h : holdB p.d = true) (hs : SmP p) (hr : ∀ r ∈ p.ss, ∀ q ∈ r.l, ∀ x ∈ q.a, x.Rng) : p.vs.length ≤ 64 ∧ p.ss.length = p.vs.length ∧ (∀ v ∈ p.vs, VarP v.d) ∧ ∀ r ∈ p.ss, SpnP r := by
  by_cases h0 : p.vs.length ≤ 64 ∧ p.ss.length = p.vs.length
  · have e := hold_start h0
    rw [h, List.drop_zero] at e
    have hall := List.all_eq_true.1 e.symm
    refine ⟨h0.1, h0.2, fun v hv => ?_, fun r hr' => ?_⟩
    · obtain ⟨j, hj, rfl⟩ := List.getElem_of_mem hv
      have := hall (p.vs[j], p.ss[j]'(by omega)) (List.mem_of_getElem? (i := j) (by rw [List.getElem?_eq_getElem (by rw [List.length_zip]; omega), List.getElem_zip]))
      unfold vsB prV at this
      rw [Bool.and_eq_true] at this
      exact varP_of this.1
    · obtain ⟨j, hj, rfl⟩ := List.getElem_of_mem hr'
      have := hall (p.vs[j]'(by omega), p.ss[j]) (List.mem_of_getElem? (i := j) (by rw [List.getElem?_eq_getElem (by rw [List.length_zip]; omega), List.getElem_zip]))
      unfold vsB prV at this
      rw [Bool.and_eq_true, Bool.and_eq_true] at this
      exact ⟨hs _ (List.getElem_mem hj), hr _ (List.getElem_mem hj), this.2.1⟩
  · rw [hold_no (by simpa [Pp.d] using h0)] at h
    cases h
/-- the places of a right table, each behind where the one ahead ends -/
def AllP : Int → List Pp → Prop
  | _, [] => True
  | a, p :: l => PlcP a p ∧ AllP p.tt l
theorem allP_of : ∀ {ps : List Pp} {a : Int}, 0 ≤ a → okLs a (ps.map Pp.d) = true → (∀ p ∈ ps, SmP p) → (∀ p ∈ ps, ∀ r ∈ p.ss, ∀ q ∈ r.l, ∀ x ∈ q.a, x.Rng) → AllP a ps
  | [], _, _, _, _, _ => trivial
  | p :: l, a, h0, h, hs, hr => by
    rw [List.map_cons] at h
    have h' : (okL a p.d && okLs p.d.tt (l.map Pp.d)) = true := h
    rw [Bool.and_eq_true] at h'
    obtain ⟨h1, h2⟩ := h'
    unfold okL at h1
    rw [Bool.and_eq_true, Bool.and_eq_true] at h1
    have n := of_decide_eq_true h1.1
    have m := name_len h1.2.1
    have ho := hold_of h1.2.2 (hs p List.mem_cons_self) (hr p List.mem_cons_self)
    simp only [Pp.d] at n m
    exact ⟨⟨by omega, ⟨h0, by omega, by omega, by omega⟩, ho⟩, allP_of (by omega) h2 (fun q hq => hs q (List.mem_cons_of_mem _ hq)) (fun q hq => hr q (List.mem_cons_of_mem _ hq))⟩
theorem riseB_nn : ∀ {l : List Int} {a most : Int}, riseB most a l = true → -1 ≤ a → ∀ x ∈ l, 0 ≤ x ∧ x < most
  | [], _, _, _, _, x, hx => by cases hx
  | y :: l, a, most, h, ha, x, hx => by
    have h' : (decide (a < y ∧ y < most) && riseB most y l) = true := h
    rw [Bool.and_eq_true] at h'
    have hy := of_decide_eq_true h'.1
    rcases List.mem_cons.1 hx with rfl | hx
    · omega
    · exact riseB_nn h'.2 (by omega) x hx
theorem riseB_len : ∀ {l : List Int} {a most : Int}, riseB most a l = true → a ≤ most → (l.length : Int) ≤ most - a
  | [], _, _, _, h => by simp; omega
  | y :: l, a, most, h, _ => by
    have h' : (decide (a < y ∧ y < most) && riseB most y l) = true := h
    rw [Bool.and_eq_true] at h'
    have hy := of_decide_eq_true h'.1
    have := riseB_len h'.2 (by omega)
    rw [List.length_cons]
    omega
/-- points that may be put -/
def PntP (q : Pq) : Prop := (0 ≤ q.d.fn ∧ q.d.fn < 4611686018427387904) ∧ (0 ≤ q.d.ln ∧ q.d.ln < 4611686018427387904) ∧ q.d.sc.length ≤ 65 ∧ ∀ x ∈ q.d.sc, 0 ≤ x ∧ x < 4611686018427387904
theorem nvs_le {ls : List Plc} (h : ∀ p ∈ ls, p.vs.length ≤ 64) (k : Nat) : 0 ≤ nvs ls k ∧ nvs ls k ≤ 64 := by
  unfold nvs
  cases e : ls[k]? with
  | none => simp
  | some p => have := h p (List.mem_of_getElem? e); simp; omega
theorem okQ_of {ls : List Plc} {q : Pq} (hl : ls.length ≤ 64) (hv : ∀ p ∈ ls, p.vs.length ≤ 64) (h : okQ ls q.d = true) : PntP q := by
  unfold okQ at h
  rw [Bool.and_eq_true] at h
  have a := of_decide_eq_true h.1
  have b := nvs_le hv q.d.fn.toNat
  have c := riseB_len h.2 (by omega)
  exact ⟨by omega, by omega, by omega, fun x hx => by have := riseB_nn h.2 (by omega) x hx; omega⟩
theorem encQ_len {q : Pq} (h : PntP q) : (encQ q.d).length ≤ 700 := by
  obtain ⟨_, _, h3, _⟩ := h
  have a := nb10 q.d.fn
  have b := nb10 q.d.ln
  have c := nb10 (q.d.sc.length : Int)
  have d : ∀ l : List Int, (l.flatMap (nB false)).length ≤ 10 * l.length := fun l => by
    induction l with
    | nil => simp
    | cons x l ih => have := nb10 x; rw [List.flatMap_cons, List.length_append, List.length_cons]; omega
  have e := d q.d.sc
  unfold encQ
  simp only [List.length_append]
  omega

def ptE9 (ls : List Plc) (qs : List Pnt) : Int := if right9 ls qs = true then 0 else 1
def ptB9 (b : List UInt8) (ls : List Plc) (qs : List Pnt) : List UInt8 := if right9 ls qs = true then b ++ own9 ls qs else []
def PutR9 (b : List UInt8) (ls : List Plc) (qs : List Pnt) (w : World) (e : Ending) (w' : World) : Prop :=
  ∃ v, e = .returned (.tuple #[v, .int .i64 (ptE9 ls qs)]) ∧ Own w' w.heap.size v (ptB9 b ls qs) ∧ Below w.heap.size w w'
/-- where the last of these places ends -/
def endP : Int → List Pp → Int
  | a, [] => a
  | _, p :: l => endP p.tt l
theorem endP_snoc (p : Pp) : ∀ (l : List Pp) (a : Int), endP a (l ++ [p]) = p.tt
  | [], _ => rfl
  | q :: l, _ => endP_snoc p l q.tt
theorem enP9s_snoc (p : Pp) : ∀ (l : List Pp) (a : Int), enP9s a ((l ++ [p]).map Pp.d) = enP9s a (l.map Pp.d) ++ enP9 (endP a l) p.d
  | [], a => by
    show enP9 a p.d ++ [] = [] ++ enP9 a p.d
    rw [List.append_nil, List.nil_append]
  | q :: l, a => by
    show enP9 a q.d ++ enP9s q.tt ((l ++ [p]).map Pp.d) = (enP9 a q.d ++ enP9s q.tt (l.map Pp.d)) ++ enP9 (endP q.tt l) p.d
    rw [enP9s_snoc p l q.tt, List.append_assoc]
theorem allP_get : ∀ {ps : List Pp} {a : Int} {k : Nat}, AllP a ps → (h : k < ps.length) → PlcP (endP a (ps.take k)) ps[k]
  | p :: l, a, 0, h, _ => h.1
  | p :: l, a, k + 1, h, hk => allP_get (ps := l) (a := p.tt) (k := k) h.2 (by simpa using hk)
theorem enP9s_len : ∀ {ps : List Pp} {a : Int}, AllP a ps → (enP9s a (ps.map Pp.d)).length ≤ 65000000 * ps.length
  | [], _, _ => by simp [enP9s]
  | p :: l, a, h => by
    have h1 := enP9_len h.1
    have h2 := enP9s_len h.2
    show (enP9 a p.d ++ enP9s p.tt (l.map Pp.d)).length ≤ _
    rw [List.length_append, List.length_cons]
    omega
theorem enQs_len : ∀ {qs : List Pq}, (∀ q ∈ qs, PntP q) → ((qs.map Pq.d).flatMap encQ).length ≤ 700 * qs.length
  | [], _ => by simp
  | q :: l, h => by
    have h1 := encQ_len (h q List.mem_cons_self)
    have h2 := enQs_len (qs := l) (fun x hx => h x (List.mem_cons_of_mem _ hx))
    simp only [List.map_cons, List.flatMap_cons, List.length_append, List.length_cons]
    omega
theorem allP_take : ∀ {ps : List Pp} {a : Int} (k : Nat), AllP a ps → AllP a (ps.take k)
  | _, _, 0, _ => trivial
  | [], _, _ + 1, _ => trivial
  | _p :: _l, _a, k + 1, h => ⟨h.1, allP_take k h.2⟩
end Go.Proofs.YtbkfkdiadeaooaaGreat

namespace Go.Proofs.YtbkfkdiadeaooaaGreat
open Go Go.RowKit

theorem endP_take {ps : List Pp} {k : Nat} (h : k < ps.length) : endP 0 (ps.take (k + 1)) = ps[k].tt := by
  rw [← List.take_append_getElem h]; exact endP_snoc _ _ _
theorem enP9s_take {ps : List Pp} {k : Nat} (h : k < ps.length) : enP9s 0 ((ps.take (k + 1)).map Pp.d) = enP9s 0 ((ps.take k).map Pp.d) ++ enP9 (endP 0 (ps.take k)) ps[k].d := by
  rw [← List.take_append_getElem h]; exact enP9s_snoc _ _ _

set_option maxRecDepth 100000 in
set_option maxHeartbeats 8000000 in
theorem put9_any (A A1 A2 : Option Addr) (c c1 c2 : Nat) (b : List UInt8) (ps : List Pp) (qs : List Pq) (w : World) (hc : A = none → c = 0) (hb : Lies w w.heap.size A b) (hbn : b.length ≤ 500000000000) (h : TL w w.heap.size A1 ps) (h2 : UL w w.heap.size A2 qs) (hp : TabP ps qs) :
    Calls Tryz.prog 12 #[.slice A b.length c, .slice A1 ps.length c1, .slice A2 qs.length c2] w (PutR9 b (ps.map Pp.d) (qs.map Pq.d) w) := by
  have HRT := Lib.hid (right9_any A1 A2 c1 c2 ps qs w hp.1 h h2)
  cases hr : right9 (ps.map Pp.d) (qs.map Pq.d)
  · have HX := Lib.hid (show ptE9 (ps.map Pp.d) (qs.map Pq.d) = 1 ∧ ptB9 b (ps.map Pp.d) (qs.map Pq.d) = [] from ⟨if_neg (by rw [hr]; decide), if_neg (by rw [hr]; decide)⟩)
    rw [hr] at HRT
    unfold PutR9
    rw [HX.out.1, HX.out.2]
    clear hr h h2 hb hc
    go_enter Tryz.func12, Tryz.ntmps12
    go_wp2_with (go_at_call 20; refine HRT.out.mono ?_; rintro e w1 ⟨rfl, hb1⟩)
    go_ret2
    exact ⟨_, rfl, Own.nil _ _, hb1⟩
  have HX := Lib.hid (show ptE9 (ps.map Pp.d) (qs.map Pq.d) = 0 ∧ ptB9 b (ps.map Pp.d) (qs.map Pq.d) = b ++ own9 (ps.map Pp.d) (qs.map Pq.d) from ⟨if_pos hr, if_pos hr⟩)
  have hr' := hr
  unfold right9 at hr'
  rw [Bool.and_eq_true, Bool.and_eq_true] at hr'
  have hlen := of_decide_eq_true hr'.1
  simp only [List.length_map] at hlen
  have hall := allP_of (Int.le_refl 0) hr'.2.1 hp.1.1 hp.2
  have hpt : ∀ q ∈ qs, PntP q := fun q hq => okQ_of (by simpa using hlen.1) (fun p hp' => by
    obtain ⟨x, hx, rfl⟩ := List.mem_map.1 hp'
    obtain ⟨k, hk, rfl⟩ := List.getElem_of_mem hx
    have := (allP_get hall hk).2.2.1
    simpa [Pp.d] using this) (List.all_eq_true.1 hr'.2.2 _ (List.mem_map_of_mem hq))
  have hL1 := fun k => enP9s_len (allP_take (ps := ps) k hall)
  have hL2 := fun k => enQs_len (qs := qs.take k) (fun q hq => hpt q (List.mem_of_mem_take hq))
  have HALL := Lib.hid hall
  have HPT := Lib.hid hpt
  have HL1 := Lib.hid hL1
  have HL2 := Lib.hid hL2
  have HC := Lib.hid hc
  have hpi : (ps.length : Int) ≤ 64 := by omega
  have hqi : (qs.length : Int) ≤ 1000 := by omega
  rw [hr] at HRT
  unfold PutR9
  rw [HX.out.1, HX.out.2]
  clear hr hr' hall hpt hL1 hL2 hc hlen hp
  go_enter Tryz.func12, Tryz.ntmps12
  go_wp2_with fail
  refine HRT.out.mono ?_
  rintro e w1 ⟨rfl, hb1⟩
  have HB1 := Lib.hid hb1
  have HT := Lib.hid (h.next hb1)
  have HU := Lib.hid (h2.next hb1)
  have HBY := Lib.hid ((hb.below hb1).more hb1.size)
  have n1 := nb10 (ps.length : Int)
  have n2 := nb10 (qs.length : Int)
  clear h h2 hb hb1 HRT
  go_wp2_with fail
  refine (putNumber_any (.slice none 0 0) [] (ps.length : Int) w1 w1.heap.size (Nat.le_refl _) (Own.nil _ _) (by simp) (by omega) (by omega)).mono ?_
  rintro e w2 ⟨v2, rfl, ho2, hb2, _, _⟩
  have HO2 := Lib.hid (show Own w2 w1.heap.size v2 (nB false (ps.length : Int) ++ enP9s 0 ((ps.take 0).map Pp.d)) by simpa [enP9s] using ho2)
  have HB2 := Lib.hid hb2
  clear ho2 hb2
  go_wp2_with fail
  go_loopw [8, 9, 23] (fun s a i wr => ∃ k : Nat, k ≤ ps.length ∧ i = .int .i64 k ∧ a = .int .i64 (endP 0 (ps.take k)) ∧ Hid (Own wr w1.heap.size s (nB false (ps.length : Int) ++ enP9s 0 ((ps.take k).map Pp.d))) ∧ Hid (Below w1.heap.size w1 wr)) (fun _ _ i _ => ps.length - (intOf i).toNat)
  case atStart => exact ⟨0, by omega, rfl, rfl, HO2, HB2⟩
  case round =>
    obtain ⟨k, hk, rfl, rfl, hO, hBb⟩ := hrel
    clear HO2 HB2
    have hzr := hBb.out.size
    by_cases hlt : k < ps.length
    · obtain ⟨g, o, rfl, hg, x0, x1, x2, x3, x4⟩ := eL_at (HT.out.1.below hBb.out) hlt
      have hpl := (HT.out.2 _ (List.getElem_mem hlt)).below hBb.out
      have hpp := allP_get HALL.out hlt
      have HT1 := Lib.hid (endP_take hlt)
      have HE1 := Lib.hid (enP9s_take hlt)
      have hln := HL1.out k
      rw [List.length_take] at hln
      generalize hag : endP 0 (ps.take k) = ag at *
      clear hag
      generalize ps[k] = p at *
      have hb3 := below_lnew wr (.cells (lK p) 49)
      have hf3 := heap_alloc_new wr (.cells (lK p) 49)
      have hpv := fun (v : Value) (ho : Own wr w1.heap.size v (nB false (ps.length : Int) ++ enP9s 0 ((ps.take k).map Pp.d))) => putPlace_any v _ p ag (wr.alloc (.cells (lK p) 49)) w1.heap.size (Nat.le_trans hzr hb3.size) (ho.below hb3) (by simp only [List.length_append]; omega) (hpl.below (hb3.mono hzr)) hpp
      obtain ⟨nm, fr, tt, vs, vA, vc, ss, sA, sc⟩ := p
      have hpd : Hid (Pp.d ⟨nm, fr, tt, vs, vA, vc, ss, sA, sc⟩ = Pp.d ⟨nm, fr, tt, vs, vA, vc, ss, sA, sc⟩) := rfl
      have hpv2 := hpv _ hO.out
      unfold lV at hpv2
      unfold lK tv at hb3 hf3 hpv2
      dsimp only at hb3 hf3 hpv2 x0 x1 x2 x3 x4 HT1
      have HPV := Lib.hid hpv2
      clear hpv hpv2 hpd hpl hpp
      go_upto_region 8 with fail
      obtain ⟨W2, hW2⟩ : ∃ W2, W2 = wr.alloc (.cells #[.string (str nm), .int .i64 fr, .int .i64 tt, .slice vA vs.length vc, .slice sA ss.length sc] 49) := ⟨_, rfl⟩
      rw [← hW2] at hb3 hf3 HPV ⊢
      have hT2 : HasT W2 wr.heap.size 49 := ⟨_, _, hf3⟩
      obtain ⟨v0, v1, v2', v3, v4⟩ : W2.cell? ⟨wr.heap.size, 0, none⟩ = some (.string (str nm)) ∧ W2.cell? ⟨wr.heap.size, 1, none⟩ = some (.int .i64 fr) ∧ W2.cell? ⟨wr.heap.size, 2, none⟩ = some (.int .i64 tt) ∧ W2.cell? ⟨wr.heap.size, 3, none⟩ = some (.slice vA vs.length vc) ∧ W2.cell? ⟨wr.heap.size, 4, none⟩ = some (.slice sA ss.length sc) := by
        simp [World.cell?, hf3]
      have HBW := Lib.hid (hBb.out.trans (hb3.mono hzr))
      have HTT := Lib.hid hT2
      clear hW2 hf3 hT2 hb3 x0 x1 x2 x3 x4
      go_wp2_with fail
      refine HPV.out.mono ?_
      rintro e w5 ⟨v5, rfl, ho5, hb5, ht5⟩
      have y2 := (ht5.cell (p := ⟨wr.heap.size, 2, none⟩) HTT.out (by decide)).trans v2'
      have HO5 := Lib.hid (show Own w5 w1.heap.size v5 (nB false (ps.length : Int) ++ enP9s 0 ((ps.take (k + 1)).map Pp.d)) by rw [HE1.out, ← List.append_assoc]; exact ho5)
      have HB5 := Lib.hid (HBW.out.trans hb5)
      clear v0 v1 v2' v3 v4 ho5 hb5 ht5 HPV HBW HTT
      go_wp2_with fail
      go_roundw
      case rel => exact ⟨k + 1, by omega, by go_num, by rw [HT1.out], HO5, HB5⟩
      case measure => simp [intOf]; omega
    · have hki : (ps.length : Int) ≤ k := by omega
      have hx0 := hO.out
      rw [List.take_of_length_le (by omega)] at hx0
      have hln := HL1.out ps.length
      rw [List.take_of_length_le (Nat.le_refl _)] at hln
      have HX0 := Lib.hid hx0
      clear hO hx0
      go_wp2_with fail
      refine (putNumber_any _ _ (qs.length : Int) wr w1.heap.size hzr HX0.out (by simp only [List.length_append]; omega) (by omega) (by omega)).mono ?_
      rintro e w3 ⟨v3, rfl, ho3, hb3, _, _⟩
      obtain ⟨m, hm⟩ : ∃ m, m = nB false (ps.length : Int) ++ enP9s 0 (ps.map Pp.d) ++ nB false (qs.length : Int) := ⟨_, rfl⟩
      rw [← hm] at ho3
      have hml : m.length ≤ 5000000000 := by rw [hm]; simp only [List.length_append]; omega
      have HM := Lib.hid hm
      have HO3 := Lib.hid (show Own w3 w1.heap.size v3 (m ++ ((qs.take 0).map Pq.d).flatMap encQ) by simpa using ho3)
      have HB3 := Lib.hid (hBb.out.trans hb3)
      clear ho3 hb3 hm HX0 hBb hln hzr
      go_wp2_with fail
      go_loopw [8, 40] (fun s i wx => ∃ j : Nat, j ≤ qs.length ∧ i = .int .i64 j ∧ Hid (Own wx w1.heap.size s (m ++ ((qs.take j).map Pq.d).flatMap encQ)) ∧ Hid (Below w1.heap.size w1 wx)) (fun _ i _ => qs.length - (intOf i).toNat)
      case atStart => exact ⟨0, by omega, rfl, HO3, HB3⟩
      case round =>
        obtain ⟨j, hj, rfl, hO, hBb⟩ := hrel
        clear HO3 HB3
        have hzr := hBb.out.size
        by_cases hltj : j < qs.length
        · obtain ⟨g, o, rfl, hg, x0, x1, x2⟩ := eQ_at (HU.out.1.below hBb.out) hltj
          have hql := (HU.out.2 _ (List.getElem_mem hltj)).below hBb.out
          have hpq := HPT.out _ (List.getElem_mem hltj)
          have HTK := Lib.hid (show (qs.take (j + 1)).map Pq.d = (qs.take j).map Pq.d ++ [qs[j].d] by rw [← List.take_append_getElem hltj, List.map_append]; rfl)
          have hln := HL2.out j
          rw [List.length_take] at hln
          generalize qs[j] = q at *
          have hb3 := below_lnew wr (.cells (qK q) 55)
          have hf3 := heap_alloc_new wr (.cells (qK q) 55)
          have hpv := fun (v : Value) (ho : Own wr w1.heap.size v (m ++ ((qs.take j).map Pq.d).flatMap encQ)) => putPoint_any v _ q (wr.alloc (.cells (qK q) 55)) w1.heap.size (Nat.le_trans hzr hb3.size) (ho.below hb3) (by simp only [List.length_append]; omega) (hql.below (hb3.mono hzr)) hpq.1 hpq.2.1 (by have := hpq.2.2.1; omega) hpq.2.2.2
          obtain ⟨⟨fn, ln, scp⟩, qA, qc⟩ := q
          have hpv2 := hpv _ hO.out
          unfold qV at hpv2
          unfold qK at hb3 hf3 hpv2
          dsimp only at hb3 hf3 hpv2 x0 x1 x2 HTK
          have HPV := Lib.hid hpv2
          clear hpv hpv2 hql hpq
          go_upto_region 15 with fail
          obtain ⟨W2, hW2⟩ : ∃ W2, W2 = wr.alloc (.cells #[.int .i64 fn, .int .i64 ln, .slice qA scp.length qc] 55) := ⟨_, rfl⟩
          rw [← hW2] at hb3 hf3 HPV ⊢
          obtain ⟨v0, v1, v2'⟩ : W2.cell? ⟨wr.heap.size, 0, none⟩ = some (.int .i64 fn) ∧ W2.cell? ⟨wr.heap.size, 1, none⟩ = some (.int .i64 ln) ∧ W2.cell? ⟨wr.heap.size, 2, none⟩ = some (.slice qA scp.length qc) := by
            simp [World.cell?, hf3]
          have HBW := Lib.hid (hBb.out.trans (hb3.mono hzr))
          clear hW2 hf3 hb3 x0 x1 x2
          go_wp2_with fail
          refine HPV.out.mono ?_
          rintro e w5 ⟨v5, rfl, ho5, hb5, ht5⟩
          have HO5 := Lib.hid (show Own w5 w1.heap.size v5 (m ++ ((qs.take (j + 1)).map Pq.d).flatMap encQ) by rw [HTK.out, List.flatMap_append, ← List.append_assoc]; simpa using ho5)
          have HB5 := Lib.hid (HBW.out.trans hb5)
          clear v0 v1 v2' ho5 hb5 ht5 HPV HBW
          go_wp2_with fail
          go_roundw
          case rel => exact ⟨j + 1, by omega, by go_num, HO5, HB5⟩
          case measure => simp [intOf]; omega
        · have hji : (qs.length : Int) ≤ j := by omega
          have hx0 := hO.out
          rw [List.take_of_length_le (by omega)] at hx0
          have hln := HL2.out qs.length
          rw [List.take_of_length_le (Nat.le_refl _)] at hln
          obtain ⟨A3, c3, hv3, hc3, hl3, _⟩ := hx0.form9
          clear hO hx0
          subst hv3
          have hcat := concat_any wr.heap.size A A3 c c3 b (m ++ (qs.map Pq.d).flatMap encQ) (wr.alloc (.cells #[.slice A b.length c, .slice A3 (m ++ (qs.map Pq.d).flatMap encQ).length c3] 22)) (heap_alloc_new wr _) HC.out hc3 ((HBY.out.below (hBb.out.trans ((below_lnew wr _).mono hzr))).more (by simp; omega)) ((hl3.below (below_lnew wr _)).more (by simp)) (by omega) (by simp only [List.length_append]; omega)
          have HBC := Lib.hid (hBb.out.trans ((below_lnew wr (.cells #[.slice A b.length c, .slice A3 (m ++ (qs.map Pq.d).flatMap encQ).length c3] 22)).mono hzr))
          generalize hsd : (m ++ (qs.map Pq.d).flatMap encQ) = sd at *
          have HSD := Lib.hid hsd
          obtain ⟨sn, hsn⟩ : ∃ sn, sd.length = sn := ⟨_, rfl⟩
          rw [hsn] at hcat HBC ⊢
          have HCAT := Lib.hid hcat
          have HSN := Lib.hid hsn
          clear hcat hsd hl3 hsn hln
          go_wp2_with (go_at_call 31; refine HCAT.out.mono ?_; rintro e w6 ⟨v6, rfl, ho6, hb6⟩)
          go_ret2
          have hz6 := HBC.out.size
          refine ⟨v6, rfl, ?_, HB1.out.trans ((HBC.out.trans (hb6.mono hz6)).mono HB1.out.size)⟩
          have e9 : b ++ own9 (ps.map Pp.d) (qs.map Pq.d) = b ++ sd := by
            rw [← HSD.out, HM.out]
            unfold own9
            simp only [List.length_map, List.append_assoc]
          rw [e9]
          exact ho6.base (Nat.le_trans HB1.out.size hz6)
end Go.Proofs.YtbkfkdiadeaooaaGreat
