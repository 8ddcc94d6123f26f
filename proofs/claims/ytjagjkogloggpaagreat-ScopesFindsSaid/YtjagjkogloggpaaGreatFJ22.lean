/-
  Merged for a claim: T9H, L7T.
-/
import Derived.Test.YtjagjkogloggpaaGreatFJ21
import Derived.Test.YtjagjkogloggpaaGreatFJ0
import Derived.Test.YtjagjkogloggpaaGreatFL7A
import Derived.Deep.Grids
namespace Go.Proofs.YtjagjkogloggpaaGreat
open Go Go.RowKit

theorem w9_put (w : World) (A1 A2 : Option Addr) (c1 c2 n : Nat) (h : TL w w.heap.size A1 (wP9 n)) (h2 : UL w w.heap.size A2 (wR9 n)) : Calls Tryz.prog 26 #[.slice none 0 0, .slice A1 1 c1, .slice A2 1 c2] w fun e w' => ∃ A c, e = .returned (.tuple #[.slice A 20 c, .int .i64 0]) ∧ 20 ≤ c ∧ Lies w' w'.heap.size A wB9 ∧ Below w.heap.size w w' := by
  refine (put9_any none A1 A2 0 c1 c2 [] (wP9 n) (wR9 n) w (fun _ => rfl) (Lies.empty _ _ _) (by simp) h h2 (w9_tab n)).mono ?_
  rintro e w' ⟨v, rfl, ho, hb⟩
  have e1 : ptB9 [] ((wP9 n).map Pp.d) ((wR9 n).map Pq.d) = wB9 := by
    rw [(w9_d n).1, (w9_d n).2]; unfold ptB9; rw [if_pos w9_right, List.nil_append, w9_own]
  have e2 : ptE9 ((wP9 n).map Pp.d) ((wR9 n).map Pq.d) = 0 := by
    rw [(w9_d n).1, (w9_d n).2]; unfold ptE9; rw [if_pos w9_right]
  rw [e1] at ho
  obtain ⟨A, c, rfl, k1, k2, k3⟩ := ho.form
  exact ⟨A, c, by rw [e2]; rfl, k1, k3, hb⟩
theorem w9_get (w : World) (A : Option Addr) (c : Nat) (hc : 20 ≤ c) (h : Lies w w.heap.size A wB9) : Calls Tryz.prog 14 #[.slice A 20 c, .int .i64 0] w fun e w' => ∃ A1 c1 A2 c2 ps qs, e = .returned (.tuple #[.slice A1 1 c1, .slice A2 1 c2, .int .i64 20, .int .i64 0]) ∧ (ps.map Pp.d = wL9 ∧ qs.map Pq.d = wQ9) ∧ TL w' w'.heap.size A1 ps ∧ UL w' w'.heap.size A2 qs ∧ Below w.heap.size w w' := by
  refine (get9_any A c wB9 0 w hc (by simp [wB9]) h).mono ?_
  rintro e w' ⟨v1, v2, rfl, h1, h2, hb⟩
  rw [if_pos w9_e, w9_l] at h1
  rw [if_pos w9_e, w9_q] at h2
  obtain ⟨A1, c1, ps, rfl, e1, _, _, k1⟩ := h1.form
  obtain ⟨A2, c2, qs, rfl, e2, _, _, k2⟩ := h2.form
  have n1 : ps.length = 1 := by have := congrArg List.length e1; simpa [wL9] using this
  have n2 : qs.length = 1 := by have := congrArg List.length e2; simpa [wQ9] using this
  exact ⟨A1, c1, A2, c2, ps, qs, by rw [n1, n2, if_pos w9_e, w9_n, w9_e], ⟨e1, e2⟩, k1, k2, hb⟩
theorem w9_one {ps : List Pp} {qs : List Pq} (h : ps.map Pp.d = wL9 ∧ qs.map Pq.d = wQ9) : ps.length = 1 ∧ qs.length = 1 :=
  ⟨by have := congrArg List.length h.1; simpa [wL9] using this, by have := congrArg List.length h.2; simpa [wQ9] using this⟩
theorem w9_ins (w : World) (A : Option Addr) (c : Nat) (ps : List Pp) (qs : List Pq) (he : ps.map Pp.d = wL9 ∧ qs.map Pq.d = wQ9) (h : TL w w.heap.size A ps) : Calls Tryz.prog 22 #[.slice A 1 c, .int .i64 8] w (InR (0, true) w) := by
  have := in9_any A c ps 8 w (by rw [(w9_one he).1]; decide) h.1
  rw [he.1, w9_in, (w9_one he).1] at this
  exact this
theorem w9_nms (w : World) (A A2 : Option Addr) (c c2 : Nat) (ps : List Pp) (qs : List Pq) (he : ps.map Pp.d = wL9 ∧ qs.map Pq.d = wQ9) (h : TL w w.heap.size A ps) (h2 : UL w w.heap.size A2 qs) : Calls Tryz.prog 24 #[.slice A 1 c, .slice A2 1 c2, .int .i64 0, .string ⟨#[120]⟩] w (InR (0, true) w) := by
  have hs : ∀ q ∈ qs, q.d.sc.length ≤ 1099511627776 := fun q hq => by
    have : q.d ∈ wQ9 := by rw [← he.2]; exact List.mem_map_of_mem hq
    rw [wQ9, List.mem_singleton] at this
    rw [this]; decide
  have := named9_any A A2 c c2 ps qs 0 [120] w hs h h2
  rw [he.1, he.2, w9_nm, (w9_one he).1, (w9_one he).2] at this
  exact this
theorem w9_same (w : World) (A A2 : Option Addr) (c c2 n : Nat) (ps : List Pp) (qs : List Pq) (he : ps.map Pp.d = wL9 ∧ qs.map Pq.d = wQ9) (h : TL w w.heap.size A ps) (h2 : TL w w.heap.size A2 (wP9 n)) : Calls Tryz.prog 16 #[.slice A 1 c, .slice A2 1 c2] w (BoolR true w) := by
  have hs : ∀ p ∈ ps, SmP p ∧ p.vs.length ≤ 1099511627776 ∧ p.ss.length ≤ 1099511627776 ∧ ∀ v ∈ p.vs, v.d.fs.length ≤ 1099511627776 := fun p hp => by
    have h1 : p.d ∈ wL9 := by rw [← he.1]; exact List.mem_map_of_mem hp
    rw [wL9, List.mem_singleton] at h1
    have hv : p.vs.map Pv.d = [wV9] := congrArg Plc.vs h1
    have hr : p.ss.map Rs.d = [[⟨2, 5, [wLc]⟩]] := congrArg Plc.ss h1
    refine ⟨fun r hr2 => ?_, ?_, ?_, fun v hv2 => ?_⟩
    · have : r.d ∈ [[(⟨2, 5, [wLc]⟩ : Sp)]] := by rw [← hr]; exact List.mem_map_of_mem hr2
      rw [List.mem_singleton] at this
      have hl : r.l.map Ps.sp = [⟨2, 5, [wLc]⟩] := this
      refine ⟨by have := congrArg List.length hl; simp at this; omega, fun q hq => ?_⟩
      have : q.sp ∈ [(⟨2, 5, [wLc]⟩ : Sp)] := by rw [← hl]; exact List.mem_map_of_mem hq
      rw [List.mem_singleton] at this
      have e : q.a = [wLc] := congrArg Sp.a this
      rw [e]; decide
    · have := congrArg List.length hv; simp at this; omega
    · have := congrArg List.length hr; simp at this; omega
    · have : v.d ∈ [wV9] := by rw [← hv]; exact List.mem_map_of_mem hv2
      rw [List.mem_singleton] at this
      rw [this]; decide
  have := same9_any A A2 c c2 ps (wP9 n) w (he.1.trans (w9_d n).1.symm) (by rw [(w9_one he).1]; decide) hs h h2
  rw [(w9_one he).1] at this
  exact this
theorem w9_samep (w : World) (A A2 : Option Addr) (c c2 n : Nat) (ps : List Pp) (qs : List Pq) (he : ps.map Pp.d = wL9 ∧ qs.map Pq.d = wQ9) (h : UL w w.heap.size A qs) (h2 : UL w w.heap.size A2 (wR9 n)) : Calls Tryz.prog 17 #[.slice A 1 c, .slice A2 1 c2] w (BoolR true w) := by
  have hs : ∀ q ∈ qs, q.d.sc.length ≤ 1099511627776 := fun q hq => by
    have : q.d ∈ wQ9 := by rw [← he.2]; exact List.mem_map_of_mem hq
    rw [wQ9, List.mem_singleton] at this
    rw [this]; decide
  have := samePoints_any A A2 c c2 qs (wR9 n) w (he.2.trans (w9_d n).2.symm) (by rw [(w9_one he).2]; decide) hs h h2
  rw [(w9_one he).2] at this
  exact this

set_option maxRecDepth 100000 in
set_option maxHeartbeats 4000000 in
theorem works9_any (w : World) : Calls Tryz.prog 12 #[] w (BoolR true w) := by
  go_enter Tryz.func12, Tryz.ntmps12
  go_wp2_with fail
  refine (plain9_any _).mono ?_
  rintro e w1 ⟨rfl, rfl⟩
  have hT := w9_tl w
  have hU := w9_ul w
  have hb := allocs_below (wO9 w.heap.size) w
  have hz := allocs_size (wO9 w.heap.size) w
  obtain ⟨n, hn⟩ : ∃ n, w.heap.size = n := ⟨_, rfl⟩
  obtain ⟨W, hW⟩ : ∃ W, allocs w (wO9 w.heap.size) = W := ⟨_, rfl⟩
  rw [hW] at hT hU hb hz ⊢
  rw [show (wO9 w.heap.size).length = 9 from rfl] at hz
  rw [hn] at hT hU hb hz ⊢
  have hz9 : n + 9 ≤ W.heap.size := by omega
  have hnw : w.heap.size ≤ n := by omega
  have HN := Lib.hid hn
  clear hz hn
  have hb1 := below_lnew W (.cells #[.slice (some ⟨n + 6, 0, none⟩) 1 1, .slice (some ⟨n + 8, 0, none⟩) 1 1] 35)
  have hc1 : CAt (W.alloc (.cells #[.slice (some ⟨n + 6, 0, none⟩) 1 1, .slice (some ⟨n + 8, 0, none⟩) 1 1] 35)) W.heap.size _ [_, _] := heap_alloc_new W (.cells #[.slice (some ⟨n + 6, 0, none⟩) 1 1, .slice (some ⟨n + 8, 0, none⟩) 1 1] 35)
  have HT := Lib.hid ((hT.below hb1).more hb1.size)
  have HU := Lib.hid ((hU.below hb1).more hb1.size)
  have HB := Lib.hid (hb.trans (hb1.mono (by omega)))
  have hzX : W.heap.size < (W.alloc (.cells #[.slice (some ⟨n + 6, 0, none⟩) 1 1, .slice (some ⟨n + 8, 0, none⟩) 1 1] 35)).heap.size := by simp
  have t0 := hc1.cell (j := 0) (by simp)
  have t1 := hc1.cell (j := 1) (by simp)
  simp only [List.getElem_cons_zero, List.getElem_cons_succ] at t0 t1
  clear hT hU hb hb1 hc1 hW
  obtain ⟨X, hX⟩ : ∃ X, W.alloc (.cells #[.slice (some ⟨n + 6, 0, none⟩) 1 1, .slice (some ⟨n + 8, 0, none⟩) 1 1] 35) = X := ⟨_, rfl⟩
  rw [hX] at HT HU HB hzX t0 t1
  have HPT := Lib.hid (w9_put X _ _ 1 1 n HT.out HU.out)
  go_wp2_with fail
  clear hX
  refine HPT.out.mono ?_
  rintro e w1 ⟨A1, c1, rfl, hcc, hL1, hb1⟩
  have HC1 := Lib.hid hcc
  have HL1 := Lib.hid hL1
  have HB1 := Lib.hid (HB.out.trans (hb1.mono (by omega)))
  have t01 := (hb1.cell (p := ⟨W.heap.size, 0, none⟩) hzX).trans t0
  have t11 := (hb1.cell (p := ⟨W.heap.size, 1, none⟩) hzX).trans t1
  have HT1 := Lib.hid (HT.out.next hb1)
  have HU1 := Lib.hid (HU.out.next hb1)
  have hz1 : W.heap.size < w1.heap.size := Nat.lt_of_lt_of_le hzX hb1.size
  clear hcc hL1 hb1 t0 t1 HPT HT HU HB
  go_wp2_with fail
  refine (w9_get w1 _ c1 HC1.out HL1.out).mono ?_
  rintro e w2 ⟨A2, c2, A3, c3, ps, qs, rfl, he, hT2, hU2, hb2⟩
  have HE := Lib.hid he
  have HP2 := Lib.hid hT2
  have HQ2 := Lib.hid hU2
  have HB2 := Lib.hid (HB1.out.trans (hb2.mono (by omega)))
  have t02 := (hb2.cell (p := ⟨W.heap.size, 0, none⟩) hz1).trans t01
  have t12 := (hb2.cell (p := ⟨W.heap.size, 1, none⟩) hz1).trans t11
  have HT2 := Lib.hid (HT1.out.next hb2)
  have HU2 := Lib.hid (HU1.out.next hb2)
  have hz2 : W.heap.size < w2.heap.size := Nat.lt_of_lt_of_le hz1 hb2.size
  clear he hT2 hU2 hb2 t01 t11
  go_wp2_with fail
  refine (w9_ins w2 A2 c2 ps qs HE.out HP2.out).mono ?_
  rintro e w3 ⟨rfl, hb3⟩
  have HB3 := Lib.hid (HB2.out.trans (hb3.mono (by omega)))
  have t03 := (hb3.cell (p := ⟨W.heap.size, 0, none⟩) hz2).trans t02
  have t13 := (hb3.cell (p := ⟨W.heap.size, 1, none⟩) hz2).trans t12
  have HT3 := Lib.hid (HT2.out.next hb3)
  have HU3 := Lib.hid (HU2.out.next hb3)
  have HP3 := Lib.hid (HP2.out.next hb3)
  have HQ3 := Lib.hid (HQ2.out.next hb3)
  have hz3 : W.heap.size < w3.heap.size := Nat.lt_of_lt_of_le hz2 hb3.size
  clear hb3 t02 t12
  go_wp2_with fail
  refine (w9_nms w3 A2 A3 c2 c3 ps qs HE.out HP3.out HQ3.out).mono ?_
  rintro e w4 ⟨rfl, hb4⟩
  have HB4 := Lib.hid (HB3.out.trans (hb4.mono (by omega)))
  have t04 := (hb4.cell (p := ⟨W.heap.size, 0, none⟩) hz3).trans t03
  have t14 := (hb4.cell (p := ⟨W.heap.size, 1, none⟩) hz3).trans t13
  have HT4 := Lib.hid (HT3.out.next hb4)
  have HU4 := Lib.hid (HU3.out.next hb4)
  have HP4 := Lib.hid (HP3.out.next hb4)
  have HQ4 := Lib.hid (HQ3.out.next hb4)
  have hz4 : W.heap.size < w4.heap.size := Nat.lt_of_lt_of_le hz3 hb4.size
  clear hb4 t03 t13
  go_wp2_with fail
  refine (w9_same w4 A2 _ c2 1 n ps qs HE.out HP4.out HT4.out).mono ?_
  rintro e w5 ⟨rfl, hb5⟩
  have HB5 := Lib.hid (HB4.out.trans (hb5.mono (by omega)))
  have t15 := (hb5.cell (p := ⟨W.heap.size, 1, none⟩) hz4).trans t14
  have HU5 := Lib.hid (HU4.out.next hb5)
  have HQ5 := Lib.hid (HQ4.out.next hb5)
  have hz5 : W.heap.size < w5.heap.size := Nat.lt_of_lt_of_le hz4 hb5.size
  clear hb5 t04 t14
  go_wp2_with fail
  refine (w9_samep w5 A3 _ c3 1 n ps qs HE.out HQ5.out HU5.out).mono ?_
  rintro e w6 ⟨rfl, hb6⟩
  have HB6 := Lib.hid (HB5.out.trans (hb6.mono (by omega)))
  go_wp2_with fail
  go_ret
  exact ⟨rfl, by rw [HN.out]; exact HB6.out⟩
end Go.Proofs.YtjagjkogloggpaaGreat

namespace Go.Proofs.YtjagjkogloggpaaGreat
open Go.ChangeShapes Go.WideShapes Go.ChangeAt Go.RowKit Go.Deep

theorem locs_cells {H : Type} {enc : TypeId × Value → H} {P : Program} {W : World} {t e : TypeId} {f0 f1 : Field} {fuel : Nat} {cs : List Value} {x : DataW H × List MemPlace}
    (ht : P.underlying t = some (.slice e)) (hs : P.underlying e = some (.struct #[f0, f1])) (hone : oneCellFields P #[f0, f1] = true) (hC : P.cellsOf e = 2)
    (t0 : P.underlying f0.type = some (.int .u8)) (t1 : P.underlying f1.type = some (.int .i64))
    (h : DataW.trod enc P W 0 (fun _ => true) true fuel t cs = some x) :
    ∃ (A : Option Addr) (c : Nat) (xs : List Lc), cs = [.slice A xs.length c] ∧ xs.length ≤ c ∧ (∀ x ∈ xs, x.Rng) ∧ LLies W W.heap.size A xs ∧ (A = none → c = 0) := by
  rcases open_slice ht h with ⟨hcs, _⟩ | ⟨a, len, cap, m, n, D, Pl, hcs, _, hl, _, hm, _, hel⟩
  · exact ⟨none, 0, [], hcs, Nat.le_refl _, fun x hx => absurd hx (by simp), fun h => absurd h (by simp), fun _ => rfl⟩
  · simp only [if_true] at hm
    subst hm
    have each : ∀ i, i < len → ∃ y : Lc, y.Rng ∧ ∀ f u, (cC y)[f]? = some u → W.cell? (a.add (i * 2 + f)) = some u := fun i hi => by
      obtain ⟨cs', hc, htr⟩ := hel i (by omega)
      obtain ⟨y, hy, rfl⟩ := open_loc_cells hs hone hC t0 t1 htr
      obtain ⟨_, hcl, hat⟩ := World.cells?_some hc
      refine ⟨y, hy, fun f u hu => ?_⟩
      have hf5 : f < 2 := by have := (List.getElem?_eq_some_iff.1 hu).1; simpa [cC_len] using this
      have := hat f (by rw [hC]; exact hf5)
      rw [hu, hC, add_add] at this
      exact this
    have hlist : ∀ k, k ≤ len → ∃ xs : List Lc, xs.length = k ∧ (∀ x ∈ xs, x.Rng) ∧ ∀ j (hj : j < xs.length) f u, (cC xs[j])[f]? = some u → W.cell? (a.add (j * 2 + f)) = some u := by
      intro k
      induction k with
      | zero => intro _; exact ⟨[], rfl, fun x hx => absurd hx (by simp), fun j hj => absurd hj (by simp)⟩
      | succ k ih =>
        intro hk
        obtain ⟨xs, hx, hr, hall⟩ := ih (by omega)
        obtain ⟨y, hyr, hy⟩ := each k (by omega)
        refine ⟨xs ++ [y], by simp [hx], fun x hx => ?_, fun j hj f u hu => ?_⟩
        · rcases List.mem_append.1 hx with h | h
          · exact hr x h
          · simp at h; subst h; exact hyr
        · by_cases hjk : j < xs.length
          · rw [List.getElem_append_left hjk] at hu
            exact hall j hjk f u hu
          · have : j = xs.length := by simp at hj; omega
            subst this
            simp at hu
            rw [hx]
            exact hy f u hu
    obtain ⟨xs, hx, hr, hall⟩ := hlist len (Nat.le_refl _)
    subst hx
    refine ⟨some a, _, xs, hcs, hl, hr, fun hp => ?_, fun h => by cases h⟩
    have h0 := hall 0 hp 0 _ rfl
    obtain ⟨b, off, spot⟩ := a
    have hspot : spot = none := by simpa [Addr.add] using World.cell?_spot h0
    subst hspot
    refine ⟨b, off, rfl, ?_, fun j hj f u hu => ?_⟩
    · have := World.block_lt_of_cell? W _ h0
      simpa [Addr.add] using this
    · have := hall j hj f u hu
      rw [add_zero_off] at this
      exact this

/-- a span that came in: its steps lie, and are of their kinds -/
def PIn (W : World) (p : Ps) : Prop := Mn W W.heap.size p ∧ ∀ x ∈ p.a, x.Rng
theorem span_cells {H : Type} {enc : TypeId × Value → H} {P : Program} {W : World} {s tl el : TypeId} {f0 f1 f2 g0 g1 : Field} {fuel : Nat} {cs : List Value} {x : DataW H × List MemPlace}
    (hs : P.underlying s = some (.struct #[f0, f1, f2])) (hone : oneCellFields P #[f0, f1, f2] = true) (hC : P.cellsOf s = 3)
    (t0 : P.underlying f0.type = some (.int .i64)) (t1 : P.underlying f1.type = some (.int .i64)) (t2 : f2.type = tl)
    (htl : P.underlying tl = some (.slice el)) (hel : P.underlying el = some (.struct #[g0, g1])) (gone : oneCellFields P #[g0, g1] = true) (gC : P.cellsOf el = 2)
    (u0 : P.underlying g0.type = some (.int .u8)) (u1 : P.underlying g1.type = some (.int .i64))
    (h : DataW.trod enc P W 0 (fun _ => true) true fuel s cs = some x) : ∃ p : Ps, cs = pC p ∧ PIn W p := by
  obtain ⟨ys, n, _, _, hlen, hyl, hf⟩ := DataW.trod_struct hs h
  rw [hC] at hlen
  have hsome : ∀ j, j < 3 → ∃ z, ys[j]? = some z := fun j hj => ⟨_, List.getElem?_eq_getElem (by rw [hyl]; exact hj)⟩
  match cs, hlen with
  | [v0, v1, v2], _ =>
    obtain ⟨o0, k0⟩ := hone_of hone 0 f0 rfl
    have q0 := hf 0 f0 rfl
    obtain ⟨z0, e0⟩ := hsome 0 (by omega)
    rw [e0, o0, k0] at q0
    obtain ⟨a0, r0, _, _⟩ := DataW.trod_int t0 q0
    obtain ⟨o1, k1⟩ := hone_of hone 1 f1 rfl
    have q1 := hf 1 f1 rfl
    obtain ⟨z1, e1⟩ := hsome 1 (by omega)
    rw [e1, o1, k1] at q1
    obtain ⟨a1, r1, _, _⟩ := DataW.trod_int t1 q1
    obtain ⟨o2, k2⟩ := hone_of hone 2 f2 rfl
    have q2 := hf 2 f2 rfl
    obtain ⟨z2, e2⟩ := hsome 2 (by omega)
    rw [e2, o2, k2, t2] at q2
    obtain ⟨A, c, xs, r2, h1, h2, h3, h4⟩ := locs_cells htl hel gone gC u0 u1 q2
    simp at r0 r1 r2
    exact ⟨⟨a0, a1, xs, A, c⟩, by simp only [pC, pK, r0, r1, r2], ⟨h1, h4, h3⟩, h2⟩

set_option maxRecDepth 100000 in
theorem open_spans {H : Type} {enc : TypeId × Value → H} {W : World} {base : Nat} {v : Value} {d : DataW H} {p : List MemPlace}
    (hv : Value.okWide Tryz.prog W .any base 57 v) (h : DataW.Trod enc Tryz.prog W 0 (fun _ => true) true 57 v d p) :
    ∃ (A : Option Addr) (c : Nat) (ps : List Ps), v = .slice A ps.length c ∧ ps.length ≤ c ∧ (A = none → c = 0) ∧ SLies W W.heap.size A ps ∧ ∀ p ∈ ps, ∀ x ∈ p.a, x.Rng := by
  obtain ⟨a0, len, cap, rfl⟩ := okWide_slice Tryz.underlying57 hv
  obtain ⟨fuel, hf⟩ := h
  have hC : Tryz.prog.cellsOf 56 = 3 := by kernel_rfl
  rcases open_slice Tryz.underlying57 hf with ⟨hcs, _⟩ | ⟨a, len', cap', m, n, D, Pl, hcs, _, hl, _, hm, _, hel⟩
  · simp [Value.cells] at hcs
    obtain ⟨rfl, rfl, rfl⟩ := hcs
    exact ⟨none, 0, [], rfl, Nat.le_refl _, fun _ => rfl, SLies.nil _ _ _, fun x hx => absurd hx (by simp)⟩
  · simp [Value.cells] at hcs
    obtain ⟨rfl, rfl, rfl⟩ := hcs
    simp only [if_true] at hm
    subst hm
    have each : ∀ i, i < len → ∃ y : Ps, PIn W y ∧ ∀ f u, (pC y)[f]? = some u → W.cell? (a.add (i * 3 + f)) = some u := fun i hi => by
      obtain ⟨cs', hc, htr⟩ := hel i (by omega)
      obtain ⟨y, rfl, hy⟩ := span_cells (tl := 54) (el := 53) Tryz.underlying56 (by kernel_rfl) hC (by kernel_rfl) (by kernel_rfl) rfl Tryz.underlying54 Tryz.underlying53 (by kernel_rfl) (by kernel_rfl) (by kernel_rfl) (by kernel_rfl) htr
      obtain ⟨_, hcl, hat⟩ := World.cells?_some hc
      refine ⟨y, hy, fun f u hu => ?_⟩
      have hf5 : f < 3 := by have := (List.getElem?_eq_some_iff.1 hu).1; simpa [pC_len] using this
      have := hat f (by rw [hC]; exact hf5)
      rw [hu, hC, add_add] at this
      exact this
    have hlist : ∀ k, k ≤ len → ∃ xs : List Ps, xs.length = k ∧ (∀ x ∈ xs, PIn W x) ∧ ∀ j (hj : j < xs.length) f u, (pC xs[j])[f]? = some u → W.cell? (a.add (j * 3 + f)) = some u := by
      intro k
      induction k with
      | zero => intro _; exact ⟨[], rfl, fun x hx => absurd hx (by simp), fun j hj => absurd hj (by simp)⟩
      | succ k ih =>
        intro hk
        obtain ⟨xs, hx, hr, hall⟩ := ih (by omega)
        obtain ⟨y, hyr, hy⟩ := each k (by omega)
        refine ⟨xs ++ [y], by simp [hx], fun x hx => ?_, fun j hj f u hu => ?_⟩
        · rcases List.mem_append.1 hx with h | h
          · exact hr x h
          · simp at h; subst h; exact hyr
        · by_cases hjk : j < xs.length
          · rw [List.getElem_append_left hjk] at hu
            exact hall j hjk f u hu
          · have : j = xs.length := by simp at hj; omega
            subst this
            simp at hu
            rw [hx]
            exact hy f u hu
    obtain ⟨xs, hx, hr, hall⟩ := hlist len (Nat.le_refl _)
    subst hx
    refine ⟨some a, _, xs, rfl, hl, fun h => (by cases h), ⟨fun hp => ?_, fun p hp => (hr p hp).1⟩, fun p hp => (hr p hp).2⟩
    have h0 := hall 0 hp 0 _ rfl
    obtain ⟨b, off, spot⟩ := a
    have hspot : spot = none := by simpa [Addr.add] using World.cell?_spot h0
    subst hspot
    refine ⟨b, off, rfl, ?_, fun j hj f u hu => ?_⟩
    · have := World.block_lt_of_cell? W _ h0
      simpa [Addr.add] using this
    · have := hall j hj f u hu
      rw [add_zero_off] at this
      exact this
end Go.Proofs.YtjagjkogloggpaaGreat
