/-
  Merged for a claim: C5H.
-/
import Derived.Test.YtdnpoeegefkoiaaGreatFJ5
import Derived.Test.YtdnpoeegefkoiaaGreatFC4K
import Derived.RegionTactic
import Derived.Deep.RegionHeld3
import Derived.Deep.QuietTactic
import Derived.BigQuiet
import Derived.StillTailTactics
namespace Go.Proofs.YtdnpoeegefkoiaaGreat
open Go Go.RowKit

theorem IRow.ilsC {w : World} {v : Value} {l : List Int} (h : IRow w v l) : ∃ A c, v = .slice A l.length c ∧ l.length ≤ c ∧ (A = none → c = 0) ∧ ILs w A l := by
  have h' := h
  rcases h.2 with ⟨rfl, h0⟩ | ⟨g, cap, cur, rfl, hg, hh, hn, _, hsz, ht⟩
  · exact ⟨none, 0, by rw [h0], by omega, fun _ => rfl, fun hl => by omega⟩
  · refine ⟨_, cap, rfl, hn, fun e => (by cases e), fun _ => ⟨g, 0, rfl, h.lt g rfl, fun j hj => ?_⟩⟩
    have := World.ownsRow.cellAt h' j (by simpa using hj)
    rw [Nat.zero_add, this]
    simp [iV, hj]
/-- append of numbers that lie somewhere, or of none, onto a row of the call's own, as a run -/
theorem run_app_any (w : World) (v : Value) (l l2 : List Int) (hown : IRow w v l) (A : Option Addr) (c : Nat) (hc : A = none → c = 0) (hl : ILs w A l2) (hsz : l.length + l2.length ≤ 17592186044416) (ty : TypeId) :
    ∃ v' w', (Builtin.append_ #[24, 24] ty #[v, .slice A l2.length c]).run Tryz.prog w = .ok v' w' ∧ IRow w' v' (l ++ l2) ∧ w.grownBy w' v.ownBlock ∧ (v'.ownBlock = v.ownBlock ∨ v'.ownBlock = some w.heap.size) := by
  cases A with
  | none =>
    have h0 : l2 = [] := by
      rcases l2 with _ | ⟨y, l2⟩
      · rfl
      · obtain ⟨g, o, e, _⟩ := hl (by simp)
        cases e
    subst h0
    obtain rfl := hc rfl
    obtain ⟨i0, hi0, hz0, hz1, hz2⟩ := info_parts i64_info
    have hrun := run_append_owned_none (P := Tryz.prog) w 0 24 ty 2 i0 1 Tryz.underlying24 hi0 v l.length (l.map iV) hown
    exact ⟨v, w, hrun, by simpa using hown, World.grownBy.refl _ _, .inl rfl⟩
  | some a =>
    refine run_app_ints w v l l2 hown a c (fun j hj => ?_) hsz ty
    obtain ⟨g, o, e, _, hcell⟩ := hl (by omega)
    cases e
    rw [add_zero_off, hcell j hj]
    simp [iV, hj]
section
variable {ops : Array Oper} {rest : List Oper} {o : Oper} {a : Act} {Q : Exit → Act → World → Prop}
theorem wp_app_any {K : Act → World → Prop} (w : World) (s x : Operand) (ho : o.op = .call { callee := .builtin .append, args := #[s, x], argTypes := #[24, 24] })
    (v : Value) (l : List Int) (hs : a.eval s = v) (hown : IRow w v l) (A : Option Addr) (c : Nat) (l2 : List Int) (hx : a.eval x = .slice A l2.length c) (hc : A = none → c = 0) (hl : ILs w A l2) (hsz : l.length + l2.length ≤ 17592186044416)
    (h : ∀ v' w', IRow w' v' (l ++ l2) → w.grownBy w' v.ownBlock → (v'.ownBlock = v.ownBlock ∨ v'.ownBlock = some w.heap.size) → K (a.put o.dst v') w') : Oper.wp Tryz.prog o a w K Q := by
  obtain ⟨v', w', hr, h1, h2, h3⟩ := run_app_any w v l l2 hown A c hc hl hsz o.type
  unfold Oper.wp execOp
  simp only [ho, resolve, invoke, builtin, Sem.run_bind, Sem.run_pure, Result.andThen_ok, List.map_toArray, List.map_cons, List.map_nil, hs, hx]
  simp only [hr]
  exact h v' w' h1 h2 h3
theorem app_any (w : World) (hgd : o.guard = none) (s x : Operand) (ho : o.op = .call { callee := .builtin .append, args := #[s, x], argTypes := #[24, 24] })
    (v : Value) (l : List Int) (hs : a.eval s = v) (hown : IRow w v l) (A : Option Addr) (c : Nat) (l2 : List Int) (hx : a.eval x = .slice A l2.length c) (hc : A = none → c = 0) (hl : ILs w A l2) (hsz : l.length + l2.length ≤ 17592186044416)
    (h : ∀ v' w', IRow w' v' (l ++ l2) → w.grownBy w' v.ownBlock → (v'.ownBlock = v.ownBlock ∨ v'.ownBlock = some w.heap.size) → wpList Tryz.prog ops Q rest (a.put o.dst v') w') : wpList Tryz.prog ops Q (o :: rest) a w := by
  refine wpList_plain hgd fun K hK' => ?_
  exact wp_app_any w s x ho v l hs hown A c l2 hx hc hl hsz fun v' w' h1 h2 h3 => hK' _ _ (h v' w' h1 h2 h3)
end
theorem tail_ils {W : World} {v : Value} {x : Int} {l : List Int} {b o c n : Nat} (h : IRow W v (x :: l)) (e : v = .slice (some ⟨b, o, none⟩) n c) : ILs W (some ⟨b, o + 1, none⟩) l := by
  obtain ⟨A, c', e', _, _, hL⟩ := h.ilsC
  rw [e] at e'
  cases e'
  obtain ⟨b', o', e2, hb, hx⟩ := hL (by simp)
  cases e2
  intro hl0
  refine ⟨b, o + 1, rfl, hb, fun j hj => ?_⟩
  have := hx (j + 1) (by simp; omega)
  rw [show o + 1 + j = o + (j + 1) by omega, this]
  simp
theorem ils_none {W : World} {A : Option Addr} {l : List Int} (h : l.length = 0) : ILs W A l := fun q => by omega
theorem own_new {v : Value} {a b N k : Nat} (o2 : v.ownBlock = some a ∨ v.ownBlock = some b) (ha : N ≤ a) (hb : N ≤ b) (e : v.ownBlock = some k) : N ≤ k := by
  rcases o2 with q | q
  · rw [q] at e; have := Option.some.inj e; omega
  · rw [q] at e; have := Option.some.inj e; omega
theorem own_new2 {v v1 : Value} {b N k : Nat} (o2 : v.ownBlock = v1.ownBlock ∨ v.ownBlock = some b) (ha : ∀ j, v1.ownBlock = some j → N ≤ j) (hb : N ≤ b) (e : v.ownBlock = some k) : N ≤ k := by
  rcases o2 with q | q
  · exact ha k (q ▸ e)
  · rw [q] at e; have := Option.some.inj e; omega
theorem one_ils {W : World} {b : Nat} {x : Int} (hb : b < W.heap.size) (hx : W.cell? ⟨b, 0, none⟩ = some (.int .i64 x)) : ILs W (some ⟨b, 0, none⟩) [x] := fun _ => ⟨b, 0, rfl, hb, fun j hj => by
  have e : j = 0 := by simpa using hj
  subst e; exact hx⟩
theorem grow_of {S : Nat → Prop} {w w2 : World} {N : Nat} (hN : w2.heap.size ≤ N) : ∀ k, grow S w w2 k → S k ∨ (w.heap.size ≤ k ∧ k < N) := fun k hs => by
  rcases hs with q | q
  · exact .inl q
  · exact .inr ⟨q.1, by omega⟩
/-- what is new is none of those that are written -/
theorem still_new {w : World} {S : Nat → Prop} {g : Nat} {m : Mc} {p : Rp} (h : DIn w S g m p) {k : Nat} (hk : w.heap.size ≤ k) : still3 g p k := by
  have h1 := h.lt _ h.mem
  have h2 := h.lt _ h.grS
  have h3 := h.lt _ h.gwS
  exact ⟨by omega, by omega, by omega⟩

section
variable {w : World} {S : Nat → Prop} {g : Nat} {m : Mc} {p : Rp}
set_option maxRecDepth 100000 in
set_option maxHeartbeats 400000 in
theorem does_in_no (h : DIn w S g m p) (o t n mm next : Int) (r : Nat) (hr : r < 16) (hl : m.input = []) :
    Calls Tryz.prog 29 #[.pointer (some ⟨g, 0, none⟩), iv ⟨15, o, r, 0, t, n, mm⟩, .int .i64 next] w (DoesR (m) 4 S g w) := by
  have H := Lib.hid h
  obtain ⟨⟨l0, l1, l2⟩, f0, f1, f2⟩ := h.facts
  obtain ⟨c0, c1, c2, c3, c4, c5, c6, c7⟩ := h.cells
  have n1 : p.gr ≠ g := h.grg
  have n2 : p.gw ≠ g := h.gwg
  have n3 : p.gr ≠ p.gw := h.rw_
  have r0 : (0 : Int) ≤ (r : Int) := by omega
  have r1 : (r : Int) < 16 := by omega
  have cr := h.reg hr
  have cs := h.reg (r := 0) (by omega)
  obtain ⟨A4, z4, e4, hz4, hn4, hL4⟩ := h.inp.ilsC
  rw [e4, hl] at c4
  clear e4 hL4
  rw [hl] at hz4
  clear h f0 f1 f2 c0 c3 c5 c6 c7
  unfold iv ic
  go_enter Tryz.func29, Tryz.ntmps29
  go_wp2_with fail
  go_region
  go_wp2_with fail
  go_ret
  exact does_same rfl rfl (((H.out).al _).dr) (((Keeps.refl S w).al _).dr) H.out.lt
set_option maxRecDepth 100000 in
set_option maxHeartbeats 400000 in
theorem does_in1 (h : DIn w S g m p) (o t n mm next : Int) (r : Nat) (x : Int) (l : List Int) (hr : r < 16) (hl : m.input = x :: l) (hll : l.length ≤ 1099511627776) (hv : ∀ b o k, p.vi ≠ .slice (some ⟨b, o, none⟩) k 1) :
    Calls Tryz.prog 29 #[.pointer (some ⟨g, 0, none⟩), iv ⟨15, o, r, 0, t, n, mm⟩, .int .i64 next] w (DoesR ({ setR m r x with input := l, pc := next }) 0 S g w) := by
  have H := Lib.hid h
  obtain ⟨⟨l0, l1, l2⟩, f0, f1, f2⟩ := h.facts
  obtain ⟨c0, c1, c2, c3, c4, c5, c6, c7⟩ := h.cells
  have n1 : p.gr ≠ g := h.grg
  have n2 : p.gw ≠ g := h.gwg
  have n3 : p.gr ≠ p.gw := h.rw_
  have r0 : (0 : Int) ≤ (r : Int) := by omega
  have r1 : (r : Int) < 16 := by omega
  have cr := h.reg hr
  have cs := h.reg (r := 0) (by omega)
  have fp := f0 1
  have fr := f1 r
  obtain ⟨A4, z4, e4, hz4, hn4, hL4⟩ := h.inp.ilsC
  rw [e4, hl] at c4
  rw [hl] at hz4 hL4
  have fi := f0 4
  obtain ⟨b4, o4, rfl, hb4, hx4⟩ := hL4 (by simp)
  have cx := hx4 0 (by simp)
  simp only [List.length_cons] at c4 hz4
  rw [Nat.add_zero] at cx
  have cx2 : w.cell? ⟨b4, o4, none⟩ = some (.int .i64 x) := cx
  have hrb : b4 ≠ p.gr ∧ b4 ≠ g := by have q := h.viS b4 (by rw [e4]; rfl); exact ⟨q.2.2.1, q.2.1⟩
  obtain ⟨hrb1, hrb2⟩ := hrb
  have HD := Lib.hid (((((H.out.setReg hr x).al (.cells #[.int .u8 15, .int .u8 o, .int .i64 r, .int .i64 0, .int .i64 t, .int .i64 n, .int .i64 mm] 53)).al (.cells #[] 2)).dr).dr)
  have HE := Lib.hid (show IRow (((w.setCell ⟨p.gr, r, none⟩ (.int .i64 x)).alloc (.cells #[.int .u8 15, .int .u8 o, .int .i64 r, .int .i64 0, .int .i64 t, .int .i64 n, .int .i64 mm] 53)).alloc (.cells #[] 2)).drew.drew (.slice (some ⟨w.heap.size + 1, 0, none⟩) 0 0) [] from by
    have := irow_new ((w.setCell ⟨p.gr, r, none⟩ (.int .i64 x)).alloc (.cells #[.int .u8 15, .int .u8 o, .int .i64 r, .int .i64 0, .int .i64 t, .int .i64 n, .int .i64 mm] 53))
    rwa [show ((w.setCell ⟨p.gr, r, none⟩ (.int .i64 x)).alloc (.cells #[.int .u8 15, .int .u8 o, .int .i64 r, .int .i64 0, .int .i64 t, .int .i64 n, .int .i64 mm] 53)).heap.size = w.heap.size + 1 by simp [World.setCell]] at this)
  have HS0 := Lib.hid (show (((w.setCell ⟨p.gr, r, none⟩ (.int .i64 x)).alloc (.cells #[.int .u8 15, .int .u8 o, .int .i64 r, .int .i64 0, .int .i64 t, .int .i64 n, .int .i64 mm] 53)).alloc (.cells #[] 2)).drew.drew.heap.size = w.heap.size + 1 + 1 by simp [World.setCell])
  have HK := Lib.hid (((((Keeps.refl S w).st H.out.grS r (.int .i64 x)).al (.cells #[.int .u8 15, .int .u8 o, .int .i64 r, .int .i64 0, .int .i64 t, .int .i64 n, .int .i64 mm] 53)).al (.cells #[] 2)).dr.dr)
  have HI := Lib.hid (show (setR m r x).input = x :: l from hl)
  have HM := Lib.hid (show (setR m r x).code = m.code from rfl)
  have hll2 : l.length ≤ 17592186044416 := by omega
  have HVE := Lib.hid e4
  have HIL := Lib.hid (show m.input.length = l.length + 1 by rw [hl]; rfl)
  clear hx4 cx e4 hn4 hL4 hl hll
  have hz1 : ¬ z4 = 1 := fun e => hv b4 o4 (l.length + 1) (by rw [HVE.out, e, HIL.out])
  clear hv
  clear h f0 f1 f2 c0 c3 c5 c6 c7
  unfold iv ic
  go_enter Tryz.func29, Tryz.ntmps29
  go_wp2_with fail
  go_region
  go_wp2_with fail
  go_region
  go_wp2_with (at_builtin
               refine app_any _ rfl (.tmp 325) (.tmp 330) rfl _ [] rfl HE.out (some ⟨b4, o4 + 1, none⟩) _ l rfl (by simp) (tail_ils (HI.out ▸ HD.out.inp) HVE.out) (by simp; omega) ?_
               intro v2 w2 h2 g2 o2
               have HS2 := Lib.hid (show w.heap.size + 1 + 1 ≤ w2.heap.size from by have := g2.size; rw [HS0.out] at this; exact this)
               have HD2 := Lib.hid (HD.out.same (fun k hS => g2.block k (HD.out.lt k hS) (fun e => by have q := H.out.lt k hS; have e2 : k = w.heap.size + 1 := Option.some.inj e; omega)) g2.size)
               have HK2 := Lib.hid (HK.out.trans (S' := fun k => w.heap.size ≤ k) (Keeps.grown g2 fun k e => by have e2 : w.heap.size + 1 = k := Option.some.inj e; omega) fun k hs => .inr hs)
               have HO2 := Lib.hid (fun k (e : v2.ownBlock = some k) => show w.heap.size ≤ k ∧ k < w2.heap.size from ⟨own_new o2 (show w.heap.size ≤ w.heap.size + 1 by omega) (by rw [HS0.out]; omega) e, IRow.lt h2 k e⟩)
               have H2 := Lib.hid h2
               obtain ⟨A5, c5', e5, _⟩ := h2.ils
               have HE5 := Lib.hid e5
               obtain ⟨c0, c1', c2', c3', c4', c5, c6, c7⟩ := HD2.out.cells
               rw [HVE.out] at c4'
               have fp' := HD2.out.frozen 1
               have fi' := HD2.out.frozen 4
               rw [e5]
               clear h2 g2 o2 e5 c0 c1 c2 c4 cr cs fp fr fi cx2 c3' c5 c6 c7)
  go_ret
  have HF := (((HD2.out.more (S' := grow S w w2) (fun k hs => .inl hs) (grow_lt H.out.lt (by have := HS2.out; omega))).setIn v2 l (by simpa using H2.out) (fun k e => ⟨.inr (HO2.out k e), still_new H.out (HO2.out k e).1⟩)).setPc next)
  rw [HE5.out] at HF
  exact does_of rfl rfl HF ((HK2.out.st H.out.mem _ _).st H.out.mem _ _) H.out.lt (grow_of (by simp [World.setCell]))
set_option maxRecDepth 100000 in
set_option maxHeartbeats 400000 in
theorem does_in0 (h : DIn w S g m p) (o t n mm next : Int) (r : Nat) (x : Int) (l : List Int) (hr : r < 16) (hl : m.input = x :: l) (hll : l.length ≤ 1099511627776) (hv : ∃ b o k, p.vi = .slice (some ⟨b, o, none⟩) k 1) :
    Calls Tryz.prog 29 #[.pointer (some ⟨g, 0, none⟩), iv ⟨15, o, r, 0, t, n, mm⟩, .int .i64 next] w (DoesR ({ setR m r x with input := l, pc := next }) 0 S g w) := by
  have H := Lib.hid h
  obtain ⟨⟨l0, l1, l2⟩, f0, f1, f2⟩ := h.facts
  obtain ⟨c0, c1, c2, c3, c4, c5, c6, c7⟩ := h.cells
  have n1 : p.gr ≠ g := h.grg
  have n2 : p.gw ≠ g := h.gwg
  have n3 : p.gr ≠ p.gw := h.rw_
  have r0 : (0 : Int) ≤ (r : Int) := by omega
  have r1 : (r : Int) < 16 := by omega
  have cr := h.reg hr
  have cs := h.reg (r := 0) (by omega)
  have fp := f0 1
  have fr := f1 r
  obtain ⟨A4, z4, e4, hz4, hn4, hL4⟩ := h.inp.ilsC
  rw [e4, hl] at c4
  rw [hl] at hz4 hL4
  have fi := f0 4
  obtain ⟨b4, o4, rfl, hb4, hx4⟩ := hL4 (by simp)
  have cx := hx4 0 (by simp)
  simp only [List.length_cons] at c4 hz4
  rw [Nat.add_zero] at cx
  have cx2 : w.cell? ⟨b4, o4, none⟩ = some (.int .i64 x) := cx
  have hrb : b4 ≠ p.gr ∧ b4 ≠ g := by have q := h.viS b4 (by rw [e4]; rfl); exact ⟨q.2.2.1, q.2.1⟩
  obtain ⟨hrb1, hrb2⟩ := hrb
  have HD := Lib.hid (((((H.out.setReg hr x).al (.cells #[.int .u8 15, .int .u8 o, .int .i64 r, .int .i64 0, .int .i64 t, .int .i64 n, .int .i64 mm] 53)).al (.cells #[] 2)).dr).dr)
  have HE := Lib.hid (show IRow (((w.setCell ⟨p.gr, r, none⟩ (.int .i64 x)).alloc (.cells #[.int .u8 15, .int .u8 o, .int .i64 r, .int .i64 0, .int .i64 t, .int .i64 n, .int .i64 mm] 53)).alloc (.cells #[] 2)).drew.drew (.slice (some ⟨w.heap.size + 1, 0, none⟩) 0 0) [] from by
    have := irow_new ((w.setCell ⟨p.gr, r, none⟩ (.int .i64 x)).alloc (.cells #[.int .u8 15, .int .u8 o, .int .i64 r, .int .i64 0, .int .i64 t, .int .i64 n, .int .i64 mm] 53))
    rwa [show ((w.setCell ⟨p.gr, r, none⟩ (.int .i64 x)).alloc (.cells #[.int .u8 15, .int .u8 o, .int .i64 r, .int .i64 0, .int .i64 t, .int .i64 n, .int .i64 mm] 53)).heap.size = w.heap.size + 1 by simp [World.setCell]] at this)
  have HS0 := Lib.hid (show (((w.setCell ⟨p.gr, r, none⟩ (.int .i64 x)).alloc (.cells #[.int .u8 15, .int .u8 o, .int .i64 r, .int .i64 0, .int .i64 t, .int .i64 n, .int .i64 mm] 53)).alloc (.cells #[] 2)).drew.drew.heap.size = w.heap.size + 1 + 1 by simp [World.setCell])
  have HK := Lib.hid (((((Keeps.refl S w).st H.out.grS r (.int .i64 x)).al (.cells #[.int .u8 15, .int .u8 o, .int .i64 r, .int .i64 0, .int .i64 t, .int .i64 n, .int .i64 mm] 53)).al (.cells #[] 2)).dr.dr)
  have HI := Lib.hid (show (setR m r x).input = x :: l from hl)
  have HM := Lib.hid (show (setR m r x).code = m.code from rfl)
  have hll2 : l.length ≤ 17592186044416 := by omega
  have HVE := Lib.hid e4
  have HIL := Lib.hid (show m.input.length = l.length + 1 by rw [hl]; rfl)
  clear hx4 cx e4 hn4 hL4 hl hll
  obtain ⟨b', o', k', hv'⟩ := hv
  rw [HVE.out] at hv'
  obtain rfl : z4 = 1 := by cases hv'; rfl
  clear hv'
  have hl0 := Lib.hid (show l.length = 0 by omega)
  clear h f0 f1 f2 c0 c3 c5 c6 c7
  unfold iv ic
  go_enter Tryz.func29, Tryz.ntmps29
  go_wp2_with fail
  go_region
  go_wp2_with fail
  go_region
  clear hz4
  go_wp2_with (at_builtin
               refine app_any _ rfl (.tmp 325) (.tmp 330) rfl _ [] rfl HE.out (some ⟨b4, o4, none⟩) _ l rfl (by simp) (ils_none hl0.out) (by simp; omega) ?_
               intro v2 w2 h2 g2 o2
               have HS2 := Lib.hid (show w.heap.size + 1 + 1 ≤ w2.heap.size from by have := g2.size; rw [HS0.out] at this; exact this)
               have HD2 := Lib.hid (HD.out.same (fun k hS => g2.block k (HD.out.lt k hS) (fun e => by have q := H.out.lt k hS; have e2 : k = w.heap.size + 1 := Option.some.inj e; omega)) g2.size)
               have HK2 := Lib.hid (HK.out.trans (S' := fun k => w.heap.size ≤ k) (Keeps.grown g2 fun k e => by have e2 : w.heap.size + 1 = k := Option.some.inj e; omega) fun k hs => .inr hs)
               have HO2 := Lib.hid (fun k (e : v2.ownBlock = some k) => show w.heap.size ≤ k ∧ k < w2.heap.size from ⟨own_new o2 (show w.heap.size ≤ w.heap.size + 1 by omega) (by rw [HS0.out]; omega) e, IRow.lt h2 k e⟩)
               have H2 := Lib.hid h2
               obtain ⟨A5, c5', e5, _⟩ := h2.ils
               have HE5 := Lib.hid e5
               obtain ⟨c0, c1', c2', c3', c4', c5, c6, c7⟩ := HD2.out.cells
               rw [HVE.out] at c4'
               have fp' := HD2.out.frozen 1
               have fi' := HD2.out.frozen 4
               rw [e5]
               clear h2 g2 o2 e5 c0 c1 c2 c4 cr cs fp fr fi cx2 c3' c5 c6 c7)
  go_ret
  have HF := (((HD2.out.more (S' := grow S w w2) (fun k hs => .inl hs) (grow_lt H.out.lt (by have := HS2.out; omega))).setIn v2 l (by simpa using H2.out) (fun k e => ⟨.inr (HO2.out k e), still_new H.out (HO2.out k e).1⟩)).setPc next)
  rw [HE5.out] at HF
  exact does_of rfl rfl HF ((HK2.out.st H.out.mem _ _).st H.out.mem _ _) H.out.lt (grow_of (by simp [World.setCell]))
end
end Go.Proofs.YtdnpoeegefkoiaaGreat
