/-
  Merged for a claim: C4K.
-/
import Derived.Test.YtdnpoeegefkoiaaGreatFC4J2
import Derived.Laws.Pointers
import Derived.Lib.SliceRun
namespace Go.Proofs.YtdnpoeegefkoiaaGreat
open Go Go.RowKit

/-- numbers lie at an address -/
def ILs (w : World) (A : Option Addr) (l : List Int) : Prop := 0 < l.length → ∃ g o, A = some ⟨g, o, none⟩ ∧ g < w.heap.size ∧ ∀ j (_h : j < l.length), w.cell? ⟨g, o + j, none⟩ = some (.int .i64 (l.getD j 0))
theorem ILs.below {w w' : World} {A : Option Addr} {l : List Int} (h : ILs w A l) (hb : Below w.heap.size w w') : ILs w' A l := fun hl => by
  obtain ⟨g, o, e, hg, hc⟩ := h hl
  exact ⟨g, o, e, Nat.lt_of_lt_of_le hg hb.size, fun j hj => (hb.cell (p := ⟨g, o + j, none⟩) hg).trans (hc j hj)⟩
theorem ISt.ils {w : World} {S no : Nat → Prop} {A : Option Addr} {l : List Int} (h : ISt w S no A l) (hl : ∀ k, S k → k < w.heap.size) : ILs w A l := fun h0 => by
  obtain ⟨g, o, e, h1, _, h3⟩ := h h0
  exact ⟨g, o, e, hl g h1, h3⟩
theorem IRow.ils {w : World} {v : Value} {l : List Int} (h : IRow w v l) : ∃ A c, v = .slice A l.length c ∧ l.length ≤ c ∧ ILs w A l := by
  have h' := h
  rcases h.2 with ⟨rfl, h0⟩ | ⟨g, cap, cur, rfl, hg, hh, hn, _, hsz, ht⟩
  · exact ⟨none, 0, by rw [h0], by omega, fun hl => by omega⟩
  · refine ⟨_, cap, rfl, hn, fun _ => ⟨g, 0, rfl, h.lt g rfl, fun j hj => ?_⟩⟩
    have := World.ownsRow.cellAt h' j (by simpa using hj)
    rw [Nat.zero_add, this]
    simp [iV, hj]
theorem IRow.below {w w' : World} {v : Value} {l : List Int} (h : IRow w v l) (hb : Below w.heap.size w w') : IRow w' v l := h.same fun k e => hb.block k (h.lt k e)

section
variable {ops : Array Oper} {rest : List Oper} {o : Oper} {a : Act} {Q : Exit → Act → World → Prop}
theorem app_ints (w : World) (hgd : o.guard = none) (s x : Operand) (ho : o.op = .call { callee := .builtin .append, args := #[s, x], argTypes := #[24, 24] })
    (v : Value) (l : List Int) (hs : a.eval s = v) (hown : IRow w v l) (A : Addr) (c : Nat) (l2 : List Int) (hx : a.eval x = .slice (some A) l2.length c) (hy : ILs w (some A) l2) (hsz : l.length + l2.length ≤ 17592186044416)
    (h : ∀ v' w', IRow w' v' (l ++ l2) → w.grownBy w' v.ownBlock → (v'.ownBlock = v.ownBlock ∨ v'.ownBlock = some w.heap.size) → wpList Tryz.prog ops Q rest (a.put o.dst v') w') : wpList Tryz.prog ops Q (o :: rest) a w := by
  refine wpList_plain hgd fun K hK' => ?_
  obtain ⟨v', w', hr, h1, h2, h3⟩ := run_app_ints w v l l2 hown A c (fun j hj => by
    obtain ⟨g, of, e, _, hc⟩ := hy (by omega)
    cases e
    rw [add_zero_off, hc j hj]
    simp [iV, hj]) hsz o.type
  unfold Oper.wp execOp
  simp only [ho, resolve, invoke, builtin, Sem.run_bind, Sem.run_pure, Result.andThen_ok, List.map_toArray, List.map_cons, List.map_nil, hs, hx]
  simp only [hr]
  exact hK' _ _ (h v' w' h1 h2 h3)
end

/-- numbers in memory of the call's own -/
def MadeI (w : World) (l : List Int) (e : Ending) (w' : World) : Prop := ∃ v, e = .returned v ∧ IRow w' v l ∧ Below w.heap.size w w' ∧ ∀ k, v.ownBlock = some k → w.heap.size ≤ k
theorem irow_new (w : World) : IRow (w.alloc (.cells #[] 2)) (.slice (some ⟨w.heap.size, 0, none⟩) 0 0) [] := by
  refine ⟨by simp, .inr ⟨w.heap.size, 0, #[], rfl, Nat.zero_le _, heap_alloc_new w _, Nat.le_refl _, by simp [maxLen], by simp, by simp⟩⟩
set_option maxRecDepth 100000 in
theorem cloneI_some (A : Addr) (c : Nat) (l : List Int) (w : World) (h : ILs w (some A) l) (hl : l.length ≤ 1099511627776) : Calls Tryz.prog 24 #[.slice (some A) l.length c] w (MadeI w l) := by
  have h1 := Lib.hid (h.below (below_box w (.cells #[] 2)))
  have h2 := Lib.hid (irow_new w)
  clear h
  have hn := fun w : World => Lib.run_eql_slice_nil (P := Tryz.prog) w 24 2 (some A) l.length c 0 0 Tryz.underlying24
  simp only [Option.isNone] at hn
  go_enter Tryz.func24, Tryz.ntmps24
  go_wp2_with (at_builtin; refine app_ints _ rfl (.tmp 5) (.tmp 6) rfl _ [] rfl h2.out A c l rfl h1.out (by simp; omega) ?_; intro v1 w1 h3 h4 h5)
  go_ret
  have hb : Below w.heap.size w w1 := (below_box w (.cells #[] 2)).grown h4 (by simp) (fun k e => Nat.le_of_eq (Option.some.inj e))
  refine ⟨v1, rfl, by simpa using h3, hb, fun k e => ?_⟩
  rcases h5 with h5 | h5
  · rw [h5] at e; exact Nat.le_of_eq (Option.some.inj e)
  · rw [h5] at e; have := Option.some.inj e; simp at this; omega
set_option maxRecDepth 100000 in
theorem cloneI_none (c : Nat) (w : World) : Calls Tryz.prog 24 #[.slice none 0 c] w (MadeI w []) := by
  have hn := fun w : World => Lib.run_eql_slice_nil (P := Tryz.prog) w 24 2 none 0 c 0 0 Tryz.underlying24
  simp only [Option.isNone] at hn
  go_enter Tryz.func24, Tryz.ntmps24
  go_wp2
  go_ret
  exact ⟨_, rfl, World.ownsRow_nil w 0 _ _, Below.refl _ _, fun k e => by cases e⟩
theorem cloneI (A : Option Addr) (c : Nat) (l : List Int) (w : World) (h : ILs w A l) (hl : l.length ≤ 1099511627776) : Calls Tryz.prog 24 #[.slice A l.length c] w (MadeI w l) := by
  cases A with
  | some A => exact cloneI_some A c l w h hl
  | none =>
    have : l = [] := by
      cases l with
      | nil => rfl
      | cons x l => obtain ⟨_, _, e, _⟩ := h (by simp); cases e
    subst this
    exact cloneI_none c w

section
variable {w : World} {S : Nat → Prop} {g : Nat} {m : Mc} {p : Mp}
theorem how_any (h : MIn w S g m p) : Calls Tryz.prog 14 #[.pointer (some ⟨g, 0, none⟩)] w fun e w' => e = .returned (.int .u8 m.how) ∧ w = w' := by
  have c := h.cells.2.2.2.2.2.2.1
  clear h
  go_enter Tryz.func14, Tryz.ntmps14
  go_wp2
  go_ret
  exact ⟨rfl, rfl⟩
set_option maxRecDepth 100000 in
theorem regs_any (h : MIn w S g m p) : Calls Tryz.prog 17 #[.pointer (some ⟨g, 0, none⟩)] w (MadeI w m.regs) := by
  have hlt := h.lt g h.mem
  have HC := Lib.hid (show Calls Tryz.prog 24 #[.slice (some ⟨g, 2, none⟩) 16 16] w (MadeI w m.regs) from by
    have := cloneI_some ⟨g, 2, none⟩ 16 m.regs w (fun _ => ⟨g, 2, rfl, hlt, fun j hj => by have := h.reg (r := j) (by rw [← h.regs]; exact hj); simpa [rg] using this⟩) (by rw [h.regs]; omega)
    rwa [h.regs] at this)
  clear h
  go_enter Tryz.func17, Tryz.ntmps17
  go_wp2_with fail
  refine HC.out.mono ?_
  rintro e w1 ⟨v, rfl, h1⟩
  obtain ⟨A1, c1, rfl⟩ := h1.1.form
  have H1 := Lib.hid h1
  clear h1
  go_wp2_with fail
  go_ret
  exact ⟨_, rfl, H1.out⟩
set_option maxRecDepth 100000 in
theorem out_any (h : MIn w S g m p) (hl : m.out.length ≤ 1099511627776) : Calls Tryz.prog 21 #[.pointer (some ⟨g, 0, none⟩)] w (MadeI w m.out) := by
  have c := h.cells.2.2.2.2.2.1
  obtain ⟨A, cc, hv, _, hls⟩ := h.out.ils
  have HC := Lib.hid (cloneI A cc m.out w hls hl)
  rw [hv] at c
  clear h hv hls
  go_enter Tryz.func21, Tryz.ntmps21
  go_wp2_with fail
  refine HC.out.mono ?_
  rintro e w1 ⟨v, rfl, h1⟩
  obtain ⟨A1, c1, rfl⟩ := h1.1.form
  have H1 := Lib.hid h1
  clear h1
  go_wp2_with fail
  go_ret
  exact ⟨_, rfl, H1.out⟩
/-- the number with which it halted -/
def haltB (m : Mc) : Bool := decide (m.how = 1)
def haltV (m : Mc) : Int := if haltB m = true then m.num else 0
set_option maxRecDepth 100000 in
theorem halted_any (h : MIn w S g m p) : Calls Tryz.prog 20 #[.pointer (some ⟨g, 0, none⟩)] w fun e w' => e = .returned (.tuple #[.int .i64 (haltV m), .bool (haltB m)]) ∧ w = w' := by
  have c := h.cells.2.2.2.2.2.2.2
  have HH := Lib.hid (how_any h)
  clear h
  by_cases h1 : m.how = 1
  · have HV := Lib.hid (show haltV m = m.num ∧ haltB m = true by simp [haltV, haltB, h1])
    rw [h1] at HH
    clear h1
    go_enter Tryz.func20, Tryz.ntmps20
    go_wp2_with fail
    refine HH.out.mono ?_
    rintro e w' ⟨rfl, rfl⟩
    go_wp2_with fail
    go_ret2
    rw [HV.out.1, HV.out.2]
    exact ⟨rfl, rfl⟩
  · have HV := Lib.hid (show haltV m = 0 ∧ haltB m = false by simp [haltV, haltB, h1])
    have b1 : (m.how != 1) = true := by simpa using h1
    clear h1
    go_enter Tryz.func20, Tryz.ntmps20
    go_wp2_with fail
    refine HH.out.mono ?_
    rintro e w' ⟨rfl, rfl⟩
    go_wp2_with fail
    go_ret2
    rw [HV.out.1, HV.out.2]
    exact ⟨rfl, rfl⟩
end

end Go.Proofs.YtdnpoeegefkoiaaGreat
