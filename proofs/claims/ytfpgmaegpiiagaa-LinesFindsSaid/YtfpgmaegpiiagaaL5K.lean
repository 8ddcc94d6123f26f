/-
  A row of ints of the call's own; contracts of lines.At and lines.Pcs.
-/
import Derived.Test.YtfpgmaegpiiagaaL5J
namespace Go.Proofs.Ytfpgmaegpiiagaa
open Go.RowKit

def nV (x : Int) : Value := .int .i64 x
theorem int_info : (Try.prog.info? 3).map (fun i => (i.zero, i.size, i.bytes)) = some (some (.int .i64 0), 1, 8) := by kernel_rfl
theorem nV_one (l : List Int) : ∀ u ∈ l.map nV, u.oneCell' = true := by
  intro u hu
  obtain ⟨x, _, rfl⟩ := List.mem_map.1 hu
  rfl
def NOwn (w : World) (B : Nat) (v : Value) (l : List Int) : Prop := w.ownsRow B 3 1 v l.length (l.map nV)
def NLies (w : World) (B : Nat) (A : Option Addr) (l : List Int) : Prop :=
  0 < l.length → ∃ g o, A = some ⟨g, o, none⟩ ∧ g < B ∧ ∀ j (h : j < l.length), w.cell? ⟨g, o + j, none⟩ = some (.int .i64 l[j])
theorem NLies.below {w w' : World} {B : Nat} {A : Option Addr} {l : List Int} (h : NLies w B A l) (hb : Below B w w') : NLies w' B A l := fun hl => by
  obtain ⟨g, o, e, hg, hc⟩ := h hl
  exact ⟨g, o, e, hg, fun j hj => (hb.cell hg).trans (hc j hj)⟩
theorem NLies.more {w : World} {B B' : Nat} {A : Option Addr} {l : List Int} (h : NLies w B A l) (hB : B ≤ B') : NLies w B' A l := fun hl => by
  obtain ⟨g, o, e, hg, hc⟩ := h hl
  exact ⟨g, o, e, by omega, hc⟩
theorem NLies.at_ {w : World} {B : Nat} {A : Option Addr} {l : List Int} (h : NLies w B A l) {j : Nat} (hj : j < l.length) : ∃ g o, A = some ⟨g, o, none⟩ ∧ g < B ∧ w.cell? ⟨g, o + j, none⟩ = some (.int .i64 l[j]) := by
  obtain ⟨g, o, e, hg, hc⟩ := h (by omega)
  exact ⟨g, o, e, hg, hc j hj⟩
theorem NOwn.nil (w : World) (B : Nat) : NOwn w B (.slice none 0 0) [] := World.ownsRow_nil w B _ _
theorem NOwn.lt {w : World} {B : Nat} {v : Value} {l : List Int} (h : NOwn w B v l) : ∀ k, v.ownBlock = some k → B ≤ k ∧ k < w.heap.size := by
  intro k e
  rcases h.2 with ⟨rfl, _⟩ | ⟨g, cap, cur, rfl, hB, hh, _⟩
  · cases e
  · injection e with e
    subst e
    rcases Nat.lt_or_ge g w.heap.size with h' | h'
    · exact ⟨hB, h'⟩
    · rw [Array.getElem?_eq_none h'] at hh; cases hh
theorem NOwn.form {w : World} {B : Nat} {v : Value} {l : List Int} (h : NOwn w B v l) : ∃ A c, v = .slice A l.length c ∧ l.length ≤ c ∧ NLies w w.heap.size A l := by
  have h' := h
  have hlt := h.lt
  rcases h.2 with ⟨rfl, h0⟩ | ⟨g, cap, cur, rfl, hg, hh, hn, _, hsz, ht⟩
  · have : l = [] := List.eq_nil_of_length_eq_zero h0
    subst this
    exact ⟨none, 0, rfl, Nat.le_refl _, fun h => absurd h (by simp)⟩
  · refine ⟨_, cap, rfl, hn, fun _ => ⟨g, 0, rfl, (hlt g rfl).2, fun j hj => ?_⟩⟩
    have := World.ownsRow.cellAt h' j (by simpa using hj)
    rw [Nat.zero_add, this]
    simp [nV, hj]
theorem NOwn.formN {w : World} {B : Nat} {v : Value} {l : List Int} (h : NOwn w B v l) : ∃ A n c, v = .slice A n c ∧ Hid (l.length = n) ∧ n ≤ c ∧ NLies w w.heap.size A l := by
  obtain ⟨A, c, e, h1, h2⟩ := h.form
  exact ⟨A, l.length, c, e, rfl, h1, h2⟩
theorem NOwn.below {w w' : World} {B : Nat} {v : Value} {l : List Int} (h : NOwn w B v l) (hb : Below w.heap.size w w') : NOwn w' B v l := by
  have hlt := h.lt
  refine ⟨h.1, ?_⟩
  rcases h.2 with h0 | ⟨g, cap, cur, rfl, hg, hh, r⟩
  · exact .inl h0
  · exact .inr ⟨g, cap, cur, rfl, hg, (hb.block g (hlt g rfl).2).trans hh, r⟩
theorem NOwn.kept {w w' : World} {B : Nat} {v : Value} {l : List Int} (h : NOwn w B v l) (hk : ∀ k, v.ownBlock = some k → w'.heap[k]? = w.heap[k]?) : NOwn w' B v l := by
  refine ⟨h.1, ?_⟩
  rcases h.2 with h0 | ⟨g, cap, cur, rfl, hg, hh, r⟩
  · exact .inl h0
  · exact .inr ⟨g, cap, cur, rfl, hg, (hk g rfl).trans hh, r⟩
theorem NOwn.base {w : World} {B B' : Nat} {v : Value} {l : List Int} (h : NOwn w B v l) (hB : B' ≤ B) : NOwn w B' v l := by
  refine ⟨h.1, ?_⟩
  rcases h.2 with h0 | ⟨g, cap, cur, rfl, hg, r⟩
  · exact .inl h0
  · exact .inr ⟨g, cap, cur, rfl, Nat.le_trans hB hg, r⟩
theorem below_ngrown {B : Nat} {w w1 w2 : World} {v : Value} {l : List Int} (hb : Below B w w1) (hg : w1.grownBy w2 v.ownBlock) (ho : NOwn w1 B v l) (hB : B ≤ w1.heap.size) : Below B w w2 :=
  hb.grown hg hB fun k hk => (ho.lt k hk).1
section
variable {ops : Array Oper} {rest : List Oper} {o : Oper} {a : Act} {Q : Exit → Act → World → Prop}
/-- append of one int onto such a row -/
theorem app_n (w : World) (hgd : o.guard = none) (s x : Operand) (ho : o.op = .call { callee := .builtin .append, args := #[s, x], argTypes := #[39, 39] })
    (B : Nat) (v : Value) (xs : List Int) (hs : a.eval s = v) (hown : NOwn w B v xs) (g c : Nat) (y : Int) (hx : a.eval x = .slice (some ⟨g, 0, none⟩) 1 c) (hy : w.cell? ⟨g, 0, none⟩ = some (.int .i64 y))
    (hn : xs.length ≤ 1099511627776) (hB : B ≤ w.heap.size) (h : ∀ v' w', NOwn w' B v' (xs ++ [y]) → w.grownBy w' v.ownBlock → wpList Try.prog ops Q rest (a.put o.dst v') w') : wpList Try.prog ops Q (o :: rest) a w := by
  obtain ⟨i0, hi0, hz0, hz1, hz2⟩ := info_parts int_info
  refine wpList_append_own w hgd s x 39 ho B 3 i0 _ 1 8 Try.underlying39 hi0 hz0 hz1 hz2 rfl (by omega) v xs.length (xs.map nV) hs hown ⟨g, 0, none⟩ 1 c ([y].map nV) hx rfl ?_ (nV_one _)
    (by simp only [maxLen]; omega) (by omega) hB fun v' w' h1 h2 _ => h v' w' ?_ h2
  · intro j u hu
    have hj : j = 0 := by have := (List.getElem?_eq_some_iff.1 hu).1; simp at this; omega
    subst hj
    rw [add_zero_off, hy]
    simpa [nV] using hu
  · show w'.ownsRow B _ 1 v' (xs ++ [y]).length ((xs ++ [y]).map nV)
    rw [List.map_append, List.length_append]
    simpa using h1
end

/-- the point of the first row with a pc, and whether there is one -/
def atX (l : List Rw) (x : Int) : Int := match l.find? (fun r => decide (r.pc = x)) with | some r => r.pt | none => 0
def atB (l : List Rw) (x : Int) : Bool := (l.find? (fun r => decide (r.pc = x))).isSome
theorem at_found {l : List Rw} {x : Int} {i : Nat} (hi : i < l.length) (hp : decide (l[i].pc = x) = true) (hno : ∀ j (hj : j < i), decide ((l[j]'(by omega)).pc = x) = false) : atX l x = l[i].pt ∧ atB l x = true := by
  have : l.find? (fun r => decide (r.pc = x)) = some l[i] := by
    rw [List.find?_eq_some_iff_getElem]
    exact ⟨hp, i, hi, rfl, fun j hj => by simpa using hno j hj⟩
  simp [atX, atB, this]
theorem at_none {l : List Rw} {x : Int} (hno : ∀ j (hj : j < l.length), decide (l[j].pc = x) = false) : atX l x = 0 ∧ atB l x = false := by
  have : l.find? (fun r => decide (r.pc = x)) = none := by
    rw [List.find?_eq_none]
    intro r hr
    obtain ⟨j, hj, rfl⟩ := List.getElem_of_mem hr
    simpa using hno j hj
  simp [atX, atB, this]
def AtR (l : List Rw) (x : Int) (w : World) (e : Ending) (w' : World) : Prop := e = .returned (.tuple #[.int .i64 (atX l x), .bool (atB l x)]) ∧ Below w.heap.size w w'

set_option maxRecDepth 100000 in
set_option maxHeartbeats 1000000 in
theorem at_any (A : Option Addr) (c : Nat) (l : List Rw) (x : Int) (w : World) (hn : l.length ≤ 1099511627776) (hc : l.length ≤ c) (h : RLies w w.heap.size A l) :
    Calls Try.prog 19 #[.slice A l.length c, .int .i64 x] w (AtR l x w) := by
  have hb0 := below_new w (.cells #[.int .i64 x] 3)
  have hx0 : (w.alloc (.cells #[.int .i64 x] 3)).cell? ⟨w.heap.size, 0, none⟩ = some (.int .i64 x) := by
    have := heap_alloc_new w (.cells #[.int .i64 x] 3)
    simp only [World.cell?, this]
    rfl
  have HF := Lib.hid (find_any 30 #[.pointer (some ⟨w.heap.size, 0, none⟩)] (fun r => decide (r.pc = x)) A c l _ hn hc (h.next hb0) enter_at
    (fun r w2 hb => at1_any r w.heap.size x w2 ((hb.cell (p := ⟨w.heap.size, 0, none⟩) (by simp)).trans hx0)))
  have HB0 := Lib.hid hb0
  clear hb0 hx0
  go_enter Try.func19, Try.ntmps19
  go_wp2_with fail
  refine HF.out.mono ?_
  rintro e w1 ⟨hb1, hcase⟩
  have HB1 := Lib.hid (HB0.out.trans (hb1.mono HB0.out.size))
  clear HF hb1
  rcases hcase with ⟨i, hi, A2, c2, rfl, hc2, hl2, hp, hno⟩ | ⟨rfl, hno⟩
  · obtain ⟨E1, E2⟩ := at_found hi hp hno
    have HE := Lib.hid (And.intro E1 E2)
    clear hp hno E1 E2
    unfold rv rK
    generalize l[i] = r at *
    go_wp2_with fail
    go_ret2
    unfold AtR
    rw [HE.out.1, HE.out.2]
    exact ⟨rfl, HB1.out.trans ((below_new w1 _).mono HB1.out.size)⟩
  · obtain ⟨E1, E2⟩ := at_none hno
    have HE := Lib.hid (And.intro E1 E2)
    clear hno E1 E2
    unfold rv rK r0
    go_wp2_with fail
    go_ret2
    unfold AtR
    rw [HE.out.1, HE.out.2]
    exact ⟨rfl, HB1.out.trans ((below_new w1 _).mono HB1.out.size)⟩
end Go.Proofs.Ytfpgmaegpiiagaa
