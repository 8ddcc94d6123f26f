/-
  Rows of ints of the call's own; bounds in memory; a number read, by the cases of what leb.U tells.
-/
import Derived.Test.YtpbopehhalicjaaU8D
import Derived.Test.YtpbopehhalicjaaU2E
import Derived.Test.YtpbopehhalicjaaI3K
import Derived.Test.YtpbopehhalicjaaKS
import Derived.Deep.Grids
namespace Go.Proofs.Ytpbopehhalicjaa
open Go Go.RowKit

def n7 (x : Int) : Value := .int .i64 x
theorem int_info7 : (Try.prog.info? 3).map (fun i => (i.zero, i.size, i.bytes)) = some (some (.int .i64 0), 1, 8) := by kernel_rfl
theorem n7_one (l : List Int) : ∀ u ∈ l.map n7, u.oneCell' = true := by
  intro u hu
  obtain ⟨x, _, rfl⟩ := List.mem_map.1 hu
  rfl
def NRow (w : World) (B : Nat) (v : Value) (l : List Int) : Prop := w.ownsRow B 3 1 v l.length (l.map n7)
def NLies7 (w : World) (B : Nat) (A : Option Addr) (l : List Int) : Prop :=
  0 < l.length → ∃ g o, A = some ⟨g, o, none⟩ ∧ g < B ∧ ∀ j (h : j < l.length), w.cell? ⟨g, o + j, none⟩ = some (.int .i64 l[j])
theorem NLies7.below {w w' : World} {B : Nat} {A : Option Addr} {l : List Int} (h : NLies7 w B A l) (hb : Below B w w') : NLies7 w' B A l := fun hl => by
  obtain ⟨g, o, e, hg, hc⟩ := h hl
  exact ⟨g, o, e, hg, fun j hj => (hb.cell hg).trans (hc j hj)⟩
theorem NLies7.more {w : World} {B B' : Nat} {A : Option Addr} {l : List Int} (h : NLies7 w B A l) (hB : B ≤ B') : NLies7 w B' A l := fun hl => by
  obtain ⟨g, o, e, hg, hc⟩ := h hl
  exact ⟨g, o, e, by omega, hc⟩
theorem NLies7.at_ {w : World} {B : Nat} {A : Option Addr} {l : List Int} (h : NLies7 w B A l) {j : Nat} (hj : j < l.length) : ∃ g o, A = some ⟨g, o, none⟩ ∧ g < B ∧ w.cell? ⟨g, o + j, none⟩ = some (.int .i64 l[j]) := by
  obtain ⟨g, o, e, hg, hc⟩ := h (by omega)
  exact ⟨g, o, e, hg, hc j hj⟩
theorem NRow.empty (w : World) : NRow (w.alloc (.cells #[] 3)) w.heap.size (.slice (some ⟨w.heap.size, 0, none⟩) 0 0) [] := by
  refine ⟨rfl, .inr ⟨w.heap.size, 0, _, rfl, Nat.le_refl _, heap_alloc_new w _, Nat.le_refl _, by simp [maxLen], by simp, by simp⟩⟩
theorem NRow.nil (w : World) (B : Nat) : NRow w B (.slice none 0 0) [] := World.ownsRow_nil w B _ _
theorem NRow.lt {w : World} {B : Nat} {v : Value} {l : List Int} (h : NRow w B v l) : ∀ k, v.ownBlock = some k → B ≤ k ∧ k < w.heap.size := by
  intro k e
  rcases h.2 with ⟨rfl, _⟩ | ⟨g, cap, cur, rfl, hB, hh, _⟩
  · cases e
  · injection e with e
    subst e
    rcases Nat.lt_or_ge g w.heap.size with h' | h'
    · exact ⟨hB, h'⟩
    · rw [Array.getElem?_eq_none h'] at hh; cases hh
theorem NRow.form {w : World} {B : Nat} {v : Value} {l : List Int} (h : NRow w B v l) : ∃ A c, v = .slice A l.length c ∧ l.length ≤ c ∧ (A = none → c = 0) ∧ NLies7 w w.heap.size A l := by
  have h' := h
  have hlt := h.lt
  rcases h.2 with ⟨rfl, h0⟩ | ⟨g, cap, cur, rfl, hg, hh, hn, _, hsz, ht⟩
  · have : l = [] := List.eq_nil_of_length_eq_zero h0
    subst this
    exact ⟨none, 0, rfl, Nat.le_refl _, fun _ => rfl, fun h => absurd h (by simp)⟩
  · refine ⟨_, cap, rfl, hn, fun e => (by cases e), fun _ => ⟨g, 0, rfl, (hlt g rfl).2, fun j hj => ?_⟩⟩
    have := World.ownsRow.cellAt h' j (by simpa using hj)
    rw [Nat.zero_add, this]
    simp [n7, hj]
theorem NRow.below {w w' : World} {B : Nat} {v : Value} {l : List Int} (h : NRow w B v l) (hb : Below w.heap.size w w') : NRow w' B v l := by
  have hlt := h.lt
  refine ⟨h.1, ?_⟩
  rcases h.2 with h0 | ⟨g, cap, cur, rfl, hg, hh, r⟩
  · exact .inl h0
  · exact .inr ⟨g, cap, cur, rfl, hg, (hb.block g (hlt g rfl).2).trans hh, r⟩
theorem NRow.base {w : World} {B B' : Nat} {v : Value} {l : List Int} (h : NRow w B v l) (hB : B' ≤ B) : NRow w B' v l := by
  refine ⟨h.1, ?_⟩
  rcases h.2 with h0 | ⟨g, cap, cur, rfl, hg, r⟩
  · exact .inl h0
  · exact .inr ⟨g, cap, cur, rfl, Nat.le_trans hB hg, r⟩
theorem run_app_n (w : World) (B : Nat) (ty : TypeId) (v : Value) (xs : List Int) (hown : NRow w B v xs) (A : Option Addr) (c : Nat) (C : Nat) (ys : List Int) (hc0 : A = none → c = 0) (hy : NLies7 w C A ys)
    (hn : xs.length + ys.length ≤ 1099511627776) (hB : B ≤ w.heap.size) : ∃ v' w', (Builtin.append_ #[67, 67] ty #[v, .slice A ys.length c]).run Try.prog w = .ok v' w' ∧ NRow w' B v' (xs ++ ys) ∧ w.grownBy w' v.ownBlock := by
  obtain ⟨i0, hi0, hz0, hz1, hz2⟩ := info_parts int_info7
  rcases A with _ | ad
  · have h0 : ys = [] := by
      rcases ys with _ | ⟨y, ys⟩
      · rfl
      · obtain ⟨g, o, e, _⟩ := hy (by simp)
        cases e
    subst h0
    obtain rfl := hc0 rfl
    exact ⟨v, w, run_append_owned_none (P := Try.prog) w B 67 ty 3 i0 1 Try.underlying67 hi0 v xs.length (xs.map n7) hown, by simpa using hown, World.grownBy.refl _ _⟩
  · obtain ⟨v', w', hrun, r1, r2, _⟩ := run_append_own (P := Try.prog) w B 67 ty 3 i0 _ 1 8 Try.underlying67 hi0 hz0 hz1 hz2 rfl (by omega) v xs.length (xs.map n7) hown ad ys.length c (ys.map n7) (by simp) (by
      intro j u hu
      have hj : j < ys.length := by have := (List.getElem?_eq_some_iff.1 hu).1; simpa using this
      obtain ⟨g', o', e, _, hc⟩ := hy (by omega)
      cases e
      rw [add_zero_off, hc j hj]
      simpa [n7, hj] using hu) (n7_one ys) (by simp only [maxLen]; omega) (by omega) hB
    refine ⟨v', w', hrun, ?_, r2⟩
    show w'.ownsRow B _ 1 v' (xs ++ ys).length ((xs ++ ys).map n7)
    rw [List.map_append, List.length_append]
    simpa using r1
section
variable {ops : Array Oper} {rest : List Oper} {o : Oper} {a : Act} {K : Act → World → Prop} {Q : Exit → Act → World → Prop}
theorem op_app_n (w : World) (s x : Operand) (ho : o.op = .call { callee := .builtin .append, args := #[s, x], argTypes := #[67, 67] })
    (B : Nat) (v : Value) (xs : List Int) (hs : a.eval s = v) (hown : NRow w B v xs) (A : Option Addr) (c : Nat) (C : Nat) (ys : List Int) (hx : a.eval x = .slice A ys.length c) (hc0 : A = none → c = 0) (hy : NLies7 w C A ys)
    (hn : xs.length + ys.length ≤ 1099511627776) (hB : B ≤ w.heap.size) (h : ∀ v' w', NRow w' B v' (xs ++ ys) → w.grownBy w' v.ownBlock → K (a.put o.dst v') w') : Oper.wp Try.prog o a w K Q := by
  obtain ⟨v', w', hrun, r1, r2⟩ := run_app_n w B o.type v xs hown A c C ys hc0 hy hn hB
  unfold Oper.wp execOp
  simp only [ho, resolve, invoke, builtin, Sem.run_bind, Sem.run_pure, Result.andThen_ok, List.map_toArray, List.map_cons, List.map_nil, hs, hx, hrun]
  exact h v' w' r1 r2
theorem app_n7 (w : World) (hgd : o.guard = none) (s x : Operand) (ho : o.op = .call { callee := .builtin .append, args := #[s, x], argTypes := #[67, 67] })
    (B : Nat) (v : Value) (xs : List Int) (hs : a.eval s = v) (hown : NRow w B v xs) (A : Option Addr) (c : Nat) (C : Nat) (ys : List Int) (hx : a.eval x = .slice A ys.length c) (hc0 : A = none → c = 0) (hy : NLies7 w C A ys)
    (hn : xs.length + ys.length ≤ 1099511627776) (hB : B ≤ w.heap.size) (h : ∀ v' w', NRow w' B v' (xs ++ ys) → w.grownBy w' v.ownBlock → wpList Try.prog ops Q rest (a.put o.dst v') w') : wpList Try.prog ops Q (o :: rest) a w :=
  wpList_plain hgd fun _ hK' => op_app_n w s x ho B v xs hs hown A c C ys hx hc0 hy hn hB (fun v' w' r1 r2 => hK' _ _ (h v' w' r1 r2))
end

theorem NRow.formN {w : World} {B : Nat} {v : Value} {l : List Int} (h : NRow w B v l) : ∃ A n c, v = .slice A n c ∧ Hid (l.length = n) ∧ n ≤ c ∧ (A = none → c = 0) ∧ NLies7 w w.heap.size A l := by
  obtain ⟨A, c, e, h1, h2, h3⟩ := h.form
  exact ⟨A, l.length, c, e, rfl, h1, h2, h3⟩
theorem below_nrow {B : Nat} {w w1 w2 : World} {v : Value} {l : List Int} (hb : Below B w w1) (hg : w1.grownBy w2 v.ownBlock) (ho : NRow w1 B v l) (hB : B ≤ w1.heap.size) : Below B w w2 :=
  hb.grown hg hB fun k hk => (ho.lt k hk).1
def nI (l : List Nat) : List Int := l.map (fun (x : Nat) => (x : Int))
theorem nI_len (l : List Nat) : (nI l).length = l.length := List.length_map _
theorem nI_snoc (l : List Nat) (x : Nat) : nI (l ++ [x]) = nI l ++ [(x : Int)] := by simp [nI]
/-- bounds that lie -/
def ULies (w : World) (B : Nat) (A : Option Addr) (l : List Nat) : Prop :=
  0 < l.length → ∃ g o, A = some ⟨g, o, none⟩ ∧ g < B ∧ ∀ j (h : j < l.length), w.cell? ⟨g, o + j, none⟩ = some (.int .u64 (l[j] : Int))
theorem ULies.below {w w' : World} {B : Nat} {A : Option Addr} {l : List Nat} (h : ULies w B A l) (hb : Below B w w') : ULies w' B A l := fun hl => by
  obtain ⟨g, o, e, hg, hc⟩ := h hl
  exact ⟨g, o, e, hg, fun j hj => (hb.cell hg).trans (hc j hj)⟩
theorem ULies.at_ {w : World} {B : Nat} {A : Option Addr} {l : List Nat} (h : ULies w B A l) {j : Nat} (hj : j < l.length) : ∃ g o, A = some ⟨g, o, none⟩ ∧ g < B ∧ w.cell? ⟨g, o + j, none⟩ = some (.int .u64 (l[j] : Int)) := by
  obtain ⟨g, o, e, hg, hc⟩ := h (by omega)
  exact ⟨g, o, e, hg, hc j hj⟩
theorem ulies_one (w : World) (x : Nat) (z : Int) (hz : z = x) : ULies (w.alloc (.cells #[.int .u64 z] 58)) (w.alloc (.cells #[.int .u64 z] 58)).heap.size (some ⟨w.heap.size, 0, none⟩) [x] := fun _ => ⟨w.heap.size, 0, rfl, by simp, fun j hj => by
  subst hz
  have h := heap_alloc_new w (.cells #[.int .u64 (x : Int)] 58)
  obtain rfl : j = 0 := by simp at hj; omega
  simp only [World.cell?, h]
  rfl⟩
theorem ulies_four (w : World) (x0 x1 x2 x3 : Nat) (z0 z1 z2 z3 : Int) (h0 : z0 = x0) (h1 : z1 = x1) (h2 : z2 = x2) (h3 : z3 = x3) : ULies (w.alloc (.cells #[.int .u64 z0, .int .u64 z1, .int .u64 z2, .int .u64 z3] 58)) (w.alloc (.cells #[.int .u64 z0, .int .u64 z1, .int .u64 z2, .int .u64 z3] 58)).heap.size (some ⟨w.heap.size, 0, none⟩) [x0, x1, x2, x3] := fun _ => ⟨w.heap.size, 0, rfl, by simp, fun j hj => by
  subst h0; subst h1; subst h2; subst h3
  have h := heap_alloc_new w (.cells #[.int .u64 (x0 : Int), .int .u64 (x1 : Int), .int .u64 (x2 : Int), .int .u64 (x3 : Int)] 58)
  simp only [World.cell?, h, Nat.zero_add]
  have hj' : j = 0 ∨ j = 1 ∨ j = 2 ∨ j = 3 := by simp at hj; omega
  rcases hj' with rfl | rfl | rfl | rfl <;> rfl⟩
theorem nlies_one (w : World) (x : Int) : NLies7 (w.alloc (.cells #[.int .i64 x] 3)) (w.alloc (.cells #[.int .i64 x] 3)).heap.size (some ⟨w.heap.size, 0, none⟩) [x] := fun _ => ⟨w.heap.size, 0, rfl, by simp, fun j hj => by
  have h := heap_alloc_new w (.cells #[.int .i64 x] 3)
  obtain rfl : j = 0 := by simp at hj; omega
  simp only [World.cell?, h]
  rfl⟩

def URet (A : Option Addr) (c : Nat) (b : List UInt8) (k : Nat) (X N E : Int) : Prop :=
  ∀ w : World, Lies w w.heap.size A b → Calls Try.prog 19 #[.slice A b.length c, .int .i64 k] w fun e w' => e = .returned (.tuple #[.int .u64 X, .int .i64 N, .int .i64 E]) ∧ w = w'
theorem u8_cases (M : Nat) (A : Option Addr) (c : Nat) (b : List UInt8) (k : Nat) (hk : k ≤ b.length) (hn : b.length ≤ 1099511627776) :
    (∃ x n : Nat, num8 M b k = some (x, n) ∧ k + 1 ≤ n ∧ n ≤ b.length ∧ x ≤ M ∧ URet A c b k x n 0) ∨ (num8 M b k = none ∧ ((∃ X N : Int, URet A c b k X N 5) ∨ ∃ X N : Int, (M : Int) < X ∧ X < 18446744073709551616 ∧ URet A c b k X N 0)) := by
  by_cases hg : good false (b.drop k)
  · obtain ⟨q1, q2, q3⟩ := rd_ok hk hg
    have hr := hv_rng hg
    simp only [rng, Bool.false_eq_true, if_false] at hr
    by_cases h16 : hv false (b.drop k) ≤ M
    · have h1 : num8 M b k = some ((hv false (b.drop k)).toNat, k + lg (b.drop k) 10) := if_pos ⟨hg, h16⟩
      obtain ⟨_, h3, h4, h5, h6, h7, _⟩ := num8_has h1
      refine .inl ⟨_, _, h1, h5, h6, h7, fun w hw => ?_⟩
      have := U_any A c b k w w.heap.size hn hw
      rw [q1, q2, q3, h3] at this
      exact this
    · refine .inr ⟨if_neg (fun q => h16 q.2), .inr ⟨hv false (b.drop k), k + lg (b.drop k) 10, by omega, hr.2, fun w hw => ?_⟩⟩
      have := U_any A c b k w w.heap.size hn hw
      rw [q1, q2, q3] at this
      exact this
  · obtain ⟨q1, q2, q3⟩ := rd_form hk hg
    refine .inr ⟨if_neg (fun q => hg q.1), .inl ⟨0, 0, fun w hw => ?_⟩⟩
    have := U_any A c b k w w.heap.size hn hw
    rw [q1, q2, q3] at this
    exact this
end Go.Proofs.Ytpbopehhalicjaa
