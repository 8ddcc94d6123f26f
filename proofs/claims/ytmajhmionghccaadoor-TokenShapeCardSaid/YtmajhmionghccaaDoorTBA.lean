/-
  Rows of bytes and of whole numbers of the call's own; what is laid of a source's tokens, as data.
-/
import Derived.Test.YtmajhmionghccaaDoorTKB
import Derived.Test.YtmajhmionghccaaDoorTKS
import Derived.Lib.AppendStr
import Derived.OwnWalk
namespace Go.Proofs.YtmajhmionghccaaDoor
open Go Go.RowKit

def eB : El UInt8 := ⟨5, 1, fun x => [b8 x], fun _ => rfl, fun x u hu => by rw [List.mem_singleton] at hu; subst hu; rfl, by omega⟩
theorem eB_of {w : World} {B : Nat} {A : Option Addr} {l : List UInt8} (h : Lies w B A l) : eB.Lies w B A l := fun hl => by
  obtain ⟨g, o, e, hg, hc⟩ := h hl
  refine ⟨g, o, e, hg, fun j hj f u hu => ?_⟩
  have hf : f = 0 := by
    have := (List.getElem?_eq_some_iff.1 hu).1
    simp [eB] at this
    omega
  subst hf
  have hu2 : b8 l[j] = u := by simpa [eB] using hu
  subst hu2
  show w.cell? ⟨g, o + (j * 1 + 0), none⟩ = _
  rw [Nat.mul_one, Nat.add_zero]
  exact hc j hj
theorem eB_to {w : World} {B : Nat} {A : Option Addr} {l : List UInt8} (h : eB.Lies w B A l) : Lies w B A l := fun hl => by
  obtain ⟨g, o, e, hg, hc⟩ := h hl
  refine ⟨g, o, e, hg, fun j hj => ?_⟩
  have := hc j hj 0 (b8 l[j]) rfl
  have e2 : o + (j * eB.sz + 0) = o + j := by simp [eB]
  rw [e2] at this
  exact this
theorem eB_flat (l : List UInt8) : l.flatMap eB.f = l.map b8 := by
  induction l with
  | nil => rfl
  | cons x l ih => rw [List.flatMap_cons, ih]; rfl
theorem own_eB {w : World} {B : Nat} {v : Value} {l : List UInt8} (h : Own w B v l) : eB.Own w B v l := by
  have := h.row
  unfold El.Own
  rw [eB_flat]
  exact this
section
variable {ops : Array Oper} {rest : List Oper} {o : Oper} {a : Act} {Q : Exit → Act → World → Prop}
theorem app_eB (w : World) (hgd : o.guard = none) (s x : Operand) (ho : o.op = .call { callee := .builtin .append, args := #[s, x], argTypes := #[22, 22] })
    (B : Nat) (v : Value) (l : List UInt8) (hs : a.eval s = v) (hown : eB.Own w B v l) (A : Option Addr) (c : Nat) (L : Nat) (l2 : List UInt8) (hx : a.eval x = .slice A l2.length c) (hc0 : A = none → c = 0) (hy : Lies w L A l2)
    (hn : l.length + l2.length ≤ 1099511627776) (hB : B ≤ w.heap.size) (h : ∀ v' w', eB.Own w' B v' (l ++ l2) → w.grownBy w' v.ownBlock → wpList Tryd.prog ops Q rest (a.put o.dst v') w') : wpList Tryd.prog ops Q (o :: rest) a w :=
  El.apps eB w hgd 22 (.int .u8 0) 1 Tryd.underlying22 u8_info rfl (by omega) s x ho B v l hs hown A c L l2 hx hc0 (eB_of hy) hn (by show _ * 1 ≤ _; omega) hB h
theorem app_eStr (w : World) (hgd : o.guard = none) (s x : Operand) (ho : o.op = .call { callee := .builtin .append, args := #[s, x], argTypes := #[22, 9] })
    (B : Nat) (v : Value) (l : List UInt8) (hs : a.eval s = v) (hown : eB.Own w B v l)
    (l2 : List UInt8) (hx : a.eval x = .string (str l2)) (hsz : l.length + l2.length ≤ 1099511627776) (hB : B ≤ w.heap.size)
    (h : ∀ v' w', eB.Own w' B v' (l ++ l2) → w.grownBy w' v.ownBlock → wpList Tryd.prog ops Q rest (a.put o.dst v') w') : wpList Tryd.prog ops Q (o :: rest) a w := by
  obtain ⟨i0, hi0, hz0, hz1, hz2⟩ := info_parts u8_info
  have hsize : (str l2).size = l2.length := by simp [str, ByteArray.size]
  refine Lib.wpList_append_own_string w hgd s x 22 9 ho B 5 i0 Tryd.underlying22 Tryd.underlying9 hi0 hz0 hz1 hz2 v l.length (l.flatMap eB.f) hs hown (str l2) hx (by rw [hsize]; simp only [maxLen]; omega) (by rw [hsize]; omega) hB
    fun v' w' h1 h2 _ => h v' w' ?_ h2
  show w'.ownsRow B 5 1 v' (l ++ l2).length ((l ++ l2).flatMap eB.f)
  rw [List.length_append, List.flatMap_append]
  rw [hsize] at h1
  have e : l2.flatMap eB.f = Lib.strCells (str l2) := by rw [eB_flat]; rfl
  rw [e]
  exact h1
end

def eI : El Int := ⟨3, 1, fun i => [.int .i64 i], fun _ => rfl, fun x u hu => by rw [List.mem_singleton] at hu; subst hu; rfl, by omega⟩
theorem int_info : (Tryd.prog.info? 3).map (fun i => (i.zero, i.size, i.bytes)) = some (some (.int .i64 0), 1, 8) := by kernel_rfl
/-- the blanks that are laid ahead of a token -/
def blk (bw : List UInt8) (i : Nat) : List UInt8 := blankL.getD (((bw[i]?).map fun x => x.toNat % 5).getD 0) [32]
theorem blk_in (bw : List UInt8) (i : Nat) : blk bw i ∈ blankL := by
  unfold blk
  have h : ∀ k, k < 5 → blankL.getD k [32] ∈ blankL := by
    intro k hk
    have : k = 0 ∨ k = 1 ∨ k = 2 ∨ k = 3 ∨ k = 4 := by omega
    rcases this with rfl | rfl | rfl | rfl | rfl <;> decide
  apply h
  cases bw[i]? with
  | none => simp
  | some x => simp; omega
theorem blank_len : ∀ b ∈ blankL, b.length ≤ 14 := by decide
def psOf (bw : List UInt8) : Nat → List Tk → List (List UInt8 × Tk)
  | _, [] => []
  | i, t :: ts => (blk bw i, t) :: psOf bw (i + 1) ts
theorem psOf_len (bw : List UInt8) : ∀ (i : Nat) (ts : List Tk), (psOf bw i ts).length = ts.length
  | _, [] => rfl
  | i, t :: ts => by simp [psOf, psOf_len bw (i + 1) ts]
theorem psOf_snd (bw : List UInt8) : ∀ (i : Nat) (ts : List Tk), (psOf bw i ts).map (·.2) = ts
  | _, [] => rfl
  | i, t :: ts => by simp [psOf, psOf_snd bw (i + 1) ts]
theorem psOf_take (bw : List UInt8) : ∀ (i : Nat) (ts : List Tk) (k : Nat) (h : k < ts.length), (psOf bw i ts).take (k + 1) = (psOf bw i ts).take k ++ [(blk bw (i + k), ts[k])]
  | _, [], k, h => by simp at h
  | i, t :: ts, 0, _ => by simp [psOf]
  | i, t :: ts, k + 1, h => by
    have := psOf_take bw (i + 1) ts k (by simpa using h)
    simp only [psOf, List.take_succ_cons, this, List.cons_append, List.getElem_cons_succ]
    rw [show i + 1 + k = i + (k + 1) by omega]
theorem psOf_in (bw : List UInt8) : ∀ (i : Nat) (ts : List Tk), ∀ p ∈ psOf bw i ts, p.1 ∈ blankL ∧ p.2 ∈ ts
  | _, [] => by simp [psOf]
  | i, t :: ts => by
    intro p hp
    rcases List.mem_cons.1 hp with rfl | hp
    · exact ⟨blk_in _ _, by simp⟩
    · have := psOf_in bw (i + 1) ts p hp
      exact ⟨this.1, List.mem_cons_of_mem _ this.2⟩
theorem lay_snoc (ps : List (List UInt8 × Tk)) (p : List UInt8 × Tk) : lay (ps ++ [p]) = (lay ps ++ p.1) ++ p.2.tx := by
  induction ps with
  | nil => simp [lay]
  | cons q ps ih => simp only [List.cons_append, lay, ih, List.append_assoc]
theorem lines_snoc : ∀ (ps : List (List UInt8 × Tk)) (p : List UInt8 × Tk) (k : Nat), (∀ q ∈ ps, nl q.2.tx = 0) → linesT k (ps ++ [p]) = linesT k ps ++ [{ p.2 with ln := k + nl (lay ps) + nl p.1 }]
  | [], p, k, _ => by simp [linesT, lay, nl_nil]
  | q :: ps, p, k, h => by
    have h0 := h q (by simp)
    simp only [List.cons_append, linesT, lines_snoc ps p (k + nl q.1) fun x hx => h x (List.mem_cons_of_mem _ hx), lay, nl_append, h0, Nat.zero_add]
    rw [show k + nl q.1 + nl (lay ps) = k + (nl q.1 + nl (lay ps)) by omega]
theorem lines_len : ∀ (k : Nat) (ps : List (List UInt8 × Tk)), (linesT k ps).length = ps.length
  | _, [] => rfl
  | k, p :: ps => by simp [linesT, lines_len (k + nl p.1) ps]
theorem lines_key : ∀ (k : Nat) (ps : List (List UInt8 × Tk)), (linesT k ps).map Tk.key = (ps.map (·.2)).map Tk.key
  | _, [] => rfl
  | k, p :: ps => by simp [linesT, lines_key (k + nl p.1) ps, Tk.key]
theorem lay_len : ∀ (ps : List (List UInt8 × Tk)), (∀ p ∈ ps, p.1 ∈ blankL ∧ p.2.tx.length ≤ 4096) → (lay ps).length ≤ ps.length * 4110
  | [], _ => by simp [lay]
  | p :: ps, h => by
    have h1 := blank_len p.1 (h p (by simp)).1
    have h2 := (h p (by simp)).2
    have h3 := lay_len ps fun q hq => h q (List.mem_cons_of_mem _ hq)
    simp only [lay, List.length_append, List.length_cons]
    omega
end Go.Proofs.YtmajhmionghccaaDoor
