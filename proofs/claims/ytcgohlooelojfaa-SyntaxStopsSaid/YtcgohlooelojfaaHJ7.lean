/-
  Merged for a claim: SYT, GC, GD.
-/
import Derived.Test.YtcgohlooelojfaaHSYS
import Derived.Test.YtcgohlooelojfaaHGA
import Derived.Great.BuildSlice
namespace Go.Proofs.Ytcgohlooelojfaa
open Go Go.RowKit

/-- a statement as a tree in memory: where its parts and lists lie -/
inductive XS where
  | mk (kd ln : Int) (nm fl cl : List UInt8) (ty : Ty) (kA : Option Addr) (kc : Nat) (ks : List XT) (bA : Option Addr) (bc : Nat) (bd : List XS) (eA : Option Addr) (ec : Nat) (el : List XS)
def XS.cs : XS → List Value
  | .mk kd ln nm fl cl ty kA kc ks bA bc bd eA ec el => [.int .u8 kd, .int .i64 ln, .string (str nm), .string (str fl), .string (str cl), .int .u8 ty.kd, .int .i64 ty.n, .string (str ty.nm), .slice kA ks.length kc, .slice bA bd.length bc, .slice eA el.length ec]
def sV (t : XS) : Value := .agg t.cs.toArray
def eSt : El XS := ⟨53, 11, XS.cs, fun x => by cases x; rfl, fun x u hu => by
  cases x
  simp [XS.cs] at hu
  rcases hu with rfl | rfl | rfl | rfl | rfl | rfl | rfl | rfl | rfl | rfl | rfl <;> rfl, by omega⟩
theorem st_info : (Try.prog.info? 53).map (fun i => (i.zero, i.size, i.bytes)) = some (some (.agg #[.int .u8 0, .int .i64 0, .string ⟨#[]⟩, .string ⟨#[]⟩, .string ⟨#[]⟩, .int .u8 0, .int .i64 0, .string ⟨#[]⟩, .slice none 0 0, .slice none 0 0, .slice none 0 0]), 11, 168) := by kernel_rfl
mutual
def XS.d : XS → St
  | .mk kd ln nm fl cl ty _ _ ks _ _ bd _ _ el => .mk kd ln nm fl cl ty (xsd ks) (xssd bd) (xssd el)
def xssd : List XS → List St
  | [] => []
  | x :: l => x.d :: xssd l
end
theorem xssd_map (l : List XS) : xssd l = l.map XS.d := by
  induction l with
  | nil => rfl
  | cons x l ih => rw [xssd, ih]; rfl
/-- a row whose things lie in a block of their type, of which P holds -/
def RowP {α : Type} (K : El α) (w : World) (P : Nat → Prop) (A : Option Addr) (c : Nat) (xs : List α) : Prop :=
  K.LiesT w A xs ∧ xs.length ≤ c ∧ (A = none → c = 0) ∧ (0 < xs.length → ∀ a, A = some a → P a.block)
mutual
def XS.Ok (w : World) (P : Nat → Prop) : XS → Prop
  | .mk _ _ _ _ _ _ kA kc ks bA bc bd eA ec el => (RowP eX w P kA kc ks ∧ RowP eSt w P bA bc bd ∧ RowP eSt w P eA ec el) ∧ xsOk w P ks ∧ xssOk w P bd ∧ xssOk w P el
def xssOk (w : World) (P : Nat → Prop) : List XS → Prop
  | [] => True
  | x :: l => x.Ok w P ∧ xssOk w P l
end
section
variable {w w' : World} {P Q : Nat → Prop}
theorem RowP.keep {α : Type} {K : El α} {A : Option Addr} {c : Nat} {xs : List α} (h : RowP K w P A c xs) (hk : ∀ g, P g → HasT w g K.e → w'.heap[g]? = w.heap[g]?) (hm : ∀ g, P g → Q g) : RowP K w' Q A c xs :=
  ⟨liesP_keep h.1 h.2.2.2 hk, h.2.1, h.2.2.1, fun hl a e => hm _ (h.2.2.2 hl a e)⟩
theorem RowP.low {α : Type} {K : El α} {A : Option Addr} {c : Nat} {xs : List α} (h : RowP K w P A c xs) : RowP K w (fun g => P g ∧ g < w.heap.size) A c xs :=
  ⟨h.1, h.2.1, h.2.2.1, fun hl a e => ⟨h.2.2.2 hl a e, by
    obtain ⟨g, o, e2, hg, _⟩ := h.1 hl
    rw [e] at e2
    injection e2 with e2
    subst e2
    exact hg.lt⟩⟩
mutual
theorem XS.Ok.keep (h1 : ∀ g, P g → HasT w g 55 → w'.heap[g]? = w.heap[g]?) (h2 : ∀ g, P g → HasT w g 53 → w'.heap[g]? = w.heap[g]?) (hm : ∀ g, P g → Q g) : ∀ (t : XS), t.Ok w P → t.Ok w' Q
  | .mk _ _ _ _ _ _ _ _ ks _ _ bd _ _ el, h => by
    rw [XS.Ok] at h ⊢
    exact ⟨⟨h.1.1.keep h1 hm, h.1.2.1.keep h2 hm, h.1.2.2.keep h2 hm⟩, xsOk.keep h1 hm ks h.2.1, xssOk.keep h1 h2 hm bd h.2.2.1, xssOk.keep h1 h2 hm el h.2.2.2⟩
theorem xssOk.keep (h1 : ∀ g, P g → HasT w g 55 → w'.heap[g]? = w.heap[g]?) (h2 : ∀ g, P g → HasT w g 53 → w'.heap[g]? = w.heap[g]?) (hm : ∀ g, P g → Q g) : ∀ (l : List XS), xssOk w P l → xssOk w' Q l
  | [], _ => by rw [xssOk]; trivial
  | x :: l, h => by
    rw [xssOk] at h ⊢
    exact ⟨XS.Ok.keep h1 h2 hm x h.1, xssOk.keep h1 h2 hm l h.2⟩
end
mutual
theorem XS.Ok.low : ∀ (t : XS), t.Ok w P → t.Ok w (fun g => P g ∧ g < w.heap.size)
  | .mk _ _ _ _ _ _ _ _ ks _ _ bd _ _ el, h => by
    rw [XS.Ok] at h ⊢
    exact ⟨⟨h.1.1.low, h.1.2.1.low, h.1.2.2.low⟩, xsOk.low ks h.2.1, xssOk.low bd h.2.2.1, xssOk.low el h.2.2.2⟩
theorem xssOk.low : ∀ (l : List XS), xssOk w P l → xssOk w (fun g => P g ∧ g < w.heap.size) l
  | [], _ => by rw [xssOk]; trivial
  | x :: l, h => by
    rw [xssOk] at h ⊢
    exact ⟨XS.Ok.low x h.1, xssOk.low l h.2⟩
end
theorem XS.Ok.below {t : XS} (h : t.Ok w P) (hb : Below w.heap.size w w') : t.Ok w' P := XS.Ok.keep (fun g _ hg => hb.block g hg.lt) (fun g _ hg => hb.block g hg.lt) (fun _ h => h) t h
theorem XS.Ok.up {t : XS} (h : t.Ok w P) (hm : ∀ g, P g → Q g) : t.Ok w Q := XS.Ok.keep (fun _ _ _ => rfl) (fun _ _ _ => rfl) hm t h
theorem xssOk.all {l : List XS} (h : xssOk w P l) : ∀ x ∈ l, x.Ok w P := by
  induction l with
  | nil => intro x hx; cases hx
  | cons y l ih =>
    rw [xssOk] at h
    intro x hx
    rcases List.mem_cons.1 hx with rfl | hx
    · exact h.1
    · exact ih h.2 x hx
theorem xssOk.of {l : List XS} (h : ∀ x ∈ l, x.Ok w P) : xssOk w P l := by
  induction l with
  | nil => rw [xssOk]; trivial
  | cons y l ih =>
    rw [xssOk]
    exact ⟨h y (by simp), ih fun x hx => h x (List.mem_cons_of_mem _ hx)⟩
end
end Go.Proofs.Ytcgohlooelojfaa

namespace Go.Proofs.Ytcgohlooelojfaa
open Go.ChangeShapes Go.WideShapes Go.ChangeAt Go.RowKit Go.Deep

namespace El
variable {α : Type} {ops : Array Oper} {o : Oper} {a : Act} {Q : Exit → Act → World → Prop} {C : Act → World → Prop}
theorem op_build1 (K : El α) (w : World) (sl : TypeId) (z : Value) (by_ : Nat) (hu : Try.prog.underlying sl = some (.slice K.e)) (hi : (Try.prog.info? K.e).map (fun i => (i.zero, i.size, i.bytes)) = some (some z, K.sz, by_)) (hzc : z.cells.size = K.sz) (hsz : K.sz ≤ 100)
    (x : Operand) (ho : o.op = .buildSlice sl 1 #[(0, x)]) (v : Value) (y : α) (hx : a.eval x = v) (hv : v.cells.toList = K.f y)
    (h : C (a.put o.dst (.slice (some ⟨w.heap.size, 0, none⟩) 1 1)) (w.alloc (.cells (K.f y).toArray K.e))) : Oper.wp Try.prog o a w C Q := by
  obtain ⟨i0, hi0, hz0, hz1, hz2⟩ := info_parts hi
  have hp := K.pos
  have hvs : v.cells.size = K.sz := by rw [← Array.length_toList, hv, K.len]
  refine wp_buildSlice sl K.e 1 _ ho (K.f y).toArray i0 z hu hi0 hz0 (by rw [hz1]; omega) (by rw [hz1]; omega) ?_ h
  have := Great.fill_whole (s := K.sz) hp [v] ((Array.range (1 * K.sz)).map (z.cells[· % z.cells.size]!)) (fun u hu => by rw [List.mem_singleton.1 hu]; exact hvs) (by simp)
  rw [hz1]
  have e : ([v].flatMap fun v => v.cells.toList).toArray = (K.f y).toArray := by simp [hv]
  rw [e] at this
  simp only [List.map_toArray, List.map_cons, List.map_nil, hx]
  exact this
end El
end Go.Proofs.Ytcgohlooelojfaa

namespace Go.Proofs.Ytcgohlooelojfaa
open Go.ChangeShapes Go.WideShapes Go.ChangeAt Go.RowKit Go.Deep

namespace El
variable {α : Type} {ops : Array Oper} {rest : List Oper} {o : Oper} {a : Act} {Q : Exit → Act → World → Prop} {C : Act → World → Prop}
theorem op_app1x (K : El α) (w : World) (sl : TypeId) (z : Value) (by_ : Nat) (hu : Try.prog.underlying sl = some (.slice K.e)) (hi : (Try.prog.info? K.e).map (fun i => (i.zero, i.size, i.bytes)) = some (some z, K.sz, by_)) (hzc : z.cells.size = K.sz) (hby : by_ ≤ 300) (_hsz : K.sz ≤ 100)
    (s x : Operand) (ho : o.op = .call { callee := .builtin .append, args := #[s, x], argTypes := #[sl, sl] })
    (B : Nat) (v : Value) (xs : List α) (hs : a.eval s = v) (hown : K.Own w B v xs) (g c : Nat) (y : α) (hx : a.eval x = .slice (some ⟨g, 0, none⟩) 1 c) (t : TypeId) (hy : w.heap[g]? = some (.cells (K.f y).toArray t (0, 0)))
    (hn : xs.length ≤ 1000000) (hB : B ≤ w.heap.size) (h : ∀ v' w', K.Own w' B v' (xs ++ [y]) → w.grownBy w' v.ownBlock → (∀ k, v'.ownBlock = some k → v.ownBlock = some k ∨ w.heap.size ≤ k) → C (a.put o.dst v') w') : Oper.wp Try.prog o a w C Q := by
  obtain ⟨i0, hi0, hz0, hz1, hz2⟩ := info_parts hi
  have hbb : (xs.length + 1) * by_ ≤ 140737488355328 := by
    have := Nat.mul_le_mul (show xs.length + 1 ≤ 1000001 by omega) hby
    omega
  have hnew : ∀ j u, (K.f y)[j]? = some u → w.cell? ((⟨g, 0, none⟩ : Addr).add j) = some u := fun j u hu => by
    rw [add_zero_off]
    simp only [World.cell?, hy]
    simpa using hu
  have hl : (K.f y).length = 1 * K.sz := by rw [K.len, Nat.one_mul]
  have hone : ∀ u ∈ K.f y, u.oneCell' = true := K.one y
  have h63 : xs.length + 1 ≤ maxLen := by simp only [maxLen]; omega
  obtain ⟨v', w', hrun, r1, r2, _⟩ := run_append_own (P := Try.prog) w B sl o.type K.e i0 z K.sz by_ hu hi0 hz0 hz1 hz2 hzc K.pos v xs.length (xs.flatMap K.f) hown ⟨g, 0, none⟩ 1 c (K.f y) hl hnew hone h63 hbb hB
  have hk : ∀ k, v'.ownBlock = some k → v.ownBlock = some k ∨ w.heap.size ≤ k := by
    rcases hown.2 with ⟨e, h0⟩ | ⟨gr, cap, cur, e, hbg, hg, hnc, hcm, hcs, _⟩
    · subst e
      have hr := run_append_nil (P := Try.prog) w sl o.type K.e i0 z hu hi0 hz0 ⟨g, 0, none⟩ 1 c (K.f y) (by rw [hl, hz1]) hnew (by omega) (by omega) (by rw [hz2]; omega)
      rw [hrun] at hr
      injection hr with e1 _
      subst e1
      intro k e
      injection e with e
      exact .inr (Nat.le_of_eq e)
    · subst e
      by_cases hroom : xs.length + 1 ≤ cap
      · have hfit : xs.length * i0.size + (K.f y).length ≤ cur.size := by rw [hl, hz1, hcs, ← Nat.add_mul]; exact Nat.mul_le_mul_right _ hroom
        have hr := run_append_room (P := Try.prog) w sl o.type K.e i0 hu hi0 gr xs.length cap cur hg ⟨g, 0, none⟩ 1 c (K.f y) (by rw [hl, hz1]) hnew hone hroom hfit
        rw [hrun] at hr
        injection hr with e1 _
        subst e1
        exact fun k e => .inl e
      · have holds : ∀ j u, (xs.flatMap K.f)[j]? = some u → w.cell? ((⟨gr, 0, none⟩ : Addr).add j) = some u := World.ownsRow.cells hown (g := gr) rfl
        have hr := run_append_grow (P := Try.prog) w sl o.type K.e i0 z hu hi0 hz0 ⟨gr, 0, none⟩ xs.length cap (xs.flatMap K.f) (by rw [flat_len, hz1]) holds ⟨g, 0, none⟩ 1 c (K.f y) (by rw [hl, hz1]) hnew (by omega) (by omega) (growslice_fits (by omega) (by rw [hz2]; omega))
        rw [hrun] at hr
        injection hr with e1 _
        subst e1
        intro k e
        injection e with e
        exact .inr (Nat.le_of_eq e)
  unfold Oper.wp execOp
  simp only [ho, resolve, invoke, builtin, Sem.run_bind, Sem.run_pure, Result.andThen_ok, List.map_toArray, List.map_cons, List.map_nil, hs, hx, hrun]
  refine h v' w' ?_ r2 hk
  show w'.ownsRow B _ K.sz v' (xs ++ [y]).length ((xs ++ [y]).flatMap K.f)
  rw [List.flatMap_append, List.length_append]
  simpa using r1
end El
end Go.Proofs.Ytcgohlooelojfaa
