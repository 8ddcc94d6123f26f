/-
  Merged for a claim: SYJ, SYK.
-/
import Derived.Test.YtjllbacefbjjaaaZJ5
namespace Go.Proofs.Ytjllbacefbjjaaa
open Go.ChangeShapes Go.WideShapes Go.ChangeAt Go.RowKit Go.Deep

section
variable {ops : Array Oper} {rest : List Oper} {o : Oper} {a : Act} {Q : Exit → Act → World → Prop} {C : Act → World → Prop} {α : Type}
theorem add_zero_off' (g o j : Nat) : (⟨g, o, none⟩ : Addr).add j = ⟨g, o + j, none⟩ := add_zero_off g o j
theorem El.liesT_new (K : El α) (w : World) (xs : List α) (arr : Array Value) (h : ∀ (i : Nat) (u : Value), (xs.flatMap K.f)[i]? = some u → arr[i]? = some u) :
 K.LiesT (w.alloc (.cells arr K.e)) (some ⟨w.heap.size, 0, none⟩) xs := fun _ =>
 ⟨w.heap.size, 0, rfl, HasT.new w arr K.e, fun j hj f u hu => by
  have hf : f < K.sz := by have := (List.getElem?_eq_some_iff.1 hu).1; rwa [K.len] at this
  have e := El.flat_get K xs j f hj hf
  rw [hu] at e
  have := h _ _ e
  rw [Nat.zero_add]
  simp only [World.cell?, heap_alloc_new]
  exact this⟩
theorem El.op_full1 (K : El α) (w : World) (sl : TypeId) (z : Value) (by_ : Nat) (hu : Try.prog.underlying sl = some (.slice K.e)) (hi : (Try.prog.info? K.e).map (fun i => (i.zero, i.size, i.bytes)) = some (some z, K.sz, by_)) (hby : by_ ≤ 128)
 (s x : Operand) (ho : o.op = .call { callee := .builtin .append, args := #[s, x], argTypes := #[sl, sl] })
 (A : Option Addr) (c L : Nat) (xs : List α) (hs : a.eval s = .slice A xs.length c) (hfull : c ≤ xs.length) (hA : A = none → c = 0) (hl : K.Lies w L A xs) (hlc : xs.length ≤ c)
 (g c2 : Nat) (y : α) (hx : a.eval x = .slice (some ⟨g, 0, none⟩) 1 c2) (t : TypeId) (hy : w.heap[g]? = some (.cells (K.f y).toArray t (0, 0)))
 (hn : xs.length ≤ 1000000) (h : ∀ c' w', K.LiesT w' (some ⟨w.heap.size, 0, none⟩) (xs ++ [y]) → xs.length + 1 ≤ c' → Below w.heap.size w w' → C (a.put o.dst (.slice (some ⟨w.heap.size, 0, none⟩) (xs.length + 1) c')) w') : Oper.wp Try.prog o a w C Q := by
 obtain ⟨i0, hi0, hz0, hz1, hz2⟩ := info_parts hi
 have hnew : ∀ j v, (K.f y)[j]? = some v → w.cell? ((⟨g, 0, none⟩ : Addr).add j) = some v := by
  intro j v hv
  rw [add_zero_off]
  simp only [World.cell?, hy]
  simpa using hv
 have hyl : (K.f y).length = 1 * i0.size := by rw [K.len, hz1, Nat.one_mul]
 have hbb : (xs.length + 1) * i0.bytes ≤ 140737488355328 := by
  have := Nat.mul_le_mul (show xs.length + 1 ≤ 1000001 by omega) (show i0.bytes ≤ 128 by omega)
  omega
 have hfl : (xs ++ [y]).flatMap K.f = xs.flatMap K.f ++ K.f y := by simp
 have hcap := grownCap_ge w (xs.length + 1) c K.e
 have hin : ∀ (zs : Array Value) (i : Nat) (u : Value), ((xs ++ [y]).flatMap K.f)[i]? = some u → ((xs.flatMap K.f).toArray ++ (K.f y).toArray ++ zs)[i]? = some u := by
  intro zs i u hu2
  rw [hfl] at hu2
  have hlt := (List.getElem?_eq_some_iff.1 hu2).1
  rw [List.length_append] at hlt
  rw [Array.getElem?_append_left (by simpa using hlt)]
  simpa using hu2
 have hbw : ∀ arr, Below w.heap.size w (w.drew.alloc (.cells arr K.e)) := fun arr => ((Below.refl _ w).drew).alloc (Nat.le_refl _) _
 rcases A with _ | ⟨g0, o0, p0⟩
 · obtain rfl := hA rfl
   have h0 : xs = [] := List.eq_nil_of_length_eq_zero (by omega)
   subst h0
   have hr := run_append_nil (P := Try.prog) w sl o.type K.e i0 z hu hi0 hz0 ⟨g, 0, none⟩ 1 c2 (K.f y) hyl hnew (by omega) (by omega) (by simp at hbb; omega)
   unfold Oper.wp execOp
   simp only [ho, resolve, invoke, builtin, Sem.run_bind, Sem.run_pure, Result.andThen_ok, List.map_toArray, List.map_cons, List.map_nil, hs, hx, List.length_nil, hr]
   refine h _ _ (El.liesT_new K w.drew _ _ fun i u hu2 => ?_) (by simpa using hcap) (hbw _)
   have := hin (Builtin.zeroCells z.cells (grownCap w 1 0 K.e - 1)) i u hu2
   simpa using this
 · have holds : ∀ (j : Nat) (u : Value), (xs.flatMap K.f)[j]? = some u → w.cell? ((⟨g0, o0, p0⟩ : Addr).add j) = some u := by
    intro j u hu2
    have hp := K.pos
    have hj : j < xs.length * K.sz := by have := (List.getElem?_eq_some_iff.1 hu2).1; rwa [El.flat_len] at this
    have hpos : 0 < xs.length := by
     rcases Nat.eq_zero_or_pos xs.length with q | q
     · rw [q] at hj; omega
     · exact q
    obtain ⟨g', o', e, _, hc⟩ := hl hpos
    cases e
    have hj2 : j / K.sz < xs.length := Nat.div_lt_of_lt_mul (by rw [Nat.mul_comm]; exact hj)
    have hm := Nat.mod_lt j hp
    have hdm : j / K.sz * K.sz + j % K.sz = j := by rw [Nat.mul_comm]; exact Nat.div_add_mod j K.sz
    have e1 := El.flat_get K xs (j / K.sz) (j % K.sz) hj2 hm
    rw [hdm, hu2] at e1
    have := hc (j / K.sz) hj2 (j % K.sz) u e1.symm
    rw [add_zero_off']
    rwa [hdm] at this
   have hr := run_append_grow (P := Try.prog) w sl o.type K.e i0 z hu hi0 hz0 ⟨g0, o0, p0⟩ xs.length c (xs.flatMap K.f) (by rw [El.flat_len, hz1]) holds ⟨g, 0, none⟩ 1 c2 (K.f y) hyl hnew (by omega) (by omega) (growslice_fits (by omega) hbb)
   unfold Oper.wp execOp
   simp only [ho, resolve, invoke, builtin, Sem.run_bind, Sem.run_pure, Result.andThen_ok, List.map_toArray, List.map_cons, List.map_nil, hs, hx, hr]
   exact h _ _ (El.liesT_new K w.drew _ _ fun i u hu2 => hin _ i u hu2) hcap (hbw _)
end
end Go.Proofs.Ytjllbacefbjjaaa

namespace Go.Proofs.Ytjllbacefbjjaaa
open Go Go.RowKit

section
variable {ops : Array Oper} {rest : List Oper} {o : Oper} {a : Act} {Q : Exit → Act → World → Prop} {α : Type}
theorem El.full1 (K : El α) (w : World) (hgd : o.guard = none) (sl : TypeId) (z : Value) (by_ : Nat) (hu : Try.prog.underlying sl = some (.slice K.e)) (hi : (Try.prog.info? K.e).map (fun i => (i.zero, i.size, i.bytes)) = some (some z, K.sz, by_)) (hby : by_ ≤ 128)
 (s x : Operand) (ho : o.op = .call { callee := .builtin .append, args := #[s, x], argTypes := #[sl, sl] })
 (A : Option Addr) (c L : Nat) (xs : List α) (hs : a.eval s = .slice A xs.length c) (hfull : c ≤ xs.length) (hA : A = none → c = 0) (hl : K.Lies w L A xs) (hlc : xs.length ≤ c)
 (g c2 : Nat) (y : α) (hx : a.eval x = .slice (some ⟨g, 0, none⟩) 1 c2) (t : TypeId) (hy : w.heap[g]? = some (.cells (K.f y).toArray t (0, 0)))
 (hn : xs.length ≤ 1000000) (h : ∀ c' w', K.LiesT w' (some ⟨w.heap.size, 0, none⟩) (xs ++ [y]) → xs.length + 1 ≤ c' → Below w.heap.size w w' → wpList Try.prog ops Q rest (a.put o.dst (.slice (some ⟨w.heap.size, 0, none⟩) (xs.length + 1) c')) w') : wpList Try.prog ops Q (o :: rest) a w :=
 wpList_plain hgd fun _ hK' => El.op_full1 K w sl z by_ hu hi hby s x ho A c L xs hs hfull hA hl hlc g c2 y hx t hy hn (fun c' w' r1 r2 r3 => hK' _ _ (h c' w' r1 r2 r3))
end
inductive XT where
 | mk (kd nu : Int) (nm fl op : List UInt8) (A : Option Addr) (c : Nat) (ks : List XT)
def XT.cs : XT → List Value
 | .mk kd nu nm fl op A c ks => [.int .u8 kd, .int .i64 nu, .string (str nm), .string (str fl), .string (str op), .slice A ks.length c]
def xV (t : XT) : Value := .agg t.cs.toArray
def eX : El XT := ⟨53, 6, XT.cs, fun x => by cases x; rfl, fun x u hu => by
 cases x
 simp [XT.cs] at hu
 rcases hu with rfl | rfl | rfl | rfl | rfl | rfl <;> rfl, by omega⟩
mutual
def XT.d : XT → Ex
 | .mk kd nu nm fl op _ _ ks => .mk kd nu nm fl op (xsd ks)
def xsd : List XT → List Ex
 | [] => []
 | x :: l => x.d :: xsd l
end
theorem xsd_map (l : List XT) : xsd l = l.map XT.d := by
 induction l with
 | nil => rfl
 | cons x l ih => rw [xsd, ih]; rfl
mutual
def XT.Ok (w : World) (P : Nat → Prop) : XT → Prop
 | .mk _ _ _ _ _ A c ks => (eX.LiesT w A ks ∧ ks.length ≤ c ∧ (A = none → c = 0) ∧ (0 < ks.length → ∀ a, A = some a → P a.block)) ∧ xsOk w P ks
def xsOk (w : World) (P : Nat → Prop) : List XT → Prop
 | [] => True
 | x :: l => x.Ok w P ∧ xsOk w P l
end
section
variable {w w' : World} {P Q : Nat → Prop}
theorem liesP_keep {α : Type} {K : El α} {A : Option Addr} {xs : List α} (h : K.LiesT w A xs) (hp : 0 < xs.length → ∀ a, A = some a → P a.block) (hk : ∀ g, P g → HasT w g K.e → w'.heap[g]? = w.heap[g]?) : K.LiesT w' A xs := fun hl => by
 obtain ⟨g, o, e, hg, hc⟩ := h hl
 have hb := hk g (hp hl _ e) hg
 exact ⟨g, o, e, hg.same hb, fun j hj f u hu => (World.cell?_of_block hb).trans (hc j hj f u hu)⟩
mutual
theorem XT.Ok.keep (hk : ∀ g, P g → HasT w g 53 → w'.heap[g]? = w.heap[g]?) (hm : ∀ g, P g → Q g) : ∀ (t : XT), t.Ok w P → t.Ok w' Q
 | .mk _ _ _ _ _ _ _ ks, h => by
  rw [XT.Ok] at h ⊢
  exact ⟨⟨liesP_keep h.1.1 h.1.2.2.2 hk, h.1.2.1, h.1.2.2.1, fun hl a e => hm _ (h.1.2.2.2 hl a e)⟩, xsOk.keep hk hm ks h.2⟩
theorem xsOk.keep (hk : ∀ g, P g → HasT w g 53 → w'.heap[g]? = w.heap[g]?) (hm : ∀ g, P g → Q g) : ∀ (l : List XT), xsOk w P l → xsOk w' Q l
 | [], _ => by rw [xsOk]; trivial
 | x :: l, h => by
  rw [xsOk] at h ⊢
  exact ⟨XT.Ok.keep hk hm x h.1, xsOk.keep hk hm l h.2⟩
end
mutual
theorem XT.Ok.low : ∀ (t : XT), t.Ok w P → t.Ok w (fun g => P g ∧ g < w.heap.size)
 | .mk _ _ _ _ _ _ _ ks, h => by
  rw [XT.Ok] at h ⊢
  refine ⟨⟨h.1.1, h.1.2.1, h.1.2.2.1, fun hl a e => ⟨h.1.2.2.2 hl a e, ?_⟩⟩, xsOk.low ks h.2⟩
  obtain ⟨g, o, e2, hg, _⟩ := h.1.1 hl
  rw [e] at e2
  injection e2 with e2
  subst e2
  exact hg.lt
theorem xsOk.low : ∀ (l : List XT), xsOk w P l → xsOk w (fun g => P g ∧ g < w.heap.size) l
 | [], _ => by rw [xsOk]; trivial
 | x :: l, h => by
  rw [xsOk] at h ⊢
  exact ⟨XT.Ok.low x h.1, xsOk.low l h.2⟩
end
theorem XT.Ok.below {t : XT} (h : t.Ok w P) (hb : Below w.heap.size w w') : t.Ok w' P := XT.Ok.keep (fun g _ hg => hb.block g hg.lt) (fun _ h => h) t h
theorem XT.Ok.up {t : XT} (h : t.Ok w P) (hm : ∀ g, P g → Q g) : t.Ok w Q := XT.Ok.keep (fun _ _ _ => rfl) hm t h
theorem xsOk.all {l : List XT} (h : xsOk w P l) : ∀ x ∈ l, x.Ok w P := by
 induction l with
 | nil => intro x hx; cases hx
 | cons y l ih =>
  rw [xsOk] at h
  intro x hx
  rcases List.mem_cons.1 hx with rfl | hx
  · exact h.1
  · exact ih h.2 x hx
theorem xsOk.of {l : List XT} (h : ∀ x ∈ l, x.Ok w P) : xsOk w P l := by
 induction l with
 | nil => rw [xsOk]; trivial
 | cons y l ih =>
  rw [xsOk]
  exact ⟨h y (by simp), ih fun x hx => h x (List.mem_cons_of_mem _ hx)⟩
end
def xLeaf (kd nu : Int) (nm fl op : List UInt8) : XT := .mk kd nu nm fl op none 0 []
theorem xLeaf_ok (w : World) (P : Nat → Prop) (kd nu : Int) (nm fl op : List UInt8) : (xLeaf kd nu nm fl op).Ok w P := by
 unfold xLeaf
 rw [XT.Ok, xsOk]
 exact ⟨⟨El.LiesT.nil _ _, Nat.le_refl _, fun _ => rfl, fun hl => absurd hl (by simp)⟩, trivial⟩
structure HM where
 x : XT
 b : Int
 en : List UInt8
def HM.cs (m : HM) : List Value := m.x.cs ++ [.int .i64 m.b, .string (str m.en)]
def hV (m : HM) : Value := .agg m.cs.toArray
def eH : El HM := ⟨139, 8, HM.cs, fun m => by unfold HM.cs; rcases m with ⟨x, b, en⟩; cases x; rfl, fun m u hu => by
 rcases m with ⟨x, b, en⟩
 cases x
 simp [HM.cs, XT.cs] at hu
 rcases hu with rfl | rfl | rfl | rfl | rfl | rfl | rfl | rfl <;> rfl, by omega⟩
def Ha.pe : Ha → Ex
 | .un op => .mk 6 0 [] [] op []
 | .par => .mk 0 0 [] [] [] []
 | .elem nm => .mk 4 0 nm [] [] []
 | .bin op x _ => .mk 7 0 [] [] op [x]
def XT.full : XT → Prop | .mk _ _ _ _ _ _ c ks => c ≤ ks.length
structure HM.Is (m : HM) (h : Ha) (w : World) (P : Nat → Prop) : Prop where
 d : m.x.d = h.pe
 b : m.b = h.b
 e : m.en = h.en
 f : m.x.full
 o : m.x.Ok w P
def addK : Ex → Ex → Ex | .mk kd nu nm fl op ks, y => .mk kd nu nm fl op (ks ++ [y])
theorem fin_add (h : Ha) (hp : h ≠ .par) (y : Ex) : h.fin y = addK h.pe y := by
 cases h
 · rfl
 · exact absurd rfl hp
 · rfl
 · rfl
set_option maxRecDepth 100000 in
set_option maxHeartbeats 2000000 in
theorem binds_any (t : To) (w : World) : Calls Try.prog 94 #[tV t] w (fun e w' => e = .returned (.int .i64 (if t.kd = 4 then bnd t.tx else 0 : Nat)) ∧ Below w.heap.size w w') := by
 obtain ⟨kd, tx, nu, ln⟩ := t
 unfold tV tS
 dsimp only
 by_cases hk : kd = 4
 · subst hk
   rw [if_pos rfl]
   go_enter Try.func94, Try.ntmps94
   go_wp2_with fail
   all_goals
    go_ret
    refine ⟨?_, below_lnew w _⟩
    simp only [str_toList, beq_iff_eq, beq_eq_false_iff_ne, ne_eq] at *
    unfold bnd
    simp_all
 · have hk2 : (kd == 4) = false := by simpa using hk
   rw [if_neg hk]
   go_enter Try.func94, Try.ntmps94
   go_wp2_with fail
   go_ret
   exact ⟨rfl, below_lnew w _⟩
end Go.Proofs.Ytjllbacefbjjaaa
