/-
  Merged for a claim: KX, KM, KZ, KO.
-/
import Derived.WalkKit
import Derived.ProofKit
import Derived.OpenShut
import Derived.Below
import Derived.Laws.OwnMore
import Derived.Deep.AppendLies
import Derived.Deep.Draws
import Derived.Maps.AppendAt
import Derived.Test.YtbkfkdiadeaooaaGreatProg
import Derived.OwnWalk
import Derived.Lib.Hide
namespace Go.Proofs.YtbkfkdiadeaooaaGreat
open Go.ChangeShapes Go.WideShapes Go.ChangeAt Go.RowKit

section
variable {H : Type} {enc : TypeId × Value → H} {P : Program}

def rowed (P : Program) (ts : List TypeId) : Bool := ts.all fun t => P.readableRec t && decide (t < P.types.size)

theorem trodAll_kept (hl : laidOutB P = true) {W W' : World} (hb : Below W.heap.size W W') :
    ∀ {ts : List TypeId} {vs : List Value} {ds : List (DataW H)} {ps : List MemPlace}, rowed P ts = true → DataW.TrodAll enc P W 0 (fun _ => true) true ts vs ds ps → (∀ x ∈ ps, x.block < W.heap.size) →
      DataW.TrodAll enc P W' 0 (fun b => decide (b < W.heap.size)) true ts vs ds ps
  | [], _, _, _, _, h, _ => by
    obtain ⟨rfl, rfl, rfl⟩ := trodAll_nil h
    exact trodAll_mk0
  | t :: ts, _, _, _, hr, h, hlt => by
    obtain ⟨v, vs', d, ds', p, q, rfl, rfl, rfl, h1, h2⟩ := trodAll_cons h
    simp only [rowed, List.all_cons, Bool.and_eq_true, decide_eq_true_eq] at hr
    exact trodAll_cons_mk (Below.trod hl hr.1.1 hr.1.2 h1 hb (fun x hx => hlt x (List.mem_append_left _ hx)))
      (trodAll_kept hl hb (by simpa [rowed] using hr.2) h2 (fun x hx => hlt x (List.mem_append_right _ hx)))

theorem law_post {f : Func} {s : ChangeSpec} {apart handsOn : Bool} {W W' : World} {args : Array Value} {ds : List (DataW H)} {before : List MemPlace} {tb : TypeId}
    (hl : laidOutB P = true) (hrow : rowed P f.params.toList = true) (hv : s.vars = []) (hres : f.resultTypes = #[tb]) (htb : P.underlying tb = some .bool)
    (hr : (s.fn H (ds ++ [])).results = [.lit (.bool true)]) (ha : (s.fn H (ds ++ [])).args = ds) (hvs : (s.fn H (ds ++ [])).vars = [])
    (hW : DataW.Whole enc P f.params.toList s.vars apart W args.toList ds [] before) (hb : Below W.heap.size W W') :
    s.post enc P f apart true handsOn false W args (.bool true) W' := by
  have hlt : ∀ p ∈ before, p.block < W.heap.size := fun p hp => hW.lt p hp
  have hW0 := hW
  obtain ⟨p, q, h1, h2, rfl, _, _⟩ := hW
  rw [hv] at h2
  obtain ⟨_, rfl⟩ := trodVars_none h2
  refine ⟨ds, [], _, [], p, [], hW0, ?_, ?_, ?_, World.keptBut_mono (fun x hx => ⟨by simpa using hx, .inr (.inl hx)⟩) (hb.frame (· ∈ p)), fun h => by cases h⟩
  · rw [hr, hres]
    exact trodAll_mk1 (shut_bool htb true)
  · rw [ha]
    exact trodAll_kept hl hb hrow h1 (fun x hx => hlt x (List.mem_append_left _ hx))
  · rw [hvs, hv]
    exact rfl
end

end Go.Proofs.YtbkfkdiadeaooaaGreat

namespace Go.Proofs.YtbkfkdiadeaooaaGreat
open Go.RowKit

def Lies (w : World) (B : Nat) (A : Option Addr) (l : List UInt8) : Prop :=
  0 < l.length → ∃ g o, A = some ⟨g, o, none⟩ ∧ g < B ∧ ∀ j (h : j < l.length), w.cell? ⟨g, o + j, none⟩ = some (.int .u8 (l[j].toNat : Int))

theorem below_draws {B : Nat} {w : World} (n : Nat) : Below B w (w.drewN n) := ⟨rfl, rfl, rfl, Nat.le_refl _, fun _ _ => rfl⟩

section
variable {w w' : World} {B B' : Nat} {A : Option Addr} {l : List UInt8}
theorem Lies.empty (w : World) (B : Nat) (A : Option Addr) : Lies w B A [] := fun h => absurd h (by simp)
theorem Lies.keep (h : Lies w B A l) (hk : ∀ p : Addr, p.block < B → w'.cell? p = w.cell? p) : Lies w' B A l := fun hl => by
  obtain ⟨g, o, e, hg, hc⟩ := h hl
  exact ⟨g, o, e, hg, fun j hj => (hk _ hg).trans (hc j hj)⟩
theorem Lies.more (h : Lies w B A l) (hB : B ≤ B') : Lies w B' A l := fun hl => by
  obtain ⟨g, o, e, hg, hc⟩ := h hl
  exact ⟨g, o, e, by omega, hc⟩
theorem Lies.below (h : Lies w B A l) (hb : Below B w w') : Lies w' B A l := h.keep fun _ hp => hb.cell hp
theorem Lies.drewN (h : Lies w B A l) (k : Nat) : Lies (w.drewN k) B A l := h
theorem Lies.alloc (h : Lies w B A l) (hB : B ≤ w.heap.size) (o : Obj) : Lies (w.alloc o) B A l := h.keep fun p hp => World.cell?_alloc_lt w o p (by omega)
theorem Lies.setCell (h : Lies w B A l) {p : Addr} (hB : B ≤ p.block) (u : Value) : Lies (w.setCell p u) B A l :=
  h.keep fun q hq => World.cell?_setCell_other w p q u (fun e => by subst e; omega)
theorem Lies.grown (h : Lies w B A l) {row : Option Nat} (hg : w.grownBy w' row) (hB : B ≤ w.heap.size) (hr : ∀ g, row = some g → B ≤ g) : Lies w' B A l :=
  h.keep fun p hp => World.cell?_of_block (hg.block p.block (by omega) (fun e => by have := hr _ e.symm; omega))
theorem Lies.at_ (h : Lies w B A l) {j : Nat} (hj : j < l.length) : ∃ g o, A = some ⟨g, o, none⟩ ∧ g < B ∧ w.cell? ⟨g, o + j, none⟩ = some (.int .u8 (l[j].toNat : Int)) := by
  obtain ⟨g, o, e, hg, hc⟩ := h (by omega)
  exact ⟨g, o, e, hg, hc j hj⟩
end

end Go.Proofs.YtbkfkdiadeaooaaGreat

namespace Go.Proofs.YtbkfkdiadeaooaaGreat
open Go.ChangeShapes Go.WideShapes Go.ChangeAt Go.RowKit

theorem open_bytes {H : Type} {enc : TypeId × Value → H} {P : Program} {W : World} {base : Nat} {t e : TypeId} {v : Value} {d : DataW H} {p : List MemPlace}
    (ht : P.underlying t = some (.slice e)) (he : P.underlying e = some (.int .u8)) (hc : P.cellsOf e = 1)
    (hv : Value.okWide P W .any base t v) (h : DataW.Trod enc P W 0 (fun _ => true) true t v d p) :
    ∃ (A : Option Addr) (c : Nat) (l : List UInt8), v = .slice A l.length c ∧ l.length ≤ c ∧ (A = none → c = 0) ∧ Lies W W.heap.size A l := by
  obtain ⟨a0, len, cap, rfl⟩ := okWide_slice ht hv
  obtain ⟨fuel, hf⟩ := h
  rcases open_ints ht he hc hf with ⟨hcs, hx⟩ | ⟨a, len', cap', zs, hcs, _, hl, hm, hz, hx, hcell, hwz⟩
  · simp [Value.cells] at hcs
    obtain ⟨rfl, rfl, rfl⟩ := hcs
    exact ⟨none, 0, [], rfl, Nat.le_refl _, fun _ => rfl, Lies.empty _ _ _⟩
  · simp [Value.cells] at hcs
    obtain ⟨rfl, rfl, rfl⟩ := hcs
    simp only [if_true] at hz
    have hlen : ((zs.take len).map fun z => UInt8.ofNat z.toNat).length = len := by simp; omega
    refine ⟨some a, cap, (zs.take len).map fun z => UInt8.ofNat z.toNat, by rw [hlen], by rw [hlen]; exact hl, fun h => by (cases h), ?_⟩
    intro h0
    rw [hlen] at h0
    obtain ⟨b, off, rfl, hcc⟩ := ints_at hcell (by omega)
    refine ⟨b, off, rfl, World.block_lt_of_cell? W _ (hcc 0 (by omega)), fun j hj => ?_⟩
    rw [hlen] at hj
    have h1 := hcc j (by omega)
    have hb := bounds_u8 (hwz (zs[j]'(by omega)) (List.getElem_mem _))
    rw [h1]
    have e1 : zs.getD j 0 = zs[j]'(by omega) := by simp [List.getD, show j < zs.length by omega]
    have e2 : (((zs.take len).map fun z => UInt8.ofNat z.toNat)[j]'(by rw [hlen]; exact hj)).toNat = (zs[j]'(by omega)).toNat := by
      simp; omega
    rw [e2, e1]
    congr 2
    omega

end Go.Proofs.YtbkfkdiadeaooaaGreat

namespace Go.Proofs.YtbkfkdiadeaooaaGreat
open Go.RowKit

def b8 (x : UInt8) : Value := .int .u8 (x.toNat : Int)
/-- block g holds just these bytes -/
def Blk (w : World) (g : Nat) (l : List UInt8) : Prop := w.heap[g]? = some (.cells (l.map b8).toArray 5 (0, 0))
/-- a byte slice that is nil, or stands at the head of a block from B on -/
def Own (w : World) (B : Nat) (v : Value) (l : List UInt8) : Prop :=
  (v = .slice none 0 0 ∧ l = []) ∨ ∃ g r, v = .slice (some ⟨g, 0, none⟩) l.length (l.length + r.length) ∧ B ≤ g ∧ l.length + r.length ≤ maxLen ∧ Blk w g (l ++ r)

theorem u8_info : (Tryz.prog.info? 5).map (fun i => (i.zero, i.size, i.bytes)) = some (some (.int .u8 0), 1, 1) := by kernel_rfl

theorem b8_one (l : List UInt8) : ∀ u ∈ l.map b8, u.oneCell' = true := by
  intro u hu
  obtain ⟨x, _, rfl⟩ := List.mem_map.1 hu
  rfl

section
variable {w w' : World} {B g : Nat} {v : Value} {l : List UInt8}
theorem Blk.lt (h : Blk w g l) : g < w.heap.size := by
  rcases Nat.lt_or_ge g w.heap.size with h' | h'
  · exact h'
  · unfold Blk at h; rw [Array.getElem?_eq_none h'] at h; cases h
theorem Blk.cell (h : Blk w g l) {j : Nat} (hj : j < l.length) : w.cell? ⟨g, j, none⟩ = some (.int .u8 (l[j].toNat : Int)) := by
  unfold Blk at h
  simp only [World.cell?, h]
  simp [hj, b8]
theorem Blk.frozen (h : Blk w g l) (j : Nat) : w.frozen? ⟨g, j, none⟩ = false := by
  unfold Blk at h
  simp [World.frozen?, h]
theorem Blk.at_ (h : w'.heap[g]? = w.heap[g]?) (hb : Blk w g l) : Blk w' g l := h.trans hb
theorem Blk.below (h : Blk w g l) (hb : Below B w w') (hg : g < B) : Blk w' g l := (hb.block g hg).trans h
theorem Blk.alloc (h : Blk w g l) (o : Obj) : Blk (w.alloc o) g l := (Below.heap_alloc w o g h.lt).trans h
theorem Blk.kept {row : Option Nat} (h : Blk w g l) (hg : w.grownBy w' row) (hne : row ≠ some g) : Blk w' g l := (hg.block g h.lt (fun e => hne e.symm)).trans h
theorem Blk.other (h : Blk w g l) {p : Addr} (hp : p.block ≠ g) (u : Value) : Blk (w.setCell p u) g l := (Below.heap_setCell w p u g (fun e => hp e.symm)).trans h
theorem Blk.lies (h : Blk w g l) {m : List UInt8} (hm : m <+: l) (hB : g < B) : Lies w B (some ⟨g, 0, none⟩) m := fun _ => by
  obtain ⟨r, rfl⟩ := hm
  refine ⟨g, 0, rfl, hB, fun j hj => ?_⟩
  rw [Nat.zero_add, h.cell (by simp; omega)]
  simp [List.getElem_append_left hj]
theorem Blk.drop (h : Blk w g l) (k : Nat) (hB : g < B) : Lies w B (some ⟨g, k, none⟩) (l.drop k) := fun hl => by
  refine ⟨g, k, rfl, hB, fun j hj => ?_⟩
  have : k + j < l.length := by simp at hj; omega
  rw [h.cell this]
  simp
theorem blk_new (w : World) (l : List UInt8) : Blk (w.alloc (.cells (l.map b8).toArray 5)) w.heap.size l := heap_alloc_new w _
theorem blk_lit (w : World) (l : List UInt8) (cs : Array Value) (hcs : cs.toList = l.map b8) : Blk (w.alloc (.cells cs 5)) w.heap.size l := by
  have : cs = (l.map b8).toArray := by apply Array.ext'; rw [hcs]
  subst this
  exact blk_new w l

theorem Own.nil (w : World) (B : Nat) : Own w B (.slice none 0 0) [] := .inl ⟨rfl, rfl⟩
theorem Own.of (h : Blk w g l) (hB : B ≤ g) (n : Nat) (hn : n ≤ l.length) (hm : l.length ≤ maxLen) : Own w B (.slice (some ⟨g, 0, none⟩) n l.length) (l.take n) := by
  refine .inr ⟨g, l.drop n, ?_, hB, by simp; omega, by rw [List.take_append_drop]; exact h⟩
  congr 1 <;> simp <;> omega
theorem Own.lt (h : Own w B v l) : ∀ k, v.ownBlock = some k → B ≤ k ∧ k < w.heap.size := by
  rintro k hk
  rcases h with ⟨rfl, _⟩ | ⟨g, r, rfl, hB, _, hb⟩
  · cases hk
  · simp only [Value.ownBlock, Option.some.injEq] at hk
    subst hk
    exact ⟨hB, hb.lt⟩
theorem Own.drew (h : Own w B v l) : Own w.drew B v l := h
theorem Own.drewN (h : Own w B v l) (n : Nat) : Own (w.drewN n) B v l := h
theorem Own.alloc (h : Own w B v l) (o : Obj) : Own (w.alloc o) B v l := by
  rcases h with h | ⟨g, r, e, hB, hm, hb⟩
  · exact .inl h
  · exact .inr ⟨g, r, e, hB, hm, hb.alloc o⟩
theorem Own.kept {row : Option Nat} (h : Own w B v l) (hg : w.grownBy w' row) (hne : v.ownBlock = none ∨ v.ownBlock ≠ row) : Own w' B v l := by
  rcases h with h | ⟨g, r, rfl, hB, hm, hb⟩
  · exact .inl h
  · refine .inr ⟨g, r, rfl, hB, hm, hb.kept hg (fun e => ?_)⟩
    rcases hne with h | h
    · cases h
    · exact h e.symm
theorem Own.below (h : Own w B v l) (hb : Below w.heap.size w w') : Own w' B v l := by
  rcases h with h | ⟨g, r, rfl, hB, hm, hb'⟩
  · exact .inl h
  · exact .inr ⟨g, r, rfl, hB, hm, hb'.below hb hb'.lt⟩
theorem Own.base {B' : Nat} (h : Own w B v l) (hB : B' ≤ B) : Own w B' v l := by
  rcases h with h | ⟨g, r, e, hg, q⟩
  · exact .inl h
  · exact .inr ⟨g, r, e, Nat.le_trans hB hg, q⟩
theorem Own.form (h : Own w B v l) : ∃ A c, v = .slice A l.length c ∧ l.length ≤ c ∧ (A = none → c = 0) ∧ Lies w w.heap.size A l := by
  rcases h with ⟨rfl, rfl⟩ | ⟨g, r, rfl, hB, hm, hb⟩
  · exact ⟨none, 0, rfl, Nat.le_refl _, fun _ => rfl, Lies.empty _ _ _⟩
  · exact ⟨_, _, rfl, Nat.le_add_right _ _, fun e => by (cases e), hb.lies (List.prefix_append l r) hb.lt⟩
theorem Own.formN (h : Own w B v l) : ∃ A n c, v = .slice A n c ∧ Hid (l.length = n) ∧ n ≤ c ∧ (A = none → c = 0) ∧ Lies w w.heap.size A l := by
  obtain ⟨A, c, e, h1, h2, h3⟩ := h.form
  exact ⟨A, l.length, c, e, rfl, h1, h2, h3⟩
theorem Own.row (h : Own w B v l) : w.ownsRow B 5 1 v l.length (l.map b8) := by
  refine ⟨by simp, ?_⟩
  rcases h with ⟨rfl, rfl⟩ | ⟨g, r, rfl, hB, hm, hb⟩
  · exact .inl ⟨rfl, rfl⟩
  · refine .inr ⟨g, _, _, rfl, hB, hb, Nat.le_add_right _ _, hm, by simp, ?_⟩
    simp
end

theorem zero_b8 (n : Nat) : (Builtin.zeroCells #[(Value.int .u8 0)] n).toList = (List.replicate n (0 : UInt8)).map b8 := by
  apply List.ext_getElem
  · simp [Builtin.zeroCells]
  · intro i h1 h2
    simp [Builtin.zeroCells, b8, Nat.mod_one]

theorem add_zero_off (g o j : Nat) : (⟨g, o, none⟩ : Addr).add j = ⟨g, o + j, none⟩ := by
  by_cases h : j = 0 <;> simp [Addr.add, h]

def capOf : Value → Nat | .slice _ _ c => c | _ => 0

set_option maxRecDepth 10000 in
theorem run_app (w : World) (B : Nat) (v : Value) (l : List UInt8) (hown : Own w B v l) (a : Addr) (c : Nat) (l2 : List UInt8)
    (hl : ∀ j (h : j < l2.length), w.cell? (a.add j) = some (b8 l2[j])) (hsz : l.length + l2.length ≤ 140737488355328) (hB : B ≤ w.heap.size) (ty : TypeId) :
    ∃ v' w', (Builtin.append_ #[22, 22] ty #[v, .slice (some a) l2.length c]).run Tryz.prog w = .ok v' w' ∧ Own w' B v' (l ++ l2) ∧ w.grownBy w' v.ownBlock ∧ (l.length + l2.length ≤ capOf v → capOf v' = capOf v) := by
  obtain ⟨i0, hi0, hz0, hz1, hz2⟩ := info_parts u8_info
  have hnews : ∀ j u, (l2.map b8)[j]? = some u → w.cell? (a.add j) = some u := by
    intro j u hu
    have hj : j < l2.length := by have := (List.getElem?_eq_some_iff.1 hu).1; simpa using this
    rw [hl j hj]
    simpa [hj] using hu
  have hl2 : (l2.map b8).length = l2.length * i0.size := by simp [hz1]
  have grown : ∀ (n old : Nat), l.length + l2.length = n → ∀ row : Option Nat,
      Own (w.drew.alloc (.cells ((l.map b8).toArray ++ (l2.map b8).toArray ++ Builtin.zeroCells (Value.int .u8 0).cells (grownCap w n old 5 - n)) 5)) B
        (.slice (some ⟨w.heap.size, 0, none⟩) n (grownCap w n old 5)) (l ++ l2) ∧
      w.grownBy (w.drew.alloc (.cells ((l.map b8).toArray ++ (l2.map b8).toArray ++ Builtin.zeroCells (Value.int .u8 0).cells (grownCap w n old 5 - n)) 5)) row := by
    intro n old hn row
    have hge := grownCap_ge w n old 5
    have hcm : grownCap w n old 5 ≤ maxLen := grownCap_le_maxLen w n old 5 (by simp only [maxLen]; omega)
    refine ⟨.inr ⟨w.heap.size, List.replicate (grownCap w n old 5 - n) 0, ?_, hB, ?_, ?_⟩, ⟨rfl, rfl, rfl, by simp, fun k hk _ => heap_alloc_old w.drew _ hk⟩⟩
    · congr 1
      · simp [hn]
      · simp; omega
    · simp; omega
    · refine blk_lit w.drew (l ++ l2 ++ List.replicate (grownCap w n old 5 - n) 0) _ ?_
      have hc : (Value.int .u8 0).cells = #[(Value.int .u8 0)] := rfl
      rw [hc, Array.toList_append, Array.toList_append, zero_b8]
      simp
  rcases hown with ⟨rfl, rfl⟩ | ⟨g, r, rfl, hBg, hcm, hb⟩
  · by_cases hm : l2.length = 0
    · obtain rfl := List.eq_nil_of_length_eq_zero hm
      refine ⟨.slice none 0 0, w, ?_, Own.nil _ _, World.grownBy.refl _ _, fun _ => rfl⟩
      simp [Builtin.append_, run_underlying Tryz.underlying22, sizeOf, typeInfo, hi0, Builtin.lenOf, Builtin.firstCells, loadCells, loadCellsFrom]
    · have hr := run_append_nil (P := Tryz.prog) w 22 ty 5 i0 _ Tryz.underlying22 hi0 hz0 a l2.length c (l2.map b8) hl2 hnews (by omega) (by simp at hsz; omega) (by rw [hz2]; simp at hsz; omega)
      have hg := grown l2.length 0 (by simp) (Value.ownBlock (.slice none 0 0))
      simp only [List.map_nil, List.nil_append, Array.empty_append] at hg ⊢
      exact ⟨_, _, hr, hg.1, hg.2, fun h => by simp [capOf] at h; subst h; exact absurd rfl hm⟩
  · by_cases hroom : l.length + l2.length ≤ l.length + r.length
    · have hfit : l.length * i0.size + (l2.map b8).length ≤ (((l ++ r).map b8).toArray).size := by simp [hz1]; omega
      have hr := run_append_room (P := Tryz.prog) w 22 ty 5 i0 Tryz.underlying22 hi0 g l.length (l.length + r.length) _ hb a l2.length c (l2.map b8) hl2 hnews (b8_one _) hroom hfit
      refine ⟨_, _, hr, .inr ⟨g, r.drop l2.length, ?_, hBg, by simp; omega, ?_⟩, ⟨rfl, rfl, rfl, by simp, fun k _ hk => setRow_other w g k _ (fun e => hk (by simp [Value.ownBlock, e]))⟩, fun _ => rfl⟩
      · congr 1 <;> simp <;> omega
      · have := setRow_heap w g _ (((l ++ r).map b8).take (l.length * i0.size) ++ l2.map b8 ++ ((l ++ r).map b8).drop (l.length * i0.size + (l2.map b8).length)).toArray _ _ hb
        unfold Blk
        simp only at *
        rw [this]
        congr 2
        simp [hz1, List.drop_append]
    · have holds : ∀ j u, (l.map b8)[j]? = some u → w.cell? ((⟨g, 0, none⟩ : Addr).add j) = some u := by
        intro j u hu
        have hj : j < l.length := by have := (List.getElem?_eq_some_iff.1 hu).1; simpa using this
        rw [add_zero_off, Nat.zero_add, hb.cell (by simp; omega)]
        simpa [hj, b8, List.getElem_append_left hj] using hu
      have hr := run_append_grow (P := Tryz.prog) w 22 ty 5 i0 _ Tryz.underlying22 hi0 hz0 ⟨g, 0, none⟩ l.length (l.length + r.length) (l.map b8) (by simp [hz1]) holds a l2.length c (l2.map b8) hl2 hnews (by omega) (by omega)
        (growslice_fits (by omega) (by rw [hz2]; omega))
      have hg := grown (l.length + l2.length) (l.length + r.length) rfl (Value.ownBlock (.slice (some ⟨g, 0, none⟩) l.length (l.length + r.length)))
      exact ⟨_, _, hr, hg.1, hg.2, fun h => absurd h hroom⟩

section
variable {ops : Array Oper} {rest : List Oper} {o : Oper} {a : Act} {Q : Exit → Act → World → Prop}
theorem app_cap (w : World) (hgd : o.guard = none) (s x : Operand) (ho : o.op = .call { callee := .builtin .append, args := #[s, x], argTypes := #[22, 22] })
    (B : Nat) (v : Value) (l : List UInt8) (hs : a.eval s = v) (hown : Own w B v l)
    (A : Option Addr) (c C : Nat) (l2 : List UInt8) (hx : a.eval x = .slice A l2.length c) (hc : A = none → c = 0) (hl : Lies w C A l2)
    (hsz : l.length + l2.length ≤ 140737488355328) (hB : B ≤ w.heap.size)
    (h : ∀ v' w', Own w' B v' (l ++ l2) → w.grownBy w' v.ownBlock → (l.length + l2.length ≤ capOf v → capOf v' = capOf v) → wpList Tryz.prog ops Q rest (a.put o.dst v') w') : wpList Tryz.prog ops Q (o :: rest) a w := by
  refine wpList_plain hgd fun K hK' => ?_
  have hrun : ∃ v' w', (Builtin.append_ #[22, 22] o.type #[v, .slice A l2.length c]).run Tryz.prog w = .ok v' w' ∧ Own w' B v' (l ++ l2) ∧ w.grownBy w' v.ownBlock ∧ (l.length + l2.length ≤ capOf v → capOf v' = capOf v) := by
    rcases A with _ | ad
    · have h0 : l2 = [] := by
        rcases l2 with _ | ⟨y, l2⟩
        · rfl
        · obtain ⟨g, o, e, _⟩ := hl (by simp)
          cases e
      subst h0
      obtain rfl := hc rfl
      obtain ⟨i0, hi0, hz0, hz1, hz2⟩ := info_parts u8_info
      have hrun := run_append_owned_none (P := Tryz.prog) w B 22 o.type 5 i0 1 Tryz.underlying22 hi0 v l.length (l.map b8) hown.row
      exact ⟨_, _, hrun, by simpa using hown, World.grownBy.refl _ _, fun _ => rfl⟩
    · refine run_app w B v l hown ad c l2 (fun j hj => ?_) hsz hB _
      obtain ⟨g, o, e, _, hcell⟩ := hl.at_ hj
      cases e
      rw [add_zero_off, hcell]
      rfl
  obtain ⟨v', w', hr, h1, h2, h3⟩ := hrun
  unfold Oper.wp execOp
  simp only [ho, resolve, invoke, builtin, Sem.run_bind, Sem.run_pure, Result.andThen_ok, List.map_toArray, List.map_cons, List.map_nil, hs, hx, hr]
  exact hK' _ _ (h v' w' h1 h2 h3)
theorem app_slice (w : World) (hgd : o.guard = none) (s x : Operand) (ho : o.op = .call { callee := .builtin .append, args := #[s, x], argTypes := #[22, 22] })
    (B : Nat) (v : Value) (l : List UInt8) (hs : a.eval s = v) (hown : Own w B v l)
    (A : Option Addr) (c C : Nat) (l2 : List UInt8) (hx : a.eval x = .slice A l2.length c) (hc : A = none → c = 0) (hl : Lies w C A l2)
    (hsz : l.length + l2.length ≤ 140737488355328) (hB : B ≤ w.heap.size)
    (h : ∀ v' w', Own w' B v' (l ++ l2) → w.grownBy w' v.ownBlock → wpList Tryz.prog ops Q rest (a.put o.dst v') w') : wpList Tryz.prog ops Q (o :: rest) a w :=
  app_cap w hgd s x ho B v l hs hown A c C l2 hx hc hl hsz hB fun v' w' h1 h2 _ => h v' w' h1 h2
end

theorem lies_lit (w : World) (t : TypeId) (l : List UInt8) (cs : Array Value) (hcs : cs.toList = l.map b8) : Lies (w.alloc (.cells cs t)) (w.alloc (.cells cs t)).heap.size (some ⟨w.heap.size, 0, none⟩) l := by
  intro _
  refine ⟨_, _, rfl, by simp, fun j hj => ?_⟩
  have hh := heap_alloc_new w (.cells cs t)
  have : cs[j]? = some (b8 l[j]) := by rw [← Array.getElem?_toList, hcs]; simp [hj]
  simp only [World.cell?, hh]
  simpa [b8] using this

def Made (w : World) (l : List UInt8) (e : Ending) (w' : World) : Prop := ∃ v, e = .returned v ∧ Own w' w.heap.size v l ∧ Below w.heap.size w w'

/-- the same, with so much room in all -/
def MadeC (w : World) (l : List UInt8) (c : Nat) (e : Ending) (w' : World) : Prop := ∃ v, e = .returned v ∧ Own w' w.heap.size v l ∧ Below w.heap.size w w' ∧ capOf v = c
theorem MadeC.made {w : World} {l : List UInt8} {c : Nat} {e : Ending} {w' : World} (h : MadeC w l c e w') : Made w l e w' := by
  obtain ⟨v, h1, h2, h3, _⟩ := h
  exact ⟨v, h1, h2, h3⟩

theorem below_grown {B : Nat} {w w1 w2 : World} {v : Value} {l : List UInt8} (hb : Below B w w1) (hg : w1.grownBy w2 v.ownBlock) (ho : Own w1 B v l) (hB : B ≤ w1.heap.size) : Below B w w2 :=
  hb.grown hg hB fun k hk => (ho.lt k hk).1

theorem own_room {w : World} {B g c : Nat} (h : Blk w g (List.replicate c 0)) (hB : B ≤ g) (hc : c ≤ 140737488355328) : Own w B (.slice (some ⟨g, 0, none⟩) 0 c) [] := by
  have := Own.of h hB 0 (Nat.zero_le _) (by simp only [List.length_replicate, maxLen]; omega)
  simpa using this

theorem make_bytes {ops : Array Oper} {rest : List Oper} {o : Oper} {a : Act} {Q : Exit → Act → World → Prop} (w : World) (hgd : o.guard = none) (x y : Operand) (ho : o.op = Op.makeSlice 22 x y) (n c : Nat) (N C : Int)
    (hx : a.eval x = .int .i64 N) (hy : a.eval y = .int .i64 C) (hN : N = (n : Int)) (hC : C = (c : Int)) (hnc : n ≤ c) (hc : c ≤ 140737488355328)
    (hK : ∀ w', Blk w' w.heap.size (List.replicate c 0) → Below w.heap.size w w' → w.heap.size < w'.heap.size → wpList Tryz.prog ops Q rest (a.put o.dst (.slice (some ⟨w.heap.size, 0, none⟩) n c)) w') :
    wpList Tryz.prog ops Q (o :: rest) a w := by
  obtain ⟨i0, hi0, hz0, hz1, hz2⟩ := info_parts u8_info
  subst hC hN
  refine wpList_plain hgd fun K hK' => ?_
  have hrun := run_make (P := Tryz.prog) w 22 5 i0 _ Tryz.underlying22 hi0 hz0 .i64 .i64 n c (by omega) (by omega) (by rw [hz2]; omega) (by omega)
  simp only [Int.toNat_natCast] at hrun
  unfold Oper.wp
  simp [execOp, ho, hx, hy, hrun, Result.andThen]
  refine hK' _ _ (hK _ ?_ ((Below.refl _ _).alloc (Nat.le_refl _) _) (by simp))
  refine blk_lit w (List.replicate c 0) _ ?_
  rw [hz1, Nat.mul_one]
  show (madeCells #[.int .u8 0] c).toList = _
  rw [toList_madeCells_one]
  simp [b8]

end Go.Proofs.YtbkfkdiadeaooaaGreat
