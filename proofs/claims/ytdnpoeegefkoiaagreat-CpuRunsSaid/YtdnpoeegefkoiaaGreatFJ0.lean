/-
  Merged for a claim: KX, KM, KZ, O1A, KO, KR, L2A, L2C, I3A.
-/
import Derived.WalkKit
import Derived.ProofKit
import Derived.OpenShut
import Derived.Below
import Derived.Laws.OwnMore
import Derived.Deep.AppendLies
import Derived.Deep.Draws
import Derived.Maps.AppendAt
import Derived.Test.YtdnpoeegefkoiaaGreatProg
import Derived.WalkSpells
import Derived.WalkLawsBesides
import Derived.Lib.Hide
import Derived.OwnWalk
import Derived.Laws.Rows
import Derived.Laws.ResultCell
import Derived.Laws.BitsAllLaws
import Derived.Laws.BitsLemmas
namespace Go.Proofs.YtdnpoeegefkoiaaGreat
open Go.ChangeShapes Go.WideShapes Go.ChangeAt Go.RowKit

section
variable {H : Type} {enc : TypeId × Value → H} {P : Program}

def rowed (P : Program) (ts : List TypeId) : Bool := ts.all fun t => P.readableRec t && decide (t < P.types.size)

theorem trodAll_kept (hl : laidOutB P = true) {W W' : World} (hb : Below W.heap.size W W') :
    ∀ {ts : List TypeId} {vs : List Value} {ds : List (DataW H)} {ps : List MemPlace}, rowed P ts = true → DataW.TrodAll enc P W 0 (fun _ => true) true ts vs ds ps → (∀ x ∈ ps, x.block < W.heap.size) →
      DataW.TrodAll enc P W' 0 (fun b => decide (b < W.heap.size)) true ts vs ds ps
  | [], _, _, _, _, h, _ => by
    obtain ⟨rfl, rfl, rfl⟩ := trodAll_nil h
    exact trodAll_mk0
  | t :: ts, _, _, _, hr, h, hlt => by
    obtain ⟨v, vs', d, ds', p, q, rfl, rfl, rfl, h1, h2⟩ := trodAll_cons h
    simp only [rowed, List.all_cons, Bool.and_eq_true, decide_eq_true_eq] at hr
    exact trodAll_cons_mk (Below.trod hl hr.1.1 hr.1.2 h1 hb (fun x hx => hlt x (List.mem_append_left _ hx)))
      (trodAll_kept hl hb (by simpa [rowed] using hr.2) h2 (fun x hx => hlt x (List.mem_append_right _ hx)))

theorem law_post {f : Func} {s : ChangeSpec} {apart handsOn : Bool} {W W' : World} {args : Array Value} {ds : List (DataW H)} {before : List MemPlace} {tb : TypeId}
    (hl : laidOutB P = true) (hrow : rowed P f.params.toList = true) (hv : s.vars = []) (hres : f.resultTypes = #[tb]) (htb : P.underlying tb = some .bool)
    (hr : (s.fn H (ds ++ [])).results = [.lit (.bool true)]) (ha : (s.fn H (ds ++ [])).args = ds) (hvs : (s.fn H (ds ++ [])).vars = [])
    (hW : DataW.Whole enc P f.params.toList s.vars apart W args.toList ds [] before) (hb : Below W.heap.size W W') :
    s.post enc P f apart true handsOn false W args (.bool true) W' := by
  have hlt : ∀ p ∈ before, p.block < W.heap.size := fun p hp => hW.lt p hp
  have hW0 := hW
  obtain ⟨p, q, h1, h2, rfl, _, _⟩ := hW
  rw [hv] at h2
  obtain ⟨_, rfl⟩ := trodVars_none h2
  refine ⟨ds, [], _, [], p, [], hW0, ?_, ?_, ?_, World.keptBut_mono (fun x hx => ⟨by simpa using hx, .inr (.inl hx)⟩) (hb.frame (· ∈ p)), fun h => by cases h⟩
  · rw [hr, hres]
    exact trodAll_mk1 (shut_bool htb true)
  · rw [ha]
    exact trodAll_kept hl hb hrow h1 (fun x hx => hlt x (List.mem_append_left _ hx))
  · rw [hvs, hv]
    exact rfl
end

end Go.Proofs.YtdnpoeegefkoiaaGreat

namespace Go.Proofs.YtdnpoeegefkoiaaGreat
open Go.RowKit

def Lies (w : World) (B : Nat) (A : Option Addr) (l : List UInt8) : Prop :=
  0 < l.length → ∃ g o, A = some ⟨g, o, none⟩ ∧ g < B ∧ ∀ j (h : j < l.length), w.cell? ⟨g, o + j, none⟩ = some (.int .u8 (l[j].toNat : Int))

theorem below_draws {B : Nat} {w : World} (n : Nat) : Below B w (w.drewN n) := ⟨rfl, rfl, rfl, Nat.le_refl _, fun _ _ => rfl⟩

section
variable {w w' : World} {B B' : Nat} {A : Option Addr} {l : List UInt8}
theorem Lies.empty (w : World) (B : Nat) (A : Option Addr) : Lies w B A [] := fun h => absurd h (by simp)
theorem Lies.keep (h : Lies w B A l) (hk : ∀ p : Addr, p.block < B → w'.cell? p = w.cell? p) : Lies w' B A l := fun hl => by
  obtain ⟨g, o, e, hg, hc⟩ := h hl
  exact ⟨g, o, e, hg, fun j hj => (hk _ hg).trans (hc j hj)⟩
theorem Lies.more (h : Lies w B A l) (hB : B ≤ B') : Lies w B' A l := fun hl => by
  obtain ⟨g, o, e, hg, hc⟩ := h hl
  exact ⟨g, o, e, by omega, hc⟩
theorem Lies.below (h : Lies w B A l) (hb : Below B w w') : Lies w' B A l := h.keep fun _ hp => hb.cell hp
theorem Lies.drewN (h : Lies w B A l) (k : Nat) : Lies (w.drewN k) B A l := h
theorem Lies.alloc (h : Lies w B A l) (hB : B ≤ w.heap.size) (o : Obj) : Lies (w.alloc o) B A l := h.keep fun p hp => World.cell?_alloc_lt w o p (by omega)
theorem Lies.setCell (h : Lies w B A l) {p : Addr} (hB : B ≤ p.block) (u : Value) : Lies (w.setCell p u) B A l :=
  h.keep fun q hq => World.cell?_setCell_other w p q u (fun e => by subst e; omega)
theorem Lies.grown (h : Lies w B A l) {row : Option Nat} (hg : w.grownBy w' row) (hB : B ≤ w.heap.size) (hr : ∀ g, row = some g → B ≤ g) : Lies w' B A l :=
  h.keep fun p hp => World.cell?_of_block (hg.block p.block (by omega) (fun e => by have := hr _ e.symm; omega))
theorem Lies.at_ (h : Lies w B A l) {j : Nat} (hj : j < l.length) : ∃ g o, A = some ⟨g, o, none⟩ ∧ g < B ∧ w.cell? ⟨g, o + j, none⟩ = some (.int .u8 (l[j].toNat : Int)) := by
  obtain ⟨g, o, e, hg, hc⟩ := h (by omega)
  exact ⟨g, o, e, hg, hc j hj⟩
end

end Go.Proofs.YtdnpoeegefkoiaaGreat

namespace Go.Proofs.YtdnpoeegefkoiaaGreat
open Go.ChangeShapes Go.WideShapes Go.ChangeAt Go.RowKit

theorem open_bytes {H : Type} {enc : TypeId × Value → H} {P : Program} {W : World} {base : Nat} {t e : TypeId} {v : Value} {d : DataW H} {p : List MemPlace}
    (ht : P.underlying t = some (.slice e)) (he : P.underlying e = some (.int .u8)) (hc : P.cellsOf e = 1)
    (hv : Value.okWide P W .any base t v) (h : DataW.Trod enc P W 0 (fun _ => true) true t v d p) :
    ∃ (A : Option Addr) (c : Nat) (l : List UInt8), v = .slice A l.length c ∧ l.length ≤ c ∧ (A = none → c = 0) ∧ Lies W W.heap.size A l := by
  obtain ⟨a0, len, cap, rfl⟩ := okWide_slice ht hv
  obtain ⟨fuel, hf⟩ := h
  rcases open_ints ht he hc hf with ⟨hcs, hx⟩ | ⟨a, len', cap', zs, hcs, _, hl, hm, hz, hx, hcell, hwz⟩
  · simp [Value.cells] at hcs
    obtain ⟨rfl, rfl, rfl⟩ := hcs
    exact ⟨none, 0, [], rfl, Nat.le_refl _, fun _ => rfl, Lies.empty _ _ _⟩
  · simp [Value.cells] at hcs
    obtain ⟨rfl, rfl, rfl⟩ := hcs
    simp only [if_true] at hz
    have hlen : ((zs.take len).map fun z => UInt8.ofNat z.toNat).length = len := by simp; omega
    refine ⟨some a, cap, (zs.take len).map fun z => UInt8.ofNat z.toNat, by rw [hlen], by rw [hlen]; exact hl, fun h => by (cases h), ?_⟩
    intro h0
    rw [hlen] at h0
    obtain ⟨b, off, rfl, hcc⟩ := ints_at hcell (by omega)
    refine ⟨b, off, rfl, World.block_lt_of_cell? W _ (hcc 0 (by omega)), fun j hj => ?_⟩
    rw [hlen] at hj
    have h1 := hcc j (by omega)
    have hb := bounds_u8 (hwz (zs[j]'(by omega)) (List.getElem_mem _))
    rw [h1]
    have e1 : zs.getD j 0 = zs[j]'(by omega) := by simp [List.getD, show j < zs.length by omega]
    have e2 : (((zs.take len).map fun z => UInt8.ofNat z.toNat)[j]'(by rw [hlen]; exact hj)).toNat = (zs[j]'(by omega)).toNat := by
      simp; omega
    rw [e2, e1]
    congr 2
    omega

end Go.Proofs.YtdnpoeegefkoiaaGreat

namespace Go.Proofs.YtdnpoeegefkoiaaGreat
open Go.RowKit

def isHalfB (n : Int) : Bool := decide (0 ≤ n ∧ n < 16)

set_option maxHeartbeats 400000 in
theorem isHalf_any (n : Int) (w : World) :
    Calls Tryz.prog 120 #[.int .i64 n] w fun e w' => e = .returned (.bool (isHalfB n)) ∧ w = w' := by
  by_cases h1 : 0 ≤ n <;> by_cases h2 : n < 16
  all_goals
    go_enter Tryz.func120, Tryz.ntmps120
    go_wp2
    go_ret
    refine ⟨?_, rfl⟩
    simp [isHalfB, *]

def pairB (h l : Int) : Bool := decide (0 ≤ h ∧ h < 16 ∧ 0 ≤ l ∧ l < 16)
def pairV (h l : Int) : Int := if pairB h l = true then h * 16 + l else 0

set_option maxHeartbeats 400000 in
theorem pair_any (h l : Int) (w : World) :
    Calls Tryz.prog 93 #[.int .i64 h, .int .i64 l] w fun e w' => e = .returned (.tuple #[.int .u8 (pairV h l), .bool (pairB h l)]) ∧ w = w' := by
  by_cases h1 : 0 ≤ h <;> by_cases h2 : h < 16 <;> by_cases h3 : 0 ≤ l <;> by_cases h4 : l < 16
  all_goals
    go_enter Tryz.func93, Tryz.ntmps93
    go_wp2
    go_ret2
    refine ⟨?_, rfl⟩
    (simp [pairV, pairB, *]) <;> omega

set_option maxHeartbeats 400000 in
theorem halves_any (x : Int) (w : World) (h0 : 0 ≤ x) (h1 : x < 256) :
    Calls Tryz.prog 95 #[.int .u8 x] w fun e w' => e = .returned (.tuple #[.int .i64 (x / 16), .int .i64 (x % 16)]) ∧ w = w' := by
  go_enter Tryz.func95, Tryz.ntmps95
  go_wp2
  go_ret2
  exact ⟨rfl, rfl⟩

end Go.Proofs.YtdnpoeegefkoiaaGreat

namespace Go.Proofs.YtdnpoeegefkoiaaGreat
open Go.RowKit

def b8 (x : UInt8) : Value := .int .u8 (x.toNat : Int)
/-- block g holds just these bytes -/
def Blk (w : World) (g : Nat) (l : List UInt8) : Prop := w.heap[g]? = some (.cells (l.map b8).toArray 5 (0, 0))
/-- a byte slice that is nil, or stands at the head of a block from B on -/
def Own (w : World) (B : Nat) (v : Value) (l : List UInt8) : Prop :=
  (v = .slice none 0 0 ∧ l = []) ∨ ∃ g r, v = .slice (some ⟨g, 0, none⟩) l.length (l.length + r.length) ∧ B ≤ g ∧ l.length + r.length ≤ maxLen ∧ Blk w g (l ++ r)

theorem u8_info : (Tryz.prog.info? 5).map (fun i => (i.zero, i.size, i.bytes)) = some (some (.int .u8 0), 1, 1) := by kernel_rfl

theorem b8_one (l : List UInt8) : ∀ u ∈ l.map b8, u.oneCell' = true := by
  intro u hu
  obtain ⟨x, _, rfl⟩ := List.mem_map.1 hu
  rfl

section
variable {w w' : World} {B g : Nat} {v : Value} {l : List UInt8}
theorem Blk.lt (h : Blk w g l) : g < w.heap.size := by
  rcases Nat.lt_or_ge g w.heap.size with h' | h'
  · exact h'
  · unfold Blk at h; rw [Array.getElem?_eq_none h'] at h; cases h
theorem Blk.cell (h : Blk w g l) {j : Nat} (hj : j < l.length) : w.cell? ⟨g, j, none⟩ = some (.int .u8 (l[j].toNat : Int)) := by
  unfold Blk at h
  simp only [World.cell?, h]
  simp [hj, b8]
theorem Blk.frozen (h : Blk w g l) (j : Nat) : w.frozen? ⟨g, j, none⟩ = false := by
  unfold Blk at h
  simp [World.frozen?, h]
theorem Blk.at_ (h : w'.heap[g]? = w.heap[g]?) (hb : Blk w g l) : Blk w' g l := h.trans hb
theorem Blk.below (h : Blk w g l) (hb : Below B w w') (hg : g < B) : Blk w' g l := (hb.block g hg).trans h
theorem Blk.alloc (h : Blk w g l) (o : Obj) : Blk (w.alloc o) g l := (Below.heap_alloc w o g h.lt).trans h
theorem Blk.kept {row : Option Nat} (h : Blk w g l) (hg : w.grownBy w' row) (hne : row ≠ some g) : Blk w' g l := (hg.block g h.lt (fun e => hne e.symm)).trans h
theorem Blk.store (h : Blk w g l) (j : Nat) (x : UInt8) : Blk (w.setCell ⟨g, j, none⟩ (b8 x)) g (l.set j x) := by
  unfold Blk at h ⊢
  simp only [World.setCell, Array.getElem?_modify, h]
  simp [List.map_set]
theorem Blk.other (h : Blk w g l) {p : Addr} (hp : p.block ≠ g) (u : Value) : Blk (w.setCell p u) g l := (Below.heap_setCell w p u g (fun e => hp e.symm)).trans h
theorem Blk.lies (h : Blk w g l) {m : List UInt8} (hm : m <+: l) (hB : g < B) : Lies w B (some ⟨g, 0, none⟩) m := fun _ => by
  obtain ⟨r, rfl⟩ := hm
  refine ⟨g, 0, rfl, hB, fun j hj => ?_⟩
  rw [Nat.zero_add, h.cell (by simp; omega)]
  simp [List.getElem_append_left hj]
theorem Blk.drop (h : Blk w g l) (k : Nat) (hB : g < B) : Lies w B (some ⟨g, k, none⟩) (l.drop k) := fun hl => by
  refine ⟨g, k, rfl, hB, fun j hj => ?_⟩
  have : k + j < l.length := by simp at hj; omega
  rw [h.cell this]
  simp
theorem blk_new (w : World) (l : List UInt8) : Blk (w.alloc (.cells (l.map b8).toArray 5)) w.heap.size l := heap_alloc_new w _
theorem blk_lit (w : World) (l : List UInt8) (cs : Array Value) (hcs : cs.toList = l.map b8) : Blk (w.alloc (.cells cs 5)) w.heap.size l := by
  have : cs = (l.map b8).toArray := by apply Array.ext'; rw [hcs]
  subst this
  exact blk_new w l

theorem Own.nil (w : World) (B : Nat) : Own w B (.slice none 0 0) [] := .inl ⟨rfl, rfl⟩
theorem Own.of (h : Blk w g l) (hB : B ≤ g) (n : Nat) (hn : n ≤ l.length) (hm : l.length ≤ maxLen) : Own w B (.slice (some ⟨g, 0, none⟩) n l.length) (l.take n) := by
  refine .inr ⟨g, l.drop n, ?_, hB, by simp; omega, by rw [List.take_append_drop]; exact h⟩
  congr 1 <;> simp <;> omega
theorem Own.lt (h : Own w B v l) : ∀ k, v.ownBlock = some k → B ≤ k ∧ k < w.heap.size := by
  rintro k hk
  rcases h with ⟨rfl, _⟩ | ⟨g, r, rfl, hB, _, hb⟩
  · cases hk
  · simp only [Value.ownBlock, Option.some.injEq] at hk
    subst hk
    exact ⟨hB, hb.lt⟩
theorem Own.drew (h : Own w B v l) : Own w.drew B v l := h
theorem Own.drewN (h : Own w B v l) (n : Nat) : Own (w.drewN n) B v l := h
theorem Own.alloc (h : Own w B v l) (o : Obj) : Own (w.alloc o) B v l := by
  rcases h with h | ⟨g, r, e, hB, hm, hb⟩
  · exact .inl h
  · exact .inr ⟨g, r, e, hB, hm, hb.alloc o⟩
theorem Own.kept {row : Option Nat} (h : Own w B v l) (hg : w.grownBy w' row) (hne : v.ownBlock = none ∨ v.ownBlock ≠ row) : Own w' B v l := by
  rcases h with h | ⟨g, r, rfl, hB, hm, hb⟩
  · exact .inl h
  · refine .inr ⟨g, r, rfl, hB, hm, hb.kept hg (fun e => ?_)⟩
    rcases hne with h | h
    · cases h
    · exact h e.symm
theorem Own.below (h : Own w B v l) (hb : Below w.heap.size w w') : Own w' B v l := by
  rcases h with h | ⟨g, r, rfl, hB, hm, hb'⟩
  · exact .inl h
  · exact .inr ⟨g, r, rfl, hB, hm, hb'.below hb hb'.lt⟩
theorem Own.base {B' : Nat} (h : Own w B v l) (hB : B' ≤ B) : Own w B' v l := by
  rcases h with h | ⟨g, r, e, hg, q⟩
  · exact .inl h
  · exact .inr ⟨g, r, e, Nat.le_trans hB hg, q⟩
theorem Own.form (h : Own w B v l) : ∃ A c, v = .slice A l.length c ∧ l.length ≤ c ∧ (A = none → c = 0) ∧ Lies w w.heap.size A l := by
  rcases h with ⟨rfl, rfl⟩ | ⟨g, r, rfl, hB, hm, hb⟩
  · exact ⟨none, 0, rfl, Nat.le_refl _, fun _ => rfl, Lies.empty _ _ _⟩
  · exact ⟨_, _, rfl, Nat.le_add_right _ _, fun e => by (cases e), hb.lies (List.prefix_append l r) hb.lt⟩
theorem Own.formN (h : Own w B v l) : ∃ A n c, v = .slice A n c ∧ Hid (l.length = n) ∧ n ≤ c ∧ (A = none → c = 0) ∧ Lies w w.heap.size A l := by
  obtain ⟨A, c, e, h1, h2, h3⟩ := h.form
  exact ⟨A, l.length, c, e, rfl, h1, h2, h3⟩
theorem Own.row (h : Own w B v l) : w.ownsRow B 5 1 v l.length (l.map b8) := by
  refine ⟨by simp, ?_⟩
  rcases h with ⟨rfl, rfl⟩ | ⟨g, r, rfl, hB, hm, hb⟩
  · exact .inl ⟨rfl, rfl⟩
  · refine .inr ⟨g, _, _, rfl, hB, hb, Nat.le_add_right _ _, hm, by simp, ?_⟩
    simp
end

theorem zero_b8 (n : Nat) : (Builtin.zeroCells #[(Value.int .u8 0)] n).toList = (List.replicate n (0 : UInt8)).map b8 := by
  apply List.ext_getElem
  · simp [Builtin.zeroCells]
  · intro i h1 h2
    simp [Builtin.zeroCells, b8, Nat.mod_one]

theorem add_zero_off (g o j : Nat) : (⟨g, o, none⟩ : Addr).add j = ⟨g, o + j, none⟩ := by
  by_cases h : j = 0 <;> simp [Addr.add, h]

def capOf : Value → Nat | .slice _ _ c => c | _ => 0

set_option maxRecDepth 10000 in
theorem run_app (w : World) (B : Nat) (v : Value) (l : List UInt8) (hown : Own w B v l) (a : Addr) (c : Nat) (l2 : List UInt8)
    (hl : ∀ j (h : j < l2.length), w.cell? (a.add j) = some (b8 l2[j])) (hsz : l.length + l2.length ≤ 140737488355328) (hB : B ≤ w.heap.size) (ty : TypeId) :
    ∃ v' w', (Builtin.append_ #[23, 23] ty #[v, .slice (some a) l2.length c]).run Tryz.prog w = .ok v' w' ∧ Own w' B v' (l ++ l2) ∧ w.grownBy w' v.ownBlock ∧ (l.length + l2.length ≤ capOf v → capOf v' = capOf v) := by
  obtain ⟨i0, hi0, hz0, hz1, hz2⟩ := info_parts u8_info
  have hnews : ∀ j u, (l2.map b8)[j]? = some u → w.cell? (a.add j) = some u := by
    intro j u hu
    have hj : j < l2.length := by have := (List.getElem?_eq_some_iff.1 hu).1; simpa using this
    rw [hl j hj]
    simpa [hj] using hu
  have hl2 : (l2.map b8).length = l2.length * i0.size := by simp [hz1]
  have grown : ∀ (n old : Nat), l.length + l2.length = n → ∀ row : Option Nat,
      Own (w.drew.alloc (.cells ((l.map b8).toArray ++ (l2.map b8).toArray ++ Builtin.zeroCells (Value.int .u8 0).cells (grownCap w n old 5 - n)) 5)) B
        (.slice (some ⟨w.heap.size, 0, none⟩) n (grownCap w n old 5)) (l ++ l2) ∧
      w.grownBy (w.drew.alloc (.cells ((l.map b8).toArray ++ (l2.map b8).toArray ++ Builtin.zeroCells (Value.int .u8 0).cells (grownCap w n old 5 - n)) 5)) row := by
    intro n old hn row
    have hge := grownCap_ge w n old 5
    have hcm : grownCap w n old 5 ≤ maxLen := grownCap_le_maxLen w n old 5 (by simp only [maxLen]; omega)
    refine ⟨.inr ⟨w.heap.size, List.replicate (grownCap w n old 5 - n) 0, ?_, hB, ?_, ?_⟩, ⟨rfl, rfl, rfl, by simp, fun k hk _ => heap_alloc_old w.drew _ hk⟩⟩
    · congr 1
      · simp [hn]
      · simp; omega
    · simp; omega
    · refine blk_lit w.drew (l ++ l2 ++ List.replicate (grownCap w n old 5 - n) 0) _ ?_
      have hc : (Value.int .u8 0).cells = #[(Value.int .u8 0)] := rfl
      rw [hc, Array.toList_append, Array.toList_append, zero_b8]
      simp
  rcases hown with ⟨rfl, rfl⟩ | ⟨g, r, rfl, hBg, hcm, hb⟩
  · by_cases hm : l2.length = 0
    · obtain rfl := List.eq_nil_of_length_eq_zero hm
      refine ⟨.slice none 0 0, w, ?_, Own.nil _ _, World.grownBy.refl _ _, fun _ => rfl⟩
      simp [Builtin.append_, run_underlying Tryz.underlying23, sizeOf, typeInfo, hi0, Builtin.lenOf, Builtin.firstCells, loadCells, loadCellsFrom]
    · have hr := run_append_nil (P := Tryz.prog) w 23 ty 5 i0 _ Tryz.underlying23 hi0 hz0 a l2.length c (l2.map b8) hl2 hnews (by omega) (by simp at hsz; omega) (by rw [hz2]; simp at hsz; omega)
      have hg := grown l2.length 0 (by simp) (Value.ownBlock (.slice none 0 0))
      simp only [List.map_nil, List.nil_append, Array.empty_append] at hg ⊢
      exact ⟨_, _, hr, hg.1, hg.2, fun h => by simp [capOf] at h; subst h; exact absurd rfl hm⟩
  · by_cases hroom : l.length + l2.length ≤ l.length + r.length
    · have hfit : l.length * i0.size + (l2.map b8).length ≤ (((l ++ r).map b8).toArray).size := by simp [hz1]; omega
      have hr := run_append_room (P := Tryz.prog) w 23 ty 5 i0 Tryz.underlying23 hi0 g l.length (l.length + r.length) _ hb a l2.length c (l2.map b8) hl2 hnews (b8_one _) hroom hfit
      refine ⟨_, _, hr, .inr ⟨g, r.drop l2.length, ?_, hBg, by simp; omega, ?_⟩, ⟨rfl, rfl, rfl, by simp, fun k _ hk => setRow_other w g k _ (fun e => hk (by simp [Value.ownBlock, e]))⟩, fun _ => rfl⟩
      · congr 1 <;> simp <;> omega
      · have := setRow_heap w g _ (((l ++ r).map b8).take (l.length * i0.size) ++ l2.map b8 ++ ((l ++ r).map b8).drop (l.length * i0.size + (l2.map b8).length)).toArray _ _ hb
        unfold Blk
        simp only at *
        rw [this]
        congr 2
        simp [hz1, List.drop_append]
    · have holds : ∀ j u, (l.map b8)[j]? = some u → w.cell? ((⟨g, 0, none⟩ : Addr).add j) = some u := by
        intro j u hu
        have hj : j < l.length := by have := (List.getElem?_eq_some_iff.1 hu).1; simpa using this
        rw [add_zero_off, Nat.zero_add, hb.cell (by simp; omega)]
        simpa [hj, b8, List.getElem_append_left hj] using hu
      have hr := run_append_grow (P := Tryz.prog) w 23 ty 5 i0 _ Tryz.underlying23 hi0 hz0 ⟨g, 0, none⟩ l.length (l.length + r.length) (l.map b8) (by simp [hz1]) holds a l2.length c (l2.map b8) hl2 hnews (by omega) (by omega)
        (growslice_fits (by omega) (by rw [hz2]; omega))
      have hg := grown (l.length + l2.length) (l.length + r.length) rfl (Value.ownBlock (.slice (some ⟨g, 0, none⟩) l.length (l.length + r.length)))
      exact ⟨_, _, hr, hg.1, hg.2, fun h => absurd h hroom⟩

section
variable {ops : Array Oper} {rest : List Oper} {o : Oper} {a : Act} {Q : Exit → Act → World → Prop}
theorem app_cap (w : World) (hgd : o.guard = none) (s x : Operand) (ho : o.op = .call { callee := .builtin .append, args := #[s, x], argTypes := #[23, 23] })
    (B : Nat) (v : Value) (l : List UInt8) (hs : a.eval s = v) (hown : Own w B v l)
    (A : Option Addr) (c C : Nat) (l2 : List UInt8) (hx : a.eval x = .slice A l2.length c) (hc : A = none → c = 0) (hl : Lies w C A l2)
    (hsz : l.length + l2.length ≤ 140737488355328) (hB : B ≤ w.heap.size)
    (h : ∀ v' w', Own w' B v' (l ++ l2) → w.grownBy w' v.ownBlock → (l.length + l2.length ≤ capOf v → capOf v' = capOf v) → wpList Tryz.prog ops Q rest (a.put o.dst v') w') : wpList Tryz.prog ops Q (o :: rest) a w := by
  refine wpList_plain hgd fun K hK' => ?_
  have hrun : ∃ v' w', (Builtin.append_ #[23, 23] o.type #[v, .slice A l2.length c]).run Tryz.prog w = .ok v' w' ∧ Own w' B v' (l ++ l2) ∧ w.grownBy w' v.ownBlock ∧ (l.length + l2.length ≤ capOf v → capOf v' = capOf v) := by
    rcases A with _ | ad
    · have h0 : l2 = [] := by
        rcases l2 with _ | ⟨y, l2⟩
        · rfl
        · obtain ⟨g, o, e, _⟩ := hl (by simp)
          cases e
      subst h0
      obtain rfl := hc rfl
      obtain ⟨i0, hi0, hz0, hz1, hz2⟩ := info_parts u8_info
      have hrun := run_append_owned_none (P := Tryz.prog) w B 23 o.type 5 i0 1 Tryz.underlying23 hi0 v l.length (l.map b8) hown.row
      exact ⟨_, _, hrun, by simpa using hown, World.grownBy.refl _ _, fun _ => rfl⟩
    · refine run_app w B v l hown ad c l2 (fun j hj => ?_) hsz hB _
      obtain ⟨g, o, e, _, hcell⟩ := hl.at_ hj
      cases e
      rw [add_zero_off, hcell]
      rfl
  obtain ⟨v', w', hr, h1, h2, h3⟩ := hrun
  unfold Oper.wp execOp
  simp only [ho, resolve, invoke, builtin, Sem.run_bind, Sem.run_pure, Result.andThen_ok, List.map_toArray, List.map_cons, List.map_nil, hs, hx, hr]
  exact hK' _ _ (h v' w' h1 h2 h3)
theorem app_slice (w : World) (hgd : o.guard = none) (s x : Operand) (ho : o.op = .call { callee := .builtin .append, args := #[s, x], argTypes := #[23, 23] })
    (B : Nat) (v : Value) (l : List UInt8) (hs : a.eval s = v) (hown : Own w B v l)
    (A : Option Addr) (c C : Nat) (l2 : List UInt8) (hx : a.eval x = .slice A l2.length c) (hc : A = none → c = 0) (hl : Lies w C A l2)
    (hsz : l.length + l2.length ≤ 140737488355328) (hB : B ≤ w.heap.size)
    (h : ∀ v' w', Own w' B v' (l ++ l2) → w.grownBy w' v.ownBlock → wpList Tryz.prog ops Q rest (a.put o.dst v') w') : wpList Tryz.prog ops Q (o :: rest) a w :=
  app_cap w hgd s x ho B v l hs hown A c C l2 hx hc hl hsz hB fun v' w' h1 h2 _ => h v' w' h1 h2
end

theorem lies_lit (w : World) (t : TypeId) (l : List UInt8) (cs : Array Value) (hcs : cs.toList = l.map b8) : Lies (w.alloc (.cells cs t)) (w.alloc (.cells cs t)).heap.size (some ⟨w.heap.size, 0, none⟩) l := by
  intro _
  refine ⟨_, _, rfl, by simp, fun j hj => ?_⟩
  have hh := heap_alloc_new w (.cells cs t)
  have : cs[j]? = some (b8 l[j]) := by rw [← Array.getElem?_toList, hcs]; simp [hj]
  simp only [World.cell?, hh]
  simpa [b8] using this

def Made (w : World) (l : List UInt8) (e : Ending) (w' : World) : Prop := ∃ v, e = .returned v ∧ Own w' w.heap.size v l ∧ Below w.heap.size w w'

/-- the same, with so much room in all -/
def MadeC (w : World) (l : List UInt8) (c : Nat) (e : Ending) (w' : World) : Prop := ∃ v, e = .returned v ∧ Own w' w.heap.size v l ∧ Below w.heap.size w w' ∧ capOf v = c
theorem MadeC.made {w : World} {l : List UInt8} {c : Nat} {e : Ending} {w' : World} (h : MadeC w l c e w') : Made w l e w' := by
  obtain ⟨v, h1, h2, h3, _⟩ := h
  exact ⟨v, h1, h2, h3⟩

theorem below_grown {B : Nat} {w w1 w2 : World} {v : Value} {l : List UInt8} (hb : Below B w w1) (hg : w1.grownBy w2 v.ownBlock) (ho : Own w1 B v l) (hB : B ≤ w1.heap.size) : Below B w w2 :=
  hb.grown hg hB fun k hk => (ho.lt k hk).1

theorem own_room {w : World} {B g c : Nat} (h : Blk w g (List.replicate c 0)) (hB : B ≤ g) (hc : c ≤ 140737488355328) : Own w B (.slice (some ⟨g, 0, none⟩) 0 c) [] := by
  have := Own.of h hB 0 (Nat.zero_le _) (by simp only [List.length_replicate, maxLen]; omega)
  simpa using this

theorem make_bytes {ops : Array Oper} {rest : List Oper} {o : Oper} {a : Act} {Q : Exit → Act → World → Prop} (w : World) (hgd : o.guard = none) (x y : Operand) (ho : o.op = Op.makeSlice 23 x y) (n c : Nat) (N C : Int)
    (hx : a.eval x = .int .i64 N) (hy : a.eval y = .int .i64 C) (hN : N = (n : Int)) (hC : C = (c : Int)) (hnc : n ≤ c) (hc : c ≤ 140737488355328)
    (hK : ∀ w', Blk w' w.heap.size (List.replicate c 0) → Below w.heap.size w w' → w.heap.size < w'.heap.size → wpList Tryz.prog ops Q rest (a.put o.dst (.slice (some ⟨w.heap.size, 0, none⟩) n c)) w') :
    wpList Tryz.prog ops Q (o :: rest) a w := by
  obtain ⟨i0, hi0, hz0, hz1, hz2⟩ := info_parts u8_info
  subst hC hN
  refine wpList_plain hgd fun K hK' => ?_
  have hrun := run_make (P := Tryz.prog) w 23 5 i0 _ Tryz.underlying23 hi0 hz0 .i64 .i64 n c (by omega) (by omega) (by rw [hz2]; omega) (by omega)
  simp only [Int.toNat_natCast] at hrun
  unfold Oper.wp
  simp [execOp, ho, hx, hy, hrun, Result.andThen]
  refine hK' _ _ (hK _ ?_ ((Below.refl _ _).alloc (Nat.le_refl _) _) (by simp))
  refine blk_lit w (List.replicate c 0) _ ?_
  rw [hz1, Nat.mul_one]
  show (madeCells #[.int .u8 0] c).toList = _
  rw [toList_madeCells_one]
  simp [b8]

end Go.Proofs.YtdnpoeegefkoiaaGreat

namespace Go.Proofs.YtdnpoeegefkoiaaGreat
open Go

section
variable {P : Program} {fn : Func} {p u v : Tmp} {ty : TypeId}
theorem res_row_tmp (h : fn.results = #[.cell p ty, .tmp u]) (tmps : Array Value) (w : World) (g : Nat) (t : TypeId) (cs : Array Value) (fr : Nat × Nat) (d : TypeDesc)
    (hp : tmps.getD p undef = .pointer (some ⟨g, 0, none⟩)) (hg : w.heap[g]? = some (.cells cs t fr))
    (hu : P.underlying ty = some d) (hd : (match d with | .struct _ | .array _ _ => true | _ => false) = true) (hi : (P.info? ty).map (·.size) = some cs.size) :
    (results fn tmps).run P w = .ok (.tuple #[.agg cs, tmps.getD u undef]) w := by
  have hp' : tmps[p]?.getD undef = .pointer (some ⟨g, 0, none⟩) := by simpa using hp
  simp [results, h, hp', asAddr, run_loadVar_row w g t ty cs fr d hg hu hd hi]
theorem res_row_tmp2 (h : fn.results = #[.cell p ty, .tmp u, .tmp v]) (tmps : Array Value) (w : World) (g : Nat) (t : TypeId) (cs : Array Value) (fr : Nat × Nat) (d : TypeDesc)
    (hp : tmps.getD p undef = .pointer (some ⟨g, 0, none⟩)) (hg : w.heap[g]? = some (.cells cs t fr))
    (hu : P.underlying ty = some d) (hd : (match d with | .struct _ | .array _ _ => true | _ => false) = true) (hi : (P.info? ty).map (·.size) = some cs.size) :
    (results fn tmps).run P w = .ok (.tuple #[.agg cs, tmps.getD u undef, tmps.getD v undef]) w := by
  have hp' : tmps[p]?.getD undef = .pointer (some ⟨g, 0, none⟩) := by simpa using hp
  simp [results, h, hp', asAddr, run_loadVar_row w g t ty cs fr d hg hu hd hi]
end

end Go.Proofs.YtdnpoeegefkoiaaGreat

namespace Go.Proofs.YtdnpoeegefkoiaaGreat

/-- 128 to the n -/
def pw (n : Nat) : Int := 2 ^ (7 * n)
theorem pw_succ (n : Nat) : pw (n + 1) = 128 * pw n := by
  unfold pw
  rw [show 7 * (n + 1) = 7 * n + 7 from by omega, Int.pow_add]
  omega
theorem pw_pos (n : Nat) : 0 < pw n := by unfold pw; exact Int.pow_pos (by omega)
theorem pw_zero : pw 0 = 1 := rfl

/-- do n bytes say the number? b: it may be below 0 -/
def fit (b : Bool) (x : Int) (n : Nat) : Prop := 10 ≤ n ∨ (if b = true then -(64 * pw (n - 1)) ≤ x ∧ x < 64 * pw (n - 1) else x < pw n)
instance (b : Bool) (x : Int) (n : Nat) : Decidable (fit b x n) := by unfold fit; infer_instance
def rng (b : Bool) (x : Int) : Prop := if b = true then -9223372036854775808 ≤ x ∧ x < 9223372036854775808 else 0 ≤ x ∧ x < 18446744073709551616
theorem fit_u {x : Int} {n : Nat} : fit false x n ↔ 10 ≤ n ∨ x < pw n := by simp [fit]
theorem fit_s {x : Int} {n : Nat} : fit true x n ↔ 10 ≤ n ∨ (-(64 * pw (n - 1)) ≤ x ∧ x < 64 * pw (n - 1)) := by simp [fit]
theorem pw_mono {m n : Nat} (h : m ≤ n) : pw m ≤ pw n := by
  obtain ⟨k, rfl⟩ := Nat.exists_eq_add_of_le h
  induction k with
  | zero => exact Int.le_refl _
  | succ k ih =>
    have := ih (by omega)
    have := pw_pos (m + k)
    rw [← Nat.add_assoc, pw_succ]; omega
theorem fit_mono {b : Bool} {x : Int} {m n : Nat} (h : m ≤ n) (hf : fit b x m) : fit b x n := by
  cases b
  · rw [fit_u] at *
    have := pw_mono h
    rcases hf with h | h
    · exact .inl (by omega)
    · exact .inr (by omega)
  · rw [fit_s] at *
    have := pw_mono (show m - 1 ≤ n - 1 by omega)
    rcases hf with h | h
    · exact .inl (by omega)
    · exact .inr (by omega)

def lsz (b : Bool) (x : Int) : Nat → Nat → Nat
  | 0, n => n
  | k + 1, n => if fit b x n then n else lsz b x k (n + 1)
/-- the least count of bytes that say it -/
def size (b : Bool) (x : Int) : Nat := lsz b x 9 1

theorem lsz_spec (b : Bool) (x : Int) : ∀ k n, n + k = 10 → n ≤ lsz b x k n ∧ lsz b x k n ≤ 10 ∧ fit b x (lsz b x k n) ∧ ∀ m, n ≤ m → m < lsz b x k n → ¬ fit b x m := by
  intro k
  induction k with
  | zero => intro n h; exact ⟨Nat.le_refl _, by simp [lsz]; omega, .inl (by simp [lsz]; omega), fun m h1 h2 => by simp [lsz] at h2; omega⟩
  | succ k ih =>
    intro n h
    by_cases hf : fit b x n
    · simp only [lsz, if_pos hf]
      exact ⟨Nat.le_refl _, by omega, hf, fun m h1 h2 => by omega⟩
    · simp only [lsz, if_neg hf]
      obtain ⟨h1, h2, h3, h4⟩ := ih (n + 1) (by omega)
      refine ⟨by omega, h2, h3, fun m hm hm2 => ?_⟩
      by_cases e : m = n
      · subst e; exact hf
      · exact h4 m (by omega) hm2
theorem size_pos (b : Bool) (x : Int) : 1 ≤ size b x := (lsz_spec b x 9 1 rfl).1
theorem size_le (b : Bool) (x : Int) : size b x ≤ 10 := (lsz_spec b x 9 1 rfl).2.1
theorem size_fit (b : Bool) (x : Int) : fit b x (size b x) := (lsz_spec b x 9 1 rfl).2.2.1
theorem size_min {b : Bool} {x : Int} {m : Nat} (h1 : 1 ≤ m) (h : m < size b x) : ¬ fit b x m := (lsz_spec b x 9 1 rfl).2.2.2 m h1 h
theorem size_of {b : Bool} {x : Int} {n : Nat} (hf : fit b x n) (h1 : 1 ≤ n) (hm : n = 1 ∨ ¬ fit b x (n - 1)) : size b x = n := by
  rcases Nat.lt_trichotomy (size b x) n with h | h | h
  · have := size_pos b x
    rcases hm with rfl | hm
    · omega
    · exact absurd (fit_mono (by omega) (size_fit b x)) hm
  · exact h
  · exact absurd hf (size_min h1 h)
theorem size_le_of {b : Bool} {x : Int} {n : Nat} (hf : fit b x n) (h1 : 1 ≤ n) : size b x ≤ n := by
  rcases Nat.lt_or_ge n (size b x) with h | h
  · exact absurd hf (size_min h1 h)
  · exact h

/-- what n bytes of x say -/
def told (b : Bool) (x : Int) (n : Nat) : Int := if n = 10 then x else if b = true then (x + 64 * pw (n - 1)) % pw n - 64 * pw (n - 1) else x % pw n
theorem told_fit {b : Bool} {x : Int} {n : Nat} (hr : rng b x) (h1 : 1 ≤ n) (h2 : n ≤ 10) : told b x n = x ↔ fit b x n := by
  unfold told
  by_cases h : n = 10
  · simp [h, fit]
  · rw [if_neg h]
    obtain ⟨k, rfl⟩ : ∃ k, n = k + 1 := ⟨n - 1, by omega⟩
    have hp := pw_succ k
    have hq := pw_pos k
    cases b
    · simp only [rng, Bool.false_eq_true, if_false] at hr
      rw [fit_u]
      simp only [Bool.false_eq_true, if_false]
      constructor
      · intro e
        have := Int.emod_lt_of_pos x (pw_pos (k + 1))
        exact .inr (by omega)
      · rintro (e | e)
        · omega
        · exact Int.emod_eq_of_lt hr.1 e
    · rw [fit_s]
      simp only [if_true, Nat.add_sub_cancel]
      constructor
      · intro e
        have h3 := Int.emod_lt_of_pos (x + 64 * pw k) (pw_pos (k + 1))
        have h4 := Int.emod_nonneg (x + 64 * pw k) (show pw (k + 1) ≠ 0 by omega)
        exact .inr (by omega)
      · rintro (e | e)
        · omega
        · rw [Int.emod_eq_of_lt (by omega) (by omega)]; omega

/-- a digit -/
def dgt (x : Int) (i : Nat) : Int := x / pw i % 128
theorem dgt_lt (x : Int) (i : Nat) : 0 ≤ dgt x i ∧ dgt x i < 128 := by unfold dgt; omega
/-- byte i of n -/
def eb (x : Int) (n i : Nat) : UInt8 := UInt8.ofNat ((dgt x i).toNat + if i + 1 < n then 128 else 0)
theorem eb_last (x : Int) (n i : Nat) (h : n ≤ i + 1) : ((eb x n i).toNat : Int) = dgt x i := by
  have := dgt_lt x i
  unfold eb; rw [if_neg (by omega)]; simp; omega
theorem eb_more (x : Int) (n i : Nat) (h : i + 1 < n) : ((eb x n i).toNat : Int) = dgt x i + 128 := by
  have := dgt_lt x i
  unfold eb; rw [if_pos h]; simp; omega
/-- n bytes of a number -/
def enc (x : Int) (n : Nat) : List UInt8 := (List.range n).map (eb x n)
theorem enc_len (x : Int) (n : Nat) : (enc x n).length = n := by simp [enc]
theorem enc_get (x : Int) (n i : Nat) (h : i < (enc x n).length) : (enc x n)[i] = eb x n i := by simp [enc]
/-- its own bytes -/
def nB (b : Bool) (x : Int) : List UInt8 := enc x (size b x)
theorem nB_len (b : Bool) (x : Int) : (nB b x).length = size b x := enc_len _ _

theorem dgt_succ (x : Int) (i : Nat) : dgt x (i + 1) = dgt (x / 128) i := by
  have := pw_pos i
  unfold dgt
  rw [pw_succ, Int.ediv_ediv_of_nonneg (by omega)]
theorem enc_cons (x : Int) (n : Nat) : enc x (n + 1) = UInt8.ofNat ((x % 128).toNat + if 0 < n then 128 else 0) :: enc (x / 128) n := by
  have e0 : dgt x 0 = x % 128 := by simp [dgt, pw_zero]
  unfold enc
  rw [List.range_succ_eq_map, List.map_cons, List.map_map]
  congr 1
  · unfold eb; rw [e0]; simp
  · apply List.map_congr_left
    intro i _
    simp only [Function.comp, eb, dgt_succ]
    congr 2
    simp

/-- digits together -/
def sm : List UInt8 → Int
  | [] => 0
  | c :: r => (c.toNat : Int) % 128 + 128 * sm r
theorem sm_bound : ∀ l : List UInt8, 0 ≤ sm l ∧ sm l < pw l.length
  | [] => by simp [sm, pw_zero]
  | c :: r => by
    have := sm_bound r
    have hp := pw_succ r.length
    simp only [sm, List.length_cons]
    omega
theorem sm_append : ∀ (l m : List UInt8), sm (l ++ m) = sm l + pw l.length * sm m
  | [], m => by simp [sm, pw_zero]
  | c :: r, m => by
    rw [List.cons_append, sm, sm, sm_append r m, List.length_cons, pw_succ, Int.mul_assoc]
    generalize pw r.length * sm m = z
    omega
theorem mod_128 (x p : Int) (hp : 0 < p) : x % (128 * p) = x % 128 + 128 * (x / 128 % p) := by
  have h1 := Int.emod_add_mul_ediv (x / 128) p
  have h2 := Int.emod_nonneg (x / 128) (show p ≠ 0 by omega)
  have h3 := Int.emod_lt_of_pos (x / 128) hp
  have e : x = (x % 128 + 128 * (x / 128 % p)) + 128 * p * (x / 128 / p) := by
    rw [Int.mul_assoc]
    generalize p * (x / 128 / p) = z at *
    omega
  have : x % (128 * p) = ((x % 128 + 128 * (x / 128 % p)) + 128 * p * (x / 128 / p)) % (128 * p) := by rw [← e]
  rw [this, Int.add_mul_emod_self_left]
  exact Int.emod_eq_of_lt (by omega) (by omega)
theorem sm_enc (n : Nat) : ∀ x : Int, sm (enc x n) = x % pw n := by
  induction n with
  | zero => intro x; simp [enc, sm, pw_zero]
  | succ n ih =>
    intro x
    have hx : ((UInt8.ofNat ((x % 128).toNat + if 0 < n then 128 else 0)).toNat : Int) % 128 = x % 128 := by
      split <;> simp <;> omega
    rw [enc_cons, sm, ih, hx, pw_succ, mod_128 x (pw n) (pw_pos n)]

/-- the number of so many digits, s together -/
def val (b : Bool) (s : Int) (n : Nat) : Int :=
  if b = true then (if n < 10 then (if s < 64 * pw (n - 1) then s else s - pw n) else (if s % 18446744073709551616 < 9223372036854775808 then s % 18446744073709551616 else s % 18446744073709551616 - 18446744073709551616)) else s % 18446744073709551616

theorem pw_9 : pw 9 = 9223372036854775808 := by decide
theorem pw_10 : pw 10 = 1180591620717411303424 := by decide
theorem pw_lt9 {n : Nat} (h : n ≤ 9) : pw n ≤ 9223372036854775808 := by rw [← pw_9]; exact pw_mono h

theorem val_rng {b : Bool} {s : Int} {n : Nat} (h0 : 0 ≤ s) (h1 : s < pw n) (hn : 1 ≤ n) (hn2 : n ≤ 10) : rng b (val b s n) := by
  unfold val rng
  cases b
  · simp; omega
  · simp only [if_true]
    split
    · obtain ⟨k, rfl⟩ : ∃ k, n = k + 1 := ⟨n - 1, by omega⟩
      have hp := pw_succ k
      have := pw_lt9 (show k + 1 ≤ 9 by omega)
      simp only [Nat.add_sub_cancel]
      split <;> omega
    · split <;> omega

/-- what was put is what it was -/
theorem val_enc {b : Bool} {x : Int} {n : Nat} (hr : rng b x) (hn : 1 ≤ n) (hn2 : n ≤ 10) (hf : fit b x n) : val b (x % pw n) n = x := by
  obtain ⟨k, rfl⟩ : ∃ k, n = k + 1 := ⟨n - 1, by omega⟩
  have hp := pw_succ k
  have hq := pw_pos k
  unfold val
  cases b
  · simp only [rng, Bool.false_eq_true, if_false] at *
    rw [fit_u] at hf
    rcases hf with h | h
    · have : k = 9 := by omega
      subst this
      rw [pw_10, Int.emod_eq_of_lt hr.1 (by omega)]; omega
    · rw [Int.emod_eq_of_lt hr.1 h]; omega
  · simp only [rng, if_true, Nat.add_sub_cancel] at *
    rw [fit_s] at hf
    simp only [Nat.add_sub_cancel] at hf
    by_cases hk : k + 1 < 10
    · rw [if_pos hk]
      have hf := hf.resolve_left (by omega)
      by_cases h0 : 0 ≤ x
      · rw [Int.emod_eq_of_lt h0 (by omega), if_pos (by omega)]
      · have e : x % pw (k + 1) = x + pw (k + 1) := by
          have := Int.add_emod_right x (pw (k + 1))
          rw [← this]; exact Int.emod_eq_of_lt (by omega) (by omega)
        rw [e, if_neg (by omega)]; omega
    · rw [if_neg hk]
      have : k = 9 := by omega
      subst this
      rw [pw_10]
      split <;> omega

end Go.Proofs.YtdnpoeegefkoiaaGreat

namespace Go.Proofs.YtdnpoeegefkoiaaGreat

/-- byte j -/
def by_ (r : List UInt8) (j : Nat) : Nat := (r.getD j 0).toNat
theorem by_lt (r : List UInt8) (j : Nat) : by_ r j < 256 := (r.getD j 0).toNat_lt
theorem by_none (r : List UInt8) (j : Nat) (h : r.length ≤ j) : by_ r j = 0 := by unfold by_; rw [List.getD_eq_getElem?_getD, List.getElem?_eq_none h]; rfl
theorem by_get (r : List UInt8) (j : Nat) (h : j < r.length) : by_ r j = r[j].toNat := by simp [by_, h]
theorem by_zero (c : UInt8) (r : List UInt8) : by_ (c :: r) 0 = c.toNat := rfl
theorem by_succ (c : UInt8) (r : List UInt8) (j : Nat) : by_ (c :: r) (j + 1) = by_ r j := rfl

/-- how many bytes there are up to the first one below 128; 0: none of the first k is -/
def lg : List UInt8 → Nat → Nat
  | _, 0 => 0
  | [], _ => 0
  | c :: r, k + 1 => if c.toNat < 128 then 1 else if lg r k = 0 then 0 else lg r k + 1

theorem lg_is : ∀ (k : Nat) (r : List UInt8) (n : Nat), 1 ≤ n → n ≤ k → n ≤ r.length → by_ r (n - 1) < 128 → (∀ j, j < n - 1 → 128 ≤ by_ r j) → lg r k = n
  | 0, _, n, h1, h2, _, _, _ => by omega
  | k + 1, [], n, h1, _, h3, _, _ => by simp at h3; omega
  | k + 1, c :: r, n, h1, h2, h3, h4, h5 => by
    unfold lg
    by_cases hn : n = 1
    · subst hn
      rw [if_pos (by simpa [by_zero] using h4)]
    · obtain ⟨m, rfl⟩ : ∃ m, n = m + 2 := ⟨n - 2, by omega⟩
      have h0 := h5 0 (by omega)
      rw [by_zero] at h0
      rw [if_neg (by omega)]
      have := lg_is k r (m + 1) (by omega) (by omega) (by simpa using h3) (by simpa [by_succ] using h4) (fun j hj => by have := h5 (j + 1) (by omega); rwa [by_succ] at this)
      rw [this, if_neg (by omega)]
theorem lg_none : ∀ (k : Nat) (r : List UInt8), (∀ j, j < k → j < r.length → 128 ≤ by_ r j) → lg r k = 0
  | 0, r, _ => by cases r <;> rfl
  | k + 1, [], _ => rfl
  | k + 1, c :: r, h => by
    unfold lg
    have h0 := h 0 (by omega) (by simp)
    rw [by_zero] at h0
    rw [if_neg (by omega), lg_none k r (fun j hj hl => by have := h (j + 1) (by omega) (by simpa using hl); rwa [by_succ] at this)]
    rfl
theorem lg_has : ∀ (k : Nat) (r : List UInt8), lg r k ≠ 0 → lg r k ≤ k ∧ lg r k ≤ r.length ∧ by_ r (lg r k - 1) < 128 ∧ ∀ j, j < lg r k - 1 → 128 ≤ by_ r j
  | 0, r, h => by cases r <;> exact absurd rfl h
  | k + 1, [], h => absurd rfl h
  | k + 1, c :: r, h => by
    unfold lg at h ⊢
    by_cases hc : c.toNat < 128
    · rw [if_pos hc]
      exact ⟨by omega, by simp, by simpa [by_zero] using hc, fun j hj => by omega⟩
    · rw [if_neg hc] at h ⊢
      by_cases h0 : lg r k = 0
      · rw [if_pos h0] at h; exact absurd rfl h
      · rw [if_neg h0]
        obtain ⟨h1, h2, h3, h4⟩ := lg_has k r h0
        refine ⟨by omega, by simpa using h2, ?_, fun j hj => ?_⟩
        · obtain ⟨m, hm⟩ : ∃ m, lg r k = m + 1 := ⟨lg r k - 1, by omega⟩
          rw [hm] at h3 ⊢
          simpa [by_succ] using h3
        · rcases j with _ | j
          · rw [by_zero]; omega
          · rw [by_succ]; exact h4 j (by omega)

theorem sm_inj : ∀ (l m : List UInt8), l.length = m.length → (∀ j, by_ l j < 128 ↔ by_ m j < 128) → sm l = sm m → l = m
  | [], [], _, _, _ => rfl
  | [], _ :: _, h, _, _ => by simp at h
  | _ :: _, [], h, _, _ => by simp at h
  | c :: r, d :: q, h, hf, hs => by
    have h0 := hf 0
    rw [by_zero, by_zero] at h0
    simp only [sm] at hs
    have hc := c.toNat_lt
    have hd := d.toNat_lt
    have e : c.toNat = d.toNat := by omega
    have := sm_inj r q (by simpa using h) (fun j => by have := hf (j + 1); rwa [by_succ, by_succ] at this) (by omega)
    rw [this, UInt8.toNat_inj.1 e]

theorem sm_take_succ (r : List UInt8) (k : Nat) (h : k < r.length) : sm (r.take (k + 1)) = sm (r.take k) + pw k * ((by_ r k : Int) % 128) := by
  rw [List.take_succ_eq_append_getElem h, sm_append, by_get r k h]
  simp [sm, show min k r.length = k by omega]
theorem sm_top (r : List UInt8) (k : Nat) (h : k < r.length) (hb : by_ r k < 128) : sm (r.take (k + 1)) / pw k = by_ r k := by
  have hp := pw_pos k
  have hs := sm_bound (r.take k)
  rw [List.length_take, show min k r.length = k by omega] at hs
  rw [sm_take_succ r k h, Int.add_mul_ediv_left _ _ (by omega), Int.ediv_eq_zero_of_lt hs.1 hs.2]
  omega

/-- what n bytes told are, is the number of the digits -/
theorem told_val {b : Bool} {s : Int} {n : Nat} (h0 : 0 ≤ s) (h1 : s < pw n) (hn : 1 ≤ n) (hn2 : n ≤ 9) : told b s n = val b s n := by
  obtain ⟨k, rfl⟩ : ∃ k, n = k + 1 := ⟨n - 1, by omega⟩
  have hp := pw_succ k
  have hq := pw_pos k
  have h9 := pw_lt9 (show k + 1 ≤ 9 by omega)
  unfold told val
  rw [if_neg (by omega)]
  cases b
  · simp only [Bool.false_eq_true, if_false]
    rw [Int.emod_eq_of_lt h0 h1]; omega
  · simp only [if_true, Nat.add_sub_cancel]
    rw [if_pos (by omega)]
    split
    · rw [Int.emod_eq_of_lt (by omega) (by omega)]; omega
    · have e : (s + 64 * pw k) % pw (k + 1) = s + 64 * pw k - pw (k + 1) := by
        have := Int.add_emod_right (s + 64 * pw k - pw (k + 1)) (pw (k + 1))
        rw [Int.sub_add_cancel] at this
        rw [this]; exact Int.emod_eq_of_lt (by omega) (by omega)
      rw [e]; omega

theorem val_back {b : Bool} {s : Int} {n : Nat} (h0 : 0 ≤ s) (h1 : s < pw n) (hn : 1 ≤ n) (hn2 : n ≤ 10) (hd : dgt (val b s n) (n - 1) = s / pw (n - 1)) : val b s n % pw n = s := by
  obtain ⟨k, rfl⟩ : ∃ k, n = k + 1 := ⟨n - 1, by omega⟩
  have hp := pw_succ k
  have hq := pw_pos k
  by_cases hk : k < 9
  · have h9 := pw_lt9 (show k + 1 ≤ 9 by omega)
    unfold val
    cases b
    · simp only [Bool.false_eq_true, if_false]
      rw [Int.emod_eq_of_lt (by omega) (show s < 18446744073709551616 by omega), Int.emod_eq_of_lt h0 h1]
    · simp only [if_true, Nat.add_sub_cancel]
      rw [if_pos (by omega)]
      split
      · exact Int.emod_eq_of_lt h0 h1
      · have := Int.add_emod_right (s - pw (k + 1)) (pw (k + 1))
        rw [Int.sub_add_cancel] at this
        rw [← this]; exact Int.emod_eq_of_lt h0 h1
  · have : k = 9 := by omega
    subst this
    simp only [Nat.add_sub_cancel, dgt, pw_9] at hd
    rw [pw_10] at *
    unfold val at *
    cases b
    · simp only [Bool.false_eq_true, if_false] at *
      omega
    · simp only [if_true] at *
      rw [if_neg (by omega)] at *
      split at hd
      · rw [if_pos (by assumption)]; omega
      · rw [if_neg (by assumption)]; omega

/-- the number that stands at the head of bytes, if its own do -/
def hv (b : Bool) (r : List UInt8) : Int := val b (sm (r.take (lg r 10))) (lg r 10)
def good (b : Bool) (r : List UInt8) : Prop := lg r 10 ≠ 0 ∧ nB b (hv b r) <+: r
instance (b : Bool) (r : List UInt8) : Decidable (good b r) := by unfold good; infer_instance

theorem enc_flags (x : Int) (n j : Nat) : by_ (enc x n) j < 128 ↔ n ≤ j + 1 := by
  by_cases h : j < n
  · rw [by_get _ _ (by rw [enc_len]; exact h), enc_get]
    have := dgt_lt x j
    by_cases e : j + 1 < n
    · have := eb_more x n j e
      omega
    · have := eb_last x n j (by omega)
      omega
  · rw [by_none _ _ (by rw [enc_len]; omega)]
    omega

theorem by_prefix {l r : List UInt8} (h : l <+: r) {j : Nat} (hj : j < l.length) : by_ r j = by_ l j := by
  obtain ⟨t, rfl⟩ := h
  rw [by_get _ _ hj, by_get _ _ (by simp; omega), List.getElem_append_left hj]

theorem lg_nB {b : Bool} {x : Int} {r : List UInt8} (h : nB b x <+: r) : lg r 10 = size b x := by
  have h1 := size_pos b x
  have h2 := size_le b x
  have hl := nB_len b x
  have hle := h.length_le
  refine lg_is 10 r _ h1 h2 (by omega) ?_ (fun j hj => ?_)
  · rw [by_prefix h (by omega)]
    exact (enc_flags x _ _).2 (by omega)
  · rw [by_prefix h (by omega)]
    have := enc_flags x (size b x) j
    unfold nB; omega

theorem by_take (r : List UInt8) (n j : Nat) (h : j < n) : by_ (r.take n) j = by_ r j := by
  simp [by_, h]

theorem good_iff {b : Bool} {r : List UInt8} {n : Nat} (hn : lg r 10 = n) (h0 : n ≠ 0) : good b r ↔ size b (val b (sm (r.take n)) n) = n ∧ dgt (val b (sm (r.take n)) n) (n - 1) = by_ r (n - 1) := by
  obtain ⟨h1, h2, h3, h4⟩ := lg_has 10 r (by omega)
  rw [hn] at h1 h2 h3 h4
  have hs := sm_bound (r.take n)
  rw [List.length_take, show min n r.length = n by omega] at hs
  constructor
  · rintro ⟨_, hp⟩
    unfold hv at hp
    rw [hn] at hp
    have e := lg_nB hp
    rw [hn] at e
    refine ⟨e.symm, ?_⟩
    rw [by_prefix hp (by rw [nB_len, ← e]; omega)]
    unfold nB
    rw [← e, by_get _ _ (by rw [enc_len]; omega), enc_get]
    exact (eb_last _ _ _ (by omega)).symm
  · rintro ⟨e, hd⟩
    refine ⟨by omega, ?_⟩
    unfold hv nB
    rw [hn, e]
    have ht := sm_top r (n - 1) (by omega) h3
    rw [show n - 1 + 1 = n by omega] at ht
    have hm := val_back (b := b) hs.1 hs.2 (by omega) h1 (by rw [ht]; exact hd)
    have : enc (val b (sm (r.take n)) n) n = r.take n := by
      refine sm_inj _ _ (by rw [enc_len]; simp; omega) (fun j => ?_) (by rw [sm_enc, hm])
      rw [enc_flags]
      by_cases hj : j < n
      · rw [by_take _ _ _ hj]
        by_cases e : j = n - 1
        · subst e; omega
        · have := h4 j (by omega); omega
      · rw [by_none _ _ (by simp; omega)]
        omega
    rw [this]
    exact List.take_prefix _ _

theorem good_put {b : Bool} {x : Int} (hr : rng b x) {r : List UInt8} (h : nB b x <+: r) : good b r ∧ hv b r = x ∧ lg r 10 = size b x := by
  have hl := lg_nB h
  have hv_ : hv b r = x := by
    unfold hv
    rw [hl]
    have e : r.take (size b x) = nB b x := by
      obtain ⟨t, rfl⟩ := h
      rw [← nB_len b x]; simp
    rw [e]
    unfold nB
    rw [sm_enc]
    exact val_enc hr (size_pos b x) (size_le b x) (size_fit b x)
  refine ⟨⟨?_, by rw [hv_]; exact h⟩, hv_, hl⟩
  have := size_pos b x
  omega
theorem good_take {b : Bool} {r : List UInt8} (h : good b r) : r.take (lg r 10) = nB b (hv b r) := by
  have e := lg_nB h.2
  rw [e, ← nB_len b (hv b r)]
  exact (List.prefix_iff_eq_take.1 h.2).symm
theorem lg_cut {b : Bool} {x : Int} {k : Nat} (h : k < size b x) : lg ((nB b x).take k) 10 = 0 := by
  refine lg_none 10 _ fun j _ hj => ?_
  have hj' : j < k := by simp at hj; omega
  rw [by_take _ _ _ hj']
  have := enc_flags x (size b x) j
  unfold nB; omega

/-- what is read: the error, the number, the place behind it -/
def rdE (b : Bool) (l : List UInt8) (i : Int) : Int := if i < 0 ∨ (l.length : Int) < i then 1 else if good b (l.drop i.toNat) then 0 else 5
def rdX (b : Bool) (l : List UInt8) (i : Int) : Int := if rdE b l i = 0 then hv b (l.drop i.toNat) else 0
def rdN (b : Bool) (l : List UInt8) (i : Int) : Int := if rdE b l i = 0 then i + lg (l.drop i.toNat) 10 else 0

theorem rd_arg {b : Bool} {l : List UInt8} {i : Int} (h : i < 0 ∨ (l.length : Int) < i) : rdE b l i = 1 ∧ rdX b l i = 0 ∧ rdN b l i = 0 := by
  have e : rdE b l i = 1 := by unfold rdE; rw [if_pos h]
  simp [rdX, rdN, e]
theorem rd_form {b : Bool} {l : List UInt8} {k : Nat} (h : k ≤ l.length) (hg : ¬ good b (l.drop k)) : rdE b l k = 5 ∧ rdX b l k = 0 ∧ rdN b l k = 0 := by
  have e : rdE b l k = 5 := by unfold rdE; rw [if_neg (by omega), if_neg (by simpa using hg)]
  simp [rdX, rdN, e]
theorem rd_ok {b : Bool} {l : List UInt8} {k : Nat} (h : k ≤ l.length) (hg : good b (l.drop k)) : rdE b l k = 0 ∧ rdX b l k = hv b (l.drop k) ∧ rdN b l k = k + lg (l.drop k) 10 := by
  have e : rdE b l k = 0 := by unfold rdE; rw [if_neg (by omega), if_pos (by simpa using hg)]
  simp [rdX, rdN, e]

end Go.Proofs.YtdnpoeegefkoiaaGreat

namespace Go.Proofs.YtdnpoeegefkoiaaGreat

/-- an instruction -/
structure Ins where
  k : Int
  o : Int
  r : Int
  s : Int
  t : Int
  n : Int
  m : Int
deriving DecidableEq

/-- what the program's types let it be -/
structure Ins.Rng (i : Ins) : Prop where
  k0 : 0 ≤ i.k
  k1 : i.k < 256
  o0 : 0 ≤ i.o
  o1 : i.o < 256
  r0 : -9223372036854775808 ≤ i.r
  r1 : i.r < 9223372036854775808
  s0 : -9223372036854775808 ≤ i.s
  s1 : i.s < 9223372036854775808
  t0 : -9223372036854775808 ≤ i.t
  t1 : i.t < 9223372036854775808
  n0 : -9223372036854775808 ≤ i.n
  n1 : i.n < 9223372036854775808
  m0 : -9223372036854775808 ≤ i.m
  m1 : i.m < 9223372036854775808

inductive Pt where
  | op | reg | both | third | num | many | to | how
deriving DecidableEq

def isR (x : Int) : Bool := decide (0 ≤ x ∧ x < 16)
/-- is what a part says within its bounds? -/
def fitsP : Pt → Ins → Bool
  | .op, i => if i.k = 5 then decide (i.o = 14 ∨ i.o = 15) else decide (1 ≤ i.o ∧ i.o ≤ 13)
  | .reg, i => isR i.r
  | .both, i => isR i.r && isR i.s
  | .third, i => isR i.t
  | .num, i => decide (i.k = 2 ∨ (-65536 ≤ i.n ∧ i.n ≤ 65536))
  | .many, i => decide (1 ≤ i.m ∧ i.m ≤ 65536)
  | .to, i => decide (0 ≤ i.n ∧ i.n < 16777216)
  | .how, i => decide (2 ≤ i.n ∧ i.n ≤ 4)
def dropP : Pt → Ins → Ins
  | .op, i => { i with o := 0 }
  | .reg, i => { i with r := 0 }
  | .both, i => { i with r := 0, s := 0 }
  | .third, i => { i with t := 0 }
  | .num, i => { i with n := 0 }
  | .many, i => { i with m := 0 }
  | .to, i => { i with n := 0 }
  | .how, i => { i with n := 0 }

/-- the parts of a kind -/
def ptsOf (k : Int) : List Pt :=
  if k = 2 then [.reg, .num] else if k = 3 then [.both] else if k = 4 then [.op, .both, .third] else if k = 5 then [.op, .both]
  else if k = 6 ∨ k = 7 then [.both, .num] else if k = 8 ∨ k = 9 then [.both, .third, .num, .many] else if k = 10 ∨ k = 12 then [.to]
  else if k = 11 then [.reg, .to] else if k = 14 then [.num] else if k = 15 ∨ k = 16 ∨ k = 17 then [.reg] else if k = 18 then [.how] else []
def isK (k : Int) : Bool := decide (1 ≤ k ∧ k ≤ 18)

end Go.Proofs.YtdnpoeegefkoiaaGreat
