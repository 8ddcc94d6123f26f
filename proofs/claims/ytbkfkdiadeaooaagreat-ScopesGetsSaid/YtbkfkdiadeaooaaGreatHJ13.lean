/-
  Merged for a claim: O1A, O1K, O1R, S9I.
-/
import Derived.Test.YtbkfkdiadeaooaaGreatProg
import Derived.WalkKit
import Derived.WalkSpells
import Derived.WalkLawsBesides
import Derived.Lib.Hide
import Derived.Test.YtbkfkdiadeaooaaGreatHJ0
import Derived.Test.YtbkfkdiadeaooaaGreatHJ1
import Derived.Test.YtbkfkdiadeaooaaGreatHGA
import Derived.Lib.AppendStr
import Derived.OwnWalk
import Derived.Test.YtbkfkdiadeaooaaGreatHS9H
import Derived.Test.YtbkfkdiadeaooaaGreatHL7N
namespace Go.Proofs.YtbkfkdiadeaooaaGreat
open Go.RowKit

end Go.Proofs.YtbkfkdiadeaooaaGreat

namespace Go.Proofs.YtbkfkdiadeaooaaGreat
open Go.RowKit

set_option maxHeartbeats 400000 in
theorem behind_any (A A2 : Option Addr) (c c2 : Nat) (l l2 : List UInt8) (w : World) (hc : A = none → c = 0) (hc2 : A2 = none → c2 = 0) (h : Lies w w.heap.size A l) (h2 : Lies w w.heap.size A2 l2)
    (hn : l.length ≤ 1099511627776) (hn2 : l2.length ≤ 300) :
    Calls Tryz.prog 98 #[.slice A l.length c, .slice A2 l2.length c2] w (MadeC w (l ++ l2) (l.length + l2.length)) := by
  have HC := Lib.hid (And.intro hc hc2)
  clear hc hc2
  go_enter Tryz.func98, Tryz.ntmps98
  go_wp2_with (first
    | (at_make
       refine make_bytes _ rfl (.const (.int .i64 0)) (.tmp 10) rfl 0 (l.length + l2.length) _ _ rfl rfl rfl (by omega) (by omega) (by omega) ?_
       intro w1 hk1 hb1 hs1
       have ho1 := own_room hk1 (Nat.le_refl _) (by omega)
       clear hk1)
    | (at_builtin
       refine app_cap _ rfl (.tmp 12) (.tmp 13) rfl w.heap.size _ [] rfl ho1 A c w.heap.size l rfl HC.out.1 (h.below hb1) (by simp; omega) (by omega) ?_
       intro v2 w2 ho2 hg2 hcp2
       have hcap : Hid (capOf v2 = l.length + l2.length) := hcp2 (by show 0 + l.length ≤ l.length + l2.length; omega)
       clear hcp2
       have hb2 := below_grown hb1 hg2 ho1 (by omega)
       clear hg2 ho1 hb1)
    | (at_builtin
       refine app_cap _ rfl (.tmp 15) (.tmp 16) rfl w.heap.size v2 ([] ++ l) rfl ho2 A2 c2 w.heap.size l2 rfl HC.out.2 (h2.below hb2) (by simp; omega) hb2.size ?_
       intro v3 w3 ho3 hg3 hcp3
       have hcap3 : Hid (capOf v3 = l.length + l2.length) := (hcp3 (Nat.le_trans (m := l.length + l2.length) (by simp) (Nat.le_of_eq hcap.out.symm))).trans hcap.out
       clear hcp3
       have hb3 := below_grown hb2 hg3 ho2 hb2.size
       clear hg3))
  go_ret
  exact ⟨v3, rfl, by simpa using ho3, hb3, hcap3⟩

end Go.Proofs.YtbkfkdiadeaooaaGreat

namespace Go.Proofs.YtbkfkdiadeaooaaGreat
open Go.RowKit

def txB (s : List UInt8) : List UInt8 := UInt8.ofNat s.length :: s
theorem str_sizeI (l : List UInt8) : (str l).size = l.length := by simp [str, ByteArray.size]

theorem len_lies (w : World) (s : List UInt8) (hs : s.length ≤ 255) : Lies (w.alloc (.cells #[.int .u8 (s.length : Int)] 5)) (w.alloc (.cells #[.int .u8 (s.length : Int)] 5)).heap.size (some ⟨w.heap.size, 0, none⟩) [UInt8.ofNat s.length] :=
  lies_lit w 5 _ _ (by
    have h0 : (UInt8.ofNat s.length).toNat = s.length := by simp; omega
    simp only [List.map_cons, List.map_nil, b8, h0])

def eB : El UInt8 := ⟨5, 1, fun x => [b8 x], fun _ => rfl, fun x u hu => by rw [List.mem_singleton] at hu; subst hu; rfl, by omega⟩
theorem eB_of {w : World} {B : Nat} {A : Option Addr} {l : List UInt8} (h : Lies w B A l) : eB.Lies w B A l := fun hl => by
  obtain ⟨g, o, e, hg, hc⟩ := h hl
  refine ⟨g, o, e, hg, fun j hj f u hu => ?_⟩
  have hf : f = 0 := by
    have := (List.getElem?_eq_some_iff.1 hu).1
    simp [eB] at this
    omega
  subst hf
  have hu2 : b8 l[j] = u := by simpa [eB] using hu
  subst hu2
  show w.cell? ⟨g, o + (j * 1 + 0), none⟩ = _
  rw [Nat.mul_one, Nat.add_zero]
  exact hc j hj
theorem eB_to {w : World} {B : Nat} {A : Option Addr} {l : List UInt8} (h : eB.Lies w B A l) : Lies w B A l := fun hl => by
  obtain ⟨g, o, e, hg, hc⟩ := h hl
  refine ⟨g, o, e, hg, fun j hj => ?_⟩
  have := hc j hj 0 (b8 l[j]) rfl
  have e2 : o + (j * eB.sz + 0) = o + j := by simp [eB]
  rw [e2] at this
  exact this
theorem eB_flat (l : List UInt8) : l.flatMap eB.f = l.map b8 := by
  induction l with
  | nil => rfl
  | cons x l ih => rw [List.flatMap_cons, ih]; rfl
section
variable {ops : Array Oper} {rest : List Oper} {o : Oper} {a : Act} {Q : Exit → Act → World → Prop}
theorem app_eB (w : World) (hgd : o.guard = none) (s x : Operand) (ho : o.op = .call { callee := .builtin .append, args := #[s, x], argTypes := #[22, 22] })
    (B : Nat) (v : Value) (l : List UInt8) (hs : a.eval s = v) (hown : eB.Own w B v l) (A : Option Addr) (c : Nat) (L : Nat) (l2 : List UInt8) (hx : a.eval x = .slice A l2.length c) (hc0 : A = none → c = 0) (hy : Lies w L A l2)
    (hn : l.length + l2.length ≤ 1099511627776) (hB : B ≤ w.heap.size) (h : ∀ v' w', eB.Own w' B v' (l ++ l2) → w.grownBy w' v.ownBlock → wpList Tryz.prog ops Q rest (a.put o.dst v') w') : wpList Tryz.prog ops Q (o :: rest) a w :=
  El.apps eB w hgd 22 (.int .u8 0) 1 Tryz.underlying22 u8_info rfl (by omega) s x ho B v l hs hown A c L l2 hx hc0 (eB_of hy) hn (by show _ * 1 ≤ _; omega) hB h
theorem app_eStr (w : World) (hgd : o.guard = none) (s x : Operand) (ho : o.op = .call { callee := .builtin .append, args := #[s, x], argTypes := #[22, 9] })
    (B : Nat) (v : Value) (l : List UInt8) (hs : a.eval s = v) (hown : eB.Own w B v l)
    (l2 : List UInt8) (hx : a.eval x = .string (str l2)) (hsz : l.length + l2.length ≤ 1099511627776) (hB : B ≤ w.heap.size)
    (h : ∀ v' w', eB.Own w' B v' (l ++ l2) → w.grownBy w' v.ownBlock → wpList Tryz.prog ops Q rest (a.put o.dst v') w') : wpList Tryz.prog ops Q (o :: rest) a w := by
  obtain ⟨i0, hi0, hz0, hz1, hz2⟩ := info_parts u8_info
  have hsize : (str l2).size = l2.length := by simp [str, ByteArray.size]
  refine Lib.wpList_append_own_string w hgd s x 22 9 ho B 5 i0 Tryz.underlying22 Tryz.underlying9 hi0 hz0 hz1 hz2 v l.length (l.flatMap eB.f) hs hown (str l2) hx (by rw [hsize]; simp only [maxLen]; omega) (by rw [hsize]; omega) hB
    fun v' w' h1 h2 _ => h v' w' ?_ h2
  show w'.ownsRow B 5 1 v' (l ++ l2).length ((l ++ l2).flatMap eB.f)
  rw [List.length_append, List.flatMap_append]
  rw [hsize] at h1
  have e : l2.flatMap eB.f = Lib.strCells (str l2) := by rw [eB_flat]; rfl
  rw [e]
  exact h1
end
/-- a result in a tuple -/
def PutT (w : World) (l : List UInt8) (er : Int) (e : Ending) (w' : World) : Prop :=
  ∃ v, e = .returned (.tuple #[v, .int .i64 er]) ∧ Own w' w.heap.size v l ∧ Below w.heap.size w w'
set_option maxHeartbeats 1000000 in
theorem putText_any (A : Option Addr) (c : Nat) (l s : List UInt8) (w : World) (hc : A = none → c = 0) (h : Lies w w.heap.size A l) (hn : l.length ≤ 70000) (hi : s.length ≤ 255) :
    Calls Tryz.prog 82 #[.slice A l.length c, .string (str s)] w (PutT w (l ++ txB s) 0) := by
  have hsz := str_sizeI s
  obtain ⟨i0, hi0, hz0, hz1, hz2⟩ := info_parts u8_info
  have HI := Lib.hid (And.intro hi0 (And.intro hz0 (And.intro hz1 hz2)))
  have HC := Lib.hid hc
  clear hi0 hz0 hz1 hz2 hc
  go_enter Tryz.func82, Tryz.ntmps82
  go_wp2_with (first
    | (at_make
       refine wpList_make_own _ rfl (.const (.int .i64 0)) (.tmp 12) 22 rfl w.heap.size 5 i0 _ 1 Tryz.underlying22 HI.out.1 HI.out.2.1 HI.out.2.2.1 .i64 .i64 _ (1 + s.length) rfl rfl (by omega) (by rw [HI.out.2.2.2]; omega) (by simp only [maxLen]; omega) (Nat.le_refl _) ?_
       intro w1 hown1 hg1
       have ho1 : eB.Own w1 w.heap.size (.slice (some ⟨w.heap.size, 0, none⟩) 0 (1 + s.length)) [] := hown1
       clear hown1
       have hb1 : Below w.heap.size w w1 := (Below.refl _ _).grown hg1 (Nat.le_refl _) (by simp)
       clear hg1)
    | (at_builtin
       refine app_eB _ rfl (.tmp 14) (.tmp 18) rfl w.heap.size _ [] rfl (ho1.below ((Below.refl w1.heap.size w1).alloc (Nat.le_refl _) _)) (some ⟨w1.heap.size, 0, none⟩) 1 _ [UInt8.ofNat s.length] rfl (by simp) (len_lies w1 s hi) (by simp) (Nat.le_trans hb1.size (by simp)) ?_
       intro v2 w2 ho2 hg2
       have hb2 := El.below_grown (hb1.alloc hb1.size _) hg2 (ho1.below ((Below.refl w1.heap.size w1).alloc (Nat.le_refl _) _)) (Nat.le_trans hb1.size (by simp))
       clear hg2)
    | (at_builtin
       refine app_eStr _ rfl (.tmp 20) (.tmp 21) rfl w.heap.size v2 _ rfl ho2 s rfl (by simp; omega) hb2.size ?_
       intro v3 w3 ho3 hg3
       have hb3 := El.below_grown hb2 hg3 ho2 hb2.size
       clear hg3
       obtain ⟨A3, c3, rfl, hl3, hc3, hL3⟩ := ho3.form)
    | (go_at_call 98
       refine (behind_any A A3 c c3 l ([] ++ [UInt8.ofNat s.length] ++ s) w3 HC.out hc3 ((h.below hb3).more hb3.size) (eB_to hL3.lies) (by omega) (by simp; omega)).mono ?_
       rintro e w' ⟨v, rfl, ho, hb, _⟩))
  go_outline
  go_ret2
  exact ⟨v, rfl, by simpa [txB] using ho.base hb3.size, hb3.trans (hb.mono hb3.size)⟩
end Go.Proofs.YtbkfkdiadeaooaaGreat

namespace Go.Proofs.YtbkfkdiadeaooaaGreat
open Go Go.RowKit

def encV (v : Vr) : List UInt8 := txB v.nm ++ (UInt8.ofNat v.kd.toNat :: (if v.kd = 3 then nB false v.n else if v.kd = 4 then txB v.tn ++ (nB false v.fs.length ++ v.fs.flatMap txB) else []))
def encQ (q : Pnt) : List UInt8 := nB false q.fn ++ (nB false q.ln ++ (nB false q.sc.length ++ q.sc.flatMap (nB false)))
def encVS (q : Vr × List Sp) : List UInt8 := encV q.1 ++ ownS q.2
def enP9 (a : Int) (p : Plc) : List UInt8 := txB p.nm ++ (nB false (p.fr - a) ++ (nB false (p.tt - p.fr) ++ (nB false p.vs.length ++ (p.vs.zip p.ss).flatMap encVS)))
def enP9s : Int → List Plc → List UInt8
  | _, [] => []
  | a, p :: l => enP9 a p ++ enP9s p.tt l
def own9 (ls : List Plc) (qs : List Pnt) : List UInt8 := nB false ls.length ++ (enP9s 0 ls ++ (nB false qs.length ++ qs.flatMap encQ))

set_option maxRecDepth 10000 in
theorem run_app9 (w : World) (B : Nat) (v : Value) (l : List UInt8) (hown : Own w B v l) (a : Addr) (c : Nat) (l2 : List UInt8)
    (hl : ∀ j (h : j < l2.length), w.cell? (a.add j) = some (b8 l2[j])) (hsz : l.length + l2.length ≤ 140737488355328) (hB : B ≤ w.heap.size) (ty : TypeId) :
    ∃ v' w', (Builtin.append_ #[22, 22] ty #[v, .slice (some a) l2.length c]).run Tryz.prog w = .ok v' w' ∧ Own w' B v' (l ++ l2) ∧ w.grownBy w' v.ownBlock ∧ (∀ k, v'.ownBlock = some k → v.ownBlock = some k ∨ w.heap.size ≤ k) := by
  obtain ⟨i0, hi0, hz0, hz1, hz2⟩ := info_parts u8_info
  have hnews : ∀ j u, (l2.map b8)[j]? = some u → w.cell? (a.add j) = some u := by
    intro j u hu
    have hj : j < l2.length := by have := (List.getElem?_eq_some_iff.1 hu).1; simpa using this
    rw [hl j hj]
    simpa [hj] using hu
  have hl2 : (l2.map b8).length = l2.length * i0.size := by simp [hz1]
  have grown : ∀ (n old : Nat), l.length + l2.length = n → ∀ row : Option Nat,
      Own (w.drew.alloc (.cells ((l.map b8).toArray ++ (l2.map b8).toArray ++ Builtin.zeroCells (Value.int .u8 0).cells (grownCap w n old 5 - n)) 5)) B
        (.slice (some ⟨w.heap.size, 0, none⟩) n (grownCap w n old 5)) (l ++ l2) ∧
      w.grownBy (w.drew.alloc (.cells ((l.map b8).toArray ++ (l2.map b8).toArray ++ Builtin.zeroCells (Value.int .u8 0).cells (grownCap w n old 5 - n)) 5)) row := by
    intro n old hn row
    have hge := grownCap_ge w n old 5
    have hcm : grownCap w n old 5 ≤ maxLen := grownCap_le_maxLen w n old 5 (by simp only [maxLen]; omega)
    refine ⟨.inr ⟨w.heap.size, List.replicate (grownCap w n old 5 - n) 0, ?_, hB, ?_, ?_⟩, ⟨rfl, rfl, rfl, by simp, fun k hk _ => heap_alloc_old w.drew _ hk⟩⟩
    · congr 1
      · simp [hn]
      · simp; omega
    · simp; omega
    · refine blk_lit w.drew (l ++ l2 ++ List.replicate (grownCap w n old 5 - n) 0) _ ?_
      have hc : (Value.int .u8 0).cells = #[(Value.int .u8 0)] := rfl
      rw [hc, Array.toList_append, Array.toList_append, zero_b8]
      simp
  rcases hown with ⟨rfl, rfl⟩ | ⟨g, r, rfl, hBg, hcm, hb⟩
  · by_cases hm : l2.length = 0
    · obtain rfl := List.eq_nil_of_length_eq_zero hm
      refine ⟨.slice none 0 0, w, ?_, Own.nil _ _, World.grownBy.refl _ _, fun k e => (by cases e)⟩
      simp [Builtin.append_, run_underlying Tryz.underlying22, sizeOf, typeInfo, hi0, Builtin.lenOf, Builtin.firstCells, loadCells, loadCellsFrom]
    · have hr := run_append_nil (P := Tryz.prog) w 22 ty 5 i0 _ Tryz.underlying22 hi0 hz0 a l2.length c (l2.map b8) hl2 hnews (by omega) (by simp at hsz; omega) (by rw [hz2]; simp at hsz; omega)
      have hg := grown l2.length 0 (by simp) (Value.ownBlock (.slice none 0 0))
      simp only [List.map_nil, List.nil_append, Array.empty_append] at hg ⊢
      exact ⟨_, _, hr, hg.1, hg.2, fun k e => .inr (by injection e with e; subst e; exact Nat.le_refl _)⟩
  · by_cases hroom : l.length + l2.length ≤ l.length + r.length
    · have hfit : l.length * i0.size + (l2.map b8).length ≤ (((l ++ r).map b8).toArray).size := by simp [hz1]; omega
      have hr := run_append_room (P := Tryz.prog) w 22 ty 5 i0 Tryz.underlying22 hi0 g l.length (l.length + r.length) _ hb a l2.length c (l2.map b8) hl2 hnews (b8_one _) hroom hfit
      refine ⟨_, _, hr, .inr ⟨g, r.drop l2.length, ?_, hBg, by simp; omega, ?_⟩, ⟨rfl, rfl, rfl, by simp, fun k _ hk => setRow_other w g k _ (fun e => hk (by simp [Value.ownBlock, e]))⟩, fun k e => .inl e⟩
      · congr 1 <;> simp <;> omega
      · have := setRow_heap w g _ (((l ++ r).map b8).take (l.length * i0.size) ++ l2.map b8 ++ ((l ++ r).map b8).drop (l.length * i0.size + (l2.map b8).length)).toArray _ _ hb
        unfold Blk
        simp only at *
        rw [this]
        congr 2
        simp [hz1, List.drop_append]
    · have holds : ∀ j u, (l.map b8)[j]? = some u → w.cell? ((⟨g, 0, none⟩ : Addr).add j) = some u := by
        intro j u hu
        have hj : j < l.length := by have := (List.getElem?_eq_some_iff.1 hu).1; simpa using this
        rw [add_zero_off, Nat.zero_add, hb.cell (by simp; omega)]
        simpa [hj, b8, List.getElem_append_left hj] using hu
      have hr := run_append_grow (P := Tryz.prog) w 22 ty 5 i0 _ Tryz.underlying22 hi0 hz0 ⟨g, 0, none⟩ l.length (l.length + r.length) (l.map b8) (by simp [hz1]) holds a l2.length c (l2.map b8) hl2 hnews (by omega) (by omega)
        (growslice_fits (by omega) (by rw [hz2]; omega))
      have hg := grown (l.length + l2.length) (l.length + r.length) rfl (Value.ownBlock (.slice (some ⟨g, 0, none⟩) l.length (l.length + r.length)))
      exact ⟨_, _, hr, hg.1, hg.2, fun k e => .inr (by injection e with e; subst e; exact Nat.le_refl _)⟩

theorem Own.has {w : World} {B : Nat} {v : Value} {l : List UInt8} (h : Own w B v l) : ∀ k, v.ownBlock = some k → HasT w k 5 := by
  intro k e
  rcases h with ⟨rfl, _⟩ | ⟨g, r, rfl, _, _, hb⟩
  · cases e
  · injection e with e
    subst e
    exact ⟨_, _, hb⟩
/-- a row of bytes grew; nothing that was there has turned but its own block -/
def Gr (w : World) (v : Value) (w' : World) (v' : Value) : Prop := w.grownBy w' v.ownBlock ∧ ∀ k, v'.ownBlock = some k → v.ownBlock = some k ∨ w.heap.size ≤ k
theorem Gr.refl (w : World) (v : Value) : Gr w v w v := ⟨World.grownBy.refl _ _, fun _ e => .inl e⟩
theorem Gr.of_below {w w' : World} (h : Below w.heap.size w w') (v : Value) : Gr w v w' v := ⟨⟨h.os, h.tape, h.output, h.size, fun k hk _ => h.block k hk⟩, fun _ e => .inl e⟩
theorem Gr.trans {w w1 w2 : World} {v v1 v2 : Value} (h : Gr w v w1 v1) (h2 : Gr w1 v1 w2 v2) : Gr w v w2 v2 := by
  refine ⟨⟨h2.1.os.trans h.1.os, h2.1.tape.trans h.1.tape, h2.1.output.trans h.1.output, Nat.le_trans h.1.size h2.1.size, fun k hk hne => ?_⟩, fun k e => ?_⟩
  · have hk1 := h.1.size
    refine (h2.1.block k (by omega) (fun q => ?_)).trans (h.1.block k hk hne)
    rcases h.2 k q.symm with q | q
    · exact hne q.symm
    · omega
  · rcases h2.2 k e with q | q
    · exact h.2 k q
    · exact .inr (Nat.le_trans h.1.size q)
theorem Gr.below {B : Nat} {w w' : World} {v v' : Value} {l : List UInt8} (h : Gr w v w' v') (ho : Own w B v l) (hB : B ≤ w.heap.size) : Below B w w' := (Below.refl B w).grown h.1 hB fun k e => (ho.lt k e).1
theorem Gr.but {B : Nat} {w w' : World} {v v' : Value} {l : List UInt8} (h : Gr w v w' v') (ho : Own w B v l) : ButT 5 w w' := ButT.grown h.1 ho.has
section
variable {ops : Array Oper} {rest : List Oper} {o : Oper} {a : Act} {Q : Exit → Act → World → Prop} {C : Act → World → Prop}
theorem op_app9 (w : World) (s x : Operand) (ho : o.op = .call { callee := .builtin .append, args := #[s, x], argTypes := #[22, 22] })
    (B : Nat) (v : Value) (l : List UInt8) (hs : a.eval s = v) (hown : Own w B v l) (A : Option Addr) (c L : Nat) (l2 : List UInt8) (hx : a.eval x = .slice A l2.length c) (hc : A = none → c = 0) (hl : Lies w L A l2)
    (hsz : l.length + l2.length ≤ 140737488355328) (hB : B ≤ w.heap.size)
    (h : ∀ v' w', Own w' B v' (l ++ l2) → Gr w v w' v' → C (a.put o.dst v') w') : Oper.wp Tryz.prog o a w C Q := by
  have hrun : ∃ v' w', (Builtin.append_ #[22, 22] o.type #[v, .slice A l2.length c]).run Tryz.prog w = .ok v' w' ∧ Own w' B v' (l ++ l2) ∧ Gr w v w' v' := by
    rcases A with _ | ad
    · have h0 : l2 = [] := by
        rcases l2 with _ | ⟨y, l2⟩
        · rfl
        · obtain ⟨g, o, e, _⟩ := hl (by simp)
          cases e
      subst h0
      obtain rfl := hc rfl
      obtain ⟨i0, hi0, hz0, hz1, hz2⟩ := info_parts u8_info
      have hrun := run_append_owned_none (P := Tryz.prog) w B 22 o.type 5 i0 1 Tryz.underlying22 hi0 v l.length (l.map b8) hown.row
      exact ⟨_, _, hrun, by simpa using hown, Gr.refl _ _⟩
    · obtain ⟨v', w', h1, h2, h3, h4⟩ := run_app9 w B v l hown ad c l2 (fun j hj => by
        obtain ⟨g, o, e, _, hcell⟩ := hl.at_ hj
        cases e
        rw [add_zero_off, hcell]
        rfl) hsz hB o.type
      exact ⟨v', w', h1, h2, h3, h4⟩
  obtain ⟨v', w', hr, h1, h2⟩ := hrun
  unfold Oper.wp execOp
  simp only [ho, resolve, invoke, builtin, Sem.run_bind, Sem.run_pure, Result.andThen_ok, List.map_toArray, List.map_cons, List.map_nil, hs, hx, hr]
  exact h v' w' h1 h2
theorem app_9 (w : World) (hgd : o.guard = none) (s x : Operand) (ho : o.op = .call { callee := .builtin .append, args := #[s, x], argTypes := #[22, 22] })
    (B : Nat) (v : Value) (l : List UInt8) (hs : a.eval s = v) (hown : Own w B v l) (A : Option Addr) (c L : Nat) (l2 : List UInt8) (hx : a.eval x = .slice A l2.length c) (hc : A = none → c = 0) (hl : Lies w L A l2)
    (hsz : l.length + l2.length ≤ 140737488355328) (hB : B ≤ w.heap.size)
    (h : ∀ v' w', Own w' B v' (l ++ l2) → Gr w v w' v' → wpList Tryz.prog ops Q rest (a.put o.dst v') w') : wpList Tryz.prog ops Q (o :: rest) a w :=
  wpList_plain hgd fun _ hK' => op_app9 w s x ho B v l hs hown A c L l2 hx hc hl hsz hB (fun v' w' r1 r2 => hK' _ _ (h v' w' r1 r2))
end
/-- a row of bytes of the call's own grew, and whatever else there is stays -/
def BR (B : Nat) (w : World) (l : List UInt8) (e : Ending) (w' : World) : Prop := ∃ v, e = .returned v ∧ Own w' B v l ∧ Below B w w' ∧ ButT 5 w w'
def BG (B : Nat) (w : World) (v0 : Value) (l : List UInt8) (e : Ending) (w' : World) : Prop := ∃ v, e = .returned v ∧ Own w' B v l ∧ Below B w w' ∧ ButT 5 w w' ∧ Gr w v0 w' v

set_option maxRecDepth 100000 in
set_option maxHeartbeats 1000000 in
theorem putNumber_any (v : Value) (l : List UInt8) (n : Int) (w : World) (B : Nat) (hB : B ≤ w.heap.size) (ho : Own w B v l) (hl : l.length ≤ 1000000000000) (h0 : 0 ≤ n) (h1 : n < 9223372036854775808) :
    Calls Tryz.prog 28 #[v, .int .i64 n] w (BG B w v (l ++ nB false n)) := by
  have e1 : IntKind.u64.wrap n = n := IntWalk.u64_in _ ⟨by omega, by omega⟩
  have hle := nB_le n
  have HP := Lib.hid (putU_0 n w h0 (by omega))
  have HO := Lib.hid ho
  clear ho
  go_enter Tryz.func28, Tryz.ntmps28
  go_wp2_with (first
    | (go_at_call 50
       refine HP.out.mono ?_
       rintro e w1 ⟨y, rfl, hy, hb⟩
       obtain ⟨A, c, rfl, _, hc, hl2⟩ := hy.form
       have HO1 := Lib.hid (HO.out.below hb)
       have HL := Lib.hid hl2
       have HC := Lib.hid hc
       have HB := Lib.hid hb
       clear hy hl2 hc hb)
    | (at_builtin
       refine app_9 _ rfl (.tmp 5) (.tmp 8) rfl B v l rfl HO1.out A c w1.heap.size (nB false n) rfl HC.out HL.out (by omega) (Nat.le_trans hB HB.out.size) ?_
       intro v2 w2 ho2 hg2
       have HG := Lib.hid ((Gr.of_below HB.out v).trans hg2)
       have HO2 := Lib.hid ho2
       clear ho2 hg2))
  go_ret
  exact ⟨v2, rfl, HO2.out, HG.out.below HO.out hB, HG.out.but HO.out, HG.out⟩
set_option maxRecDepth 100000 in
set_option maxHeartbeats 1000000 in
theorem putText9_any (v : Value) (l s : List UInt8) (w : World) (B : Nat) (hB : B ≤ w.heap.size) (ho : Own w B v l) (hl : l.length ≤ 1000000000000) (hs : s.length ≤ 255) :
    Calls Tryz.prog 51 #[v, .string (str s)] w (BG B w v (l ++ txB s)) := by
  have hle : (txB s).length ≤ 256 := by simp [txB]; omega
  have HP := Lib.hid (putText_any none 0 [] s w (fun _ => rfl) (Lies.empty _ _ _) (by simp) hs)
  have HO := Lib.hid ho
  clear ho
  go_enter Tryz.func51, Tryz.ntmps51
  go_wp2_with (first
    | (go_at_call 82
       refine HP.out.mono ?_
       rintro e w1 ⟨y, rfl, hy, hb⟩
       obtain ⟨A, c, rfl, _, hc, hl2⟩ := hy.form
       have HO1 := Lib.hid (HO.out.below hb)
       have HL := Lib.hid hl2
       have HC := Lib.hid hc
       have HB := Lib.hid hb
       clear hy hl2 hc hb)
    | (at_builtin
       refine app_9 _ rfl (.tmp 12) (.tmp 13) rfl B v l rfl HO1.out A c w1.heap.size ([] ++ txB s) rfl HC.out HL.out (by simp; omega) (Nat.le_trans hB HB.out.size) ?_
       intro v2 w2 ho2 hg2
       have HG := Lib.hid ((Gr.of_below HB.out v).trans hg2)
       have HO2 := Lib.hid ho2
       clear ho2 hg2))
  go_ret
  exact ⟨v2, rfl, by simpa using HO2.out, HG.out.below HO.out hB, HG.out.but HO.out, HG.out⟩

theorem ButT.cell {T e : TypeId} {w w' : World} {p : Addr} (h : ButT T w w') (hp : HasT w p.block e) (he : e ≠ T) : w'.cell? p = w.cell? p := World.cell?_of_block (h _ _ hp he)
theorem nb10 (n : Int) : (nB false n).length ≤ 10 := by have := nB_le n; omega
set_option maxRecDepth 100000 in
set_option maxHeartbeats 2000000 in
theorem putPoint_any (v : Value) (l : List UInt8) (q : Pq) (w : World) (B : Nat) (hB : B ≤ w.heap.size) (ho : Own w B v l) (hl : l.length ≤ 900000000000) (h : QL w B q) (h0 : 0 ≤ q.d.fn ∧ q.d.fn < 4611686018427387904) (h1 : 0 ≤ q.d.ln ∧ q.d.ln < 4611686018427387904) (hn : q.d.sc.length ≤ 1000) (h2 : ∀ x ∈ q.d.sc, 0 ≤ x ∧ x < 4611686018427387904) :
    Calls Tryz.prog 30 #[v, qV q] w (BR B w (l ++ encQ q.d)) := by
  obtain ⟨⟨fn, ln, sc⟩, A, c⟩ := q
  have hb0 := below_lnew w (.cells (qK ⟨⟨fn, ln, sc⟩, A, c⟩) 55)
  have hf0 := heap_alloc_new w (.cells (qK ⟨⟨fn, ln, sc⟩, A, c⟩) 55)
  unfold qV
  unfold qK at hb0 hf0 ⊢
  dsimp only at hb0 hf0 h h0 h1 hn h2 ⊢
  have HO := Lib.hid ho
  have H2 := Lib.hid h2
  clear ho h2
  go_enter Tryz.func30, Tryz.ntmps30
  go_upto_region 1 with fail
  obtain ⟨W, hW⟩ : ∃ W, W = w.alloc (.cells #[.int .i64 fn, .int .i64 ln, .slice A sc.length c] 55) := ⟨_, rfl⟩
  rw [← hW] at hb0 hf0 ⊢
  have hT : HasT W w.heap.size 55 := ⟨_, _, hf0⟩
  obtain ⟨c0, c1, c2⟩ : W.cell? ⟨w.heap.size, 0, none⟩ = some (.int .i64 fn) ∧ W.cell? ⟨w.heap.size, 1, none⟩ = some (.int .i64 ln) ∧ W.cell? ⟨w.heap.size, 2, none⟩ = some (.slice A sc.length c) := by simp [World.cell?, hf0]
  have HB0 := Lib.hid hb0
  have HT := Lib.hid hT
  have HO0 := Lib.hid (HO.out.below hb0)
  have HSL := Lib.hid (h.1.below (hb0.mono hB))
  have hBW : B ≤ W.heap.size := Nat.le_trans hB hb0.size
  clear hW hb0 hf0 hT h HO
  have n1 := nb10 fn
  have n2 := nb10 ln
  have n3 := nb10 (sc.length : Int)
  go_wp2_with fail
  refine (putNumber_any v l fn W B hBW HO0.out (by omega) h0.1 (by omega)).mono ?_
  rintro e w1 ⟨v1, rfl, ho1, hb1, ht1, _⟩
  have d1 := (ht1.cell (p := ⟨w.heap.size, 1, none⟩) HT.out (by decide)).trans c1
  have d2 := (ht1.cell (p := ⟨w.heap.size, 2, none⟩) HT.out (by decide)).trans c2
  have HO1 := Lib.hid ho1
  have HB1 := Lib.hid hb1
  have HT1 := Lib.hid ht1
  have hz1 : B ≤ w1.heap.size := Nat.le_trans hBW hb1.size
  clear c0 c1 c2 ho1 hb1 ht1 HO0
  go_wp2_with fail
  refine (putNumber_any v1 _ ln w1 B hz1 HO1.out (by simp only [List.length_append]; omega) h1.1 (by omega)).mono ?_
  rintro e w2 ⟨v2, rfl, ho2, hb2, ht2, _⟩
  have HT2 := Lib.hid (HT1.out.trans ht2)
  have e2 := (ht2.cell (p := ⟨w.heap.size, 2, none⟩) (HT.out.same (HT1.out _ _ HT.out (by decide))) (by decide)).trans d2
  have HO2 := Lib.hid ho2
  have HB2 := Lib.hid (HB1.out.trans hb2)
  have hz2 : B ≤ w2.heap.size := Nat.le_trans hz1 hb2.size
  clear d1 d2 ho2 hb2 ht2 HO1 HB1 HT1
  go_wp2_with fail
  refine (putNumber_any v2 _ (sc.length : Int) w2 B hz2 HO2.out (by simp only [List.length_append]; omega) (by omega) (by omega)).mono ?_
  rintro e w3 ⟨v3, rfl, ho3, hb3, ht3, _⟩
  have HT3 := Lib.hid (HT2.out.trans ht3)
  have e3 := (ht3.cell (p := ⟨w.heap.size, 2, none⟩) (HT.out.same (HT2.out _ _ HT.out (by decide))) (by decide)).trans e2
  have HB3 := Lib.hid (HB2.out.trans hb3)
  have hz3 : B ≤ w3.heap.size := Nat.le_trans hz2 hb3.size
  obtain ⟨m, hm⟩ : ∃ m, m = l ++ nB false fn ++ nB false ln ++ nB false (sc.length : Int) := ⟨_, rfl⟩
  rw [← hm] at ho3
  have hml : m.length ≤ 900000000030 := by rw [hm]; simp only [List.length_append]; omega
  have HM := Lib.hid hm
  have HO3 := Lib.hid (show Own w3 B v3 (m ++ (sc.take 0).flatMap (nB false)) by simpa using ho3)
  clear e2 ho3 hb3 ht3 HO2 HB2 HT2 hm n1 n2 n3
  go_wp2_with fail
  go_loopw [0, 23] (fun b i wr => ∃ (k : Nat) (vk : Value), k ≤ sc.length ∧ i = .int .i64 k ∧ b = vk ∧ Hid (Own wr B vk (m ++ (sc.take k).flatMap (nB false))) ∧ Hid (Below B W wr) ∧ Hid (ButT 5 W wr) ∧ Hid (((sc.take k).flatMap (nB false)).length ≤ 10 * k)) (fun _ i _ => sc.length - (intOf i).toNat)
  case atStart => exact ⟨0, v3, by omega, rfl, rfl, HO3, HB3, HT3, Lib.hid (by simp)⟩
  case round =>
    obtain ⟨k, vk, hk, rfl, rfl, hO, hBb, hTt, hLn⟩ := hrel
    clear HO3 HB3 HT3
    by_cases hlt : k < sc.length
    · obtain ⟨g, o, rfl, hg, x0⟩ := eI_at (HSL.out.below hBb.out) hlt
      have hx := H2.out _ (List.getElem_mem hlt)
      have HS := Lib.hid (show sc.take (k + 1) = sc.take k ++ [sc[k]] from by rw [List.take_append_getElem])
      generalize sc[k] = x at *
      have hln := hLn.out
      have hzr : B ≤ wr.heap.size := Nat.le_trans hBW hBb.out.size
      go_wp2_with fail
      refine (putNumber_any _ _ x wr B hzr hO.out (by simp only [List.length_append]; omega) hx.1 (by omega)).mono ?_
      rintro e w4 ⟨v4, rfl, ho4, hb4, ht4, _⟩
      have HB4 := Lib.hid (hBb.out.trans hb4)
      have HT4 := Lib.hid (hTt.out.trans ht4)
      have HO4 := Lib.hid (show Own w4 B v4 (m ++ (sc.take (k + 1)).flatMap (nB false)) by rw [HS.out, List.flatMap_append, ← List.append_assoc]; simpa using ho4)
      have HL4 := Lib.hid (show ((sc.take (k + 1)).flatMap (nB false)).length ≤ 10 * (k + 1) by rw [HS.out, List.flatMap_append, List.length_append]; have := nb10 x; simp only [List.flatMap_cons, List.flatMap_nil, List.append_nil]; omega)
      clear ho4 hb4 ht4 HS
      go_wp2_with fail
      go_roundw
      case rel => exact ⟨k + 1, v4, by omega, by go_num, rfl, HO4, HB4, HT4, HL4⟩
      case measure => simp [intOf]; omega
    · have hki : (sc.length : Int) ≤ k := by omega
      have hx0 := hO.out
      rw [List.take_of_length_le (by omega), HM.out] at hx0
      have HX := Lib.hid hx0
      clear hO hx0
      go_wp2_with fail
      go_ret
      exact ⟨_, rfl, by unfold encQ; simpa [List.append_assoc] using HX.out, (HB0.out.mono hB).trans hBb.out, (ButT.below HB0.out).trans hTt.out⟩
end Go.Proofs.YtbkfkdiadeaooaaGreat
