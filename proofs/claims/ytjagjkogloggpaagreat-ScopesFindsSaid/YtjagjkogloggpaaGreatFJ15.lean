/-
  Merged for a claim: O1A, O1K, O1R.
-/
import Derived.Test.YtjagjkogloggpaaGreatProg
import Derived.WalkKit
import Derived.WalkSpells
import Derived.WalkLawsBesides
import Derived.Lib.Hide
import Derived.Test.YtjagjkogloggpaaGreatFJ0
import Derived.Test.YtjagjkogloggpaaGreatFJ1
import Derived.Test.YtjagjkogloggpaaGreatFGA
import Derived.Lib.AppendStr
import Derived.OwnWalk
namespace Go.Proofs.YtjagjkogloggpaaGreat
open Go.RowKit

def isHalfB (n : Int) : Bool := decide (0 ≤ n ∧ n < 16)

set_option maxHeartbeats 400000 in
theorem isHalf_any (n : Int) (w : World) :
    Calls Tryz.prog 264 #[.int .i64 n] w fun e w' => e = .returned (.bool (isHalfB n)) ∧ w = w' := by
  by_cases h1 : 0 ≤ n <;> by_cases h2 : n < 16
  all_goals
    go_enter Tryz.func264, Tryz.ntmps264
    go_wp2
    go_ret
    refine ⟨?_, rfl⟩
    simp [isHalfB, *]

def pairB (h l : Int) : Bool := decide (0 ≤ h ∧ h < 16 ∧ 0 ≤ l ∧ l < 16)
def pairV (h l : Int) : Int := if pairB h l = true then h * 16 + l else 0

set_option maxHeartbeats 400000 in
theorem pair_any (h l : Int) (w : World) :
    Calls Tryz.prog 234 #[.int .i64 h, .int .i64 l] w fun e w' => e = .returned (.tuple #[.int .u8 (pairV h l), .bool (pairB h l)]) ∧ w = w' := by
  by_cases h1 : 0 ≤ h <;> by_cases h2 : h < 16 <;> by_cases h3 : 0 ≤ l <;> by_cases h4 : l < 16
  all_goals
    go_enter Tryz.func234, Tryz.ntmps234
    go_wp2
    go_ret2
    refine ⟨?_, rfl⟩
    (simp [pairV, pairB, *]) <;> omega

set_option maxHeartbeats 400000 in
theorem halves_any (x : Int) (w : World) (h0 : 0 ≤ x) (h1 : x < 256) :
    Calls Tryz.prog 236 #[.int .u8 x] w fun e w' => e = .returned (.tuple #[.int .i64 (x / 16), .int .i64 (x % 16)]) ∧ w = w' := by
  go_enter Tryz.func236, Tryz.ntmps236
  go_wp2
  go_ret2
  exact ⟨rfl, rfl⟩

end Go.Proofs.YtjagjkogloggpaaGreat

namespace Go.Proofs.YtjagjkogloggpaaGreat
open Go.RowKit

set_option maxHeartbeats 400000 in
theorem behind_any (A A2 : Option Addr) (c c2 : Nat) (l l2 : List UInt8) (w : World) (hc : A = none → c = 0) (hc2 : A2 = none → c2 = 0) (h : Lies w w.heap.size A l) (h2 : Lies w w.heap.size A2 l2)
    (hn : l.length ≤ 1099511627776) (hn2 : l2.length ≤ 300) :
    Calls Tryz.prog 212 #[.slice A l.length c, .slice A2 l2.length c2] w (MadeC w (l ++ l2) (l.length + l2.length)) := by
  have HC := Lib.hid (And.intro hc hc2)
  clear hc hc2
  go_enter Tryz.func212, Tryz.ntmps212
  go_wp2_with (first
    | (at_make
       refine make_bytes _ rfl (.const (.int .i64 0)) (.tmp 10) rfl 0 (l.length + l2.length) _ _ rfl rfl rfl (by omega) (by omega) (by omega) ?_
       intro w1 hk1 hb1 hs1
       have ho1 := own_room hk1 (Nat.le_refl _) (by omega)
       clear hk1)
    | (at_builtin
       refine app_cap _ rfl (.tmp 12) (.tmp 13) rfl w.heap.size _ [] rfl ho1 A c w.heap.size l rfl HC.out.1 (h.below hb1) (by simp; omega) (by omega) ?_
       intro v2 w2 ho2 hg2 hcp2
       have hcap : Hid (capOf v2 = l.length + l2.length) := hcp2 (by show 0 + l.length ≤ l.length + l2.length; omega)
       clear hcp2
       have hb2 := below_grown hb1 hg2 ho1 (by omega)
       clear hg2 ho1 hb1)
    | (at_builtin
       refine app_cap _ rfl (.tmp 15) (.tmp 16) rfl w.heap.size v2 ([] ++ l) rfl ho2 A2 c2 w.heap.size l2 rfl HC.out.2 (h2.below hb2) (by simp; omega) hb2.size ?_
       intro v3 w3 ho3 hg3 hcp3
       have hcap3 : Hid (capOf v3 = l.length + l2.length) := (hcp3 (Nat.le_trans (m := l.length + l2.length) (by simp) (Nat.le_of_eq hcap.out.symm))).trans hcap.out
       clear hcp3
       have hb3 := below_grown hb2 hg3 ho2 hb2.size
       clear hg3))
  go_ret
  exact ⟨v3, rfl, by simpa using ho3, hb3, hcap3⟩

end Go.Proofs.YtjagjkogloggpaaGreat

namespace Go.Proofs.YtjagjkogloggpaaGreat
open Go.RowKit

def txB (s : List UInt8) : List UInt8 := UInt8.ofNat s.length :: s
theorem str_sizeI (l : List UInt8) : (str l).size = l.length := by simp [str, ByteArray.size]

theorem len_lies (w : World) (s : List UInt8) (hs : s.length ≤ 255) : Lies (w.alloc (.cells #[.int .u8 (s.length : Int)] 5)) (w.alloc (.cells #[.int .u8 (s.length : Int)] 5)).heap.size (some ⟨w.heap.size, 0, none⟩) [UInt8.ofNat s.length] :=
  lies_lit w 5 _ _ (by
    have h0 : (UInt8.ofNat s.length).toNat = s.length := by simp; omega
    simp only [List.map_cons, List.map_nil, b8, h0])

def eB : El UInt8 := ⟨5, 1, fun x => [b8 x], fun _ => rfl, fun x u hu => by rw [List.mem_singleton] at hu; subst hu; rfl, by omega⟩
theorem eB_of {w : World} {B : Nat} {A : Option Addr} {l : List UInt8} (h : Lies w B A l) : eB.Lies w B A l := fun hl => by
  obtain ⟨g, o, e, hg, hc⟩ := h hl
  refine ⟨g, o, e, hg, fun j hj f u hu => ?_⟩
  have hf : f = 0 := by
    have := (List.getElem?_eq_some_iff.1 hu).1
    simp [eB] at this
    omega
  subst hf
  have hu2 : b8 l[j] = u := by simpa [eB] using hu
  subst hu2
  show w.cell? ⟨g, o + (j * 1 + 0), none⟩ = _
  rw [Nat.mul_one, Nat.add_zero]
  exact hc j hj
theorem eB_to {w : World} {B : Nat} {A : Option Addr} {l : List UInt8} (h : eB.Lies w B A l) : Lies w B A l := fun hl => by
  obtain ⟨g, o, e, hg, hc⟩ := h hl
  refine ⟨g, o, e, hg, fun j hj => ?_⟩
  have := hc j hj 0 (b8 l[j]) rfl
  have e2 : o + (j * eB.sz + 0) = o + j := by simp [eB]
  rw [e2] at this
  exact this
theorem eB_flat (l : List UInt8) : l.flatMap eB.f = l.map b8 := by
  induction l with
  | nil => rfl
  | cons x l ih => rw [List.flatMap_cons, ih]; rfl
theorem own_eB {w : World} {B : Nat} {v : Value} {l : List UInt8} (h : Own w B v l) : eB.Own w B v l := by
  have := h.row
  unfold El.Own
  rw [eB_flat]
  exact this
section
variable {ops : Array Oper} {rest : List Oper} {o : Oper} {a : Act} {Q : Exit → Act → World → Prop}
theorem app_eB (w : World) (hgd : o.guard = none) (s x : Operand) (ho : o.op = .call { callee := .builtin .append, args := #[s, x], argTypes := #[22, 22] })
    (B : Nat) (v : Value) (l : List UInt8) (hs : a.eval s = v) (hown : eB.Own w B v l) (A : Option Addr) (c : Nat) (L : Nat) (l2 : List UInt8) (hx : a.eval x = .slice A l2.length c) (hc0 : A = none → c = 0) (hy : Lies w L A l2)
    (hn : l.length + l2.length ≤ 1099511627776) (hB : B ≤ w.heap.size) (h : ∀ v' w', eB.Own w' B v' (l ++ l2) → w.grownBy w' v.ownBlock → wpList Tryz.prog ops Q rest (a.put o.dst v') w') : wpList Tryz.prog ops Q (o :: rest) a w :=
  El.apps eB w hgd 22 (.int .u8 0) 1 Tryz.underlying22 u8_info rfl (by omega) s x ho B v l hs hown A c L l2 hx hc0 (eB_of hy) hn (by show _ * 1 ≤ _; omega) hB h
theorem app_eStr (w : World) (hgd : o.guard = none) (s x : Operand) (ho : o.op = .call { callee := .builtin .append, args := #[s, x], argTypes := #[22, 9] })
    (B : Nat) (v : Value) (l : List UInt8) (hs : a.eval s = v) (hown : eB.Own w B v l)
    (l2 : List UInt8) (hx : a.eval x = .string (str l2)) (hsz : l.length + l2.length ≤ 1099511627776) (hB : B ≤ w.heap.size)
    (h : ∀ v' w', eB.Own w' B v' (l ++ l2) → w.grownBy w' v.ownBlock → wpList Tryz.prog ops Q rest (a.put o.dst v') w') : wpList Tryz.prog ops Q (o :: rest) a w := by
  obtain ⟨i0, hi0, hz0, hz1, hz2⟩ := info_parts u8_info
  have hsize : (str l2).size = l2.length := by simp [str, ByteArray.size]
  refine Lib.wpList_append_own_string w hgd s x 22 9 ho B 5 i0 Tryz.underlying22 Tryz.underlying9 hi0 hz0 hz1 hz2 v l.length (l.flatMap eB.f) hs hown (str l2) hx (by rw [hsize]; simp only [maxLen]; omega) (by rw [hsize]; omega) hB
    fun v' w' h1 h2 _ => h v' w' ?_ h2
  show w'.ownsRow B 5 1 v' (l ++ l2).length ((l ++ l2).flatMap eB.f)
  rw [List.length_append, List.flatMap_append]
  rw [hsize] at h1
  have e : l2.flatMap eB.f = Lib.strCells (str l2) := by rw [eB_flat]; rfl
  rw [e]
  exact h1
end
/-- a result in a tuple -/
def PutT (w : World) (l : List UInt8) (er : Int) (e : Ending) (w' : World) : Prop :=
  ∃ v, e = .returned (.tuple #[v, .int .i64 er]) ∧ Own w' w.heap.size v l ∧ Below w.heap.size w w'
set_option maxHeartbeats 1000000 in
theorem putText_any (A : Option Addr) (c : Nat) (l s : List UInt8) (w : World) (hc : A = none → c = 0) (h : Lies w w.heap.size A l) (hn : l.length ≤ 70000) (hi : s.length ≤ 255) :
    Calls Tryz.prog 167 #[.slice A l.length c, .string (str s)] w (PutT w (l ++ txB s) 0) := by
  have hsz := str_sizeI s
  obtain ⟨i0, hi0, hz0, hz1, hz2⟩ := info_parts u8_info
  have HI := Lib.hid (And.intro hi0 (And.intro hz0 (And.intro hz1 hz2)))
  have HC := Lib.hid hc
  clear hi0 hz0 hz1 hz2 hc
  go_enter Tryz.func167, Tryz.ntmps167
  go_wp2_with (first
    | (at_make
       refine wpList_make_own _ rfl (.const (.int .i64 0)) (.tmp 12) 22 rfl w.heap.size 5 i0 _ 1 Tryz.underlying22 HI.out.1 HI.out.2.1 HI.out.2.2.1 .i64 .i64 _ (1 + s.length) rfl rfl (by omega) (by rw [HI.out.2.2.2]; omega) (by simp only [maxLen]; omega) (Nat.le_refl _) ?_
       intro w1 hown1 hg1
       have ho1 : eB.Own w1 w.heap.size (.slice (some ⟨w.heap.size, 0, none⟩) 0 (1 + s.length)) [] := hown1
       clear hown1
       have hb1 : Below w.heap.size w w1 := (Below.refl _ _).grown hg1 (Nat.le_refl _) (by simp)
       clear hg1)
    | (at_builtin
       refine app_eB _ rfl (.tmp 14) (.tmp 18) rfl w.heap.size _ [] rfl (ho1.below ((Below.refl w1.heap.size w1).alloc (Nat.le_refl _) _)) (some ⟨w1.heap.size, 0, none⟩) 1 _ [UInt8.ofNat s.length] rfl (by simp) (len_lies w1 s hi) (by simp) (Nat.le_trans hb1.size (by simp)) ?_
       intro v2 w2 ho2 hg2
       have hb2 := El.below_grown (hb1.alloc hb1.size _) hg2 (ho1.below ((Below.refl w1.heap.size w1).alloc (Nat.le_refl _) _)) (Nat.le_trans hb1.size (by simp))
       clear hg2)
    | (at_builtin
       refine app_eStr _ rfl (.tmp 20) (.tmp 21) rfl w.heap.size v2 _ rfl ho2 s rfl (by simp; omega) hb2.size ?_
       intro v3 w3 ho3 hg3
       have hb3 := El.below_grown hb2 hg3 ho2 hb2.size
       clear hg3
       obtain ⟨A3, c3, rfl, hl3, hc3, hL3⟩ := ho3.form)
    | (go_at_call 212
       refine (behind_any A A3 c c3 l ([] ++ [UInt8.ofNat s.length] ++ s) w3 HC.out hc3 ((h.below hb3).more hb3.size) (eB_to hL3.lies) (by omega) (by simp; omega)).mono ?_
       rintro e w' ⟨v, rfl, ho, hb, _⟩))
  go_outline
  go_ret2
  exact ⟨v, rfl, by simpa [txB] using ho.base hb3.size, hb3.trans (hb.mono hb3.size)⟩
end Go.Proofs.YtjagjkogloggpaaGreat
