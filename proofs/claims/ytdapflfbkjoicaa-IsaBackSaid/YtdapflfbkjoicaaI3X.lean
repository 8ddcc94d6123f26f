/-
  For the walk of IsaBack: what is got of a beginning, and of what was put with bytes behind.
-/
import Derived.Test.YtdapflfbkjoicaaKI
import Derived.Test.YtdapflfbkjoicaaI3P
import Derived.Test.YtdapflfbkjoicaaI3W
import Derived.Test.YtdapflfbkjoicaaR0A
namespace Go.Proofs.Ytdapflfbkjoicaa
open Go.RowKit

theorem Lies.take {w : World} {B : Nat} {A : Option Addr} {l : List UInt8} (h : Lies w B A l) (k : Nat) : Lies w B A (l.take k) := fun hl => by
  have hl' : 0 < l.length := by simp at hl; omega
  obtain ⟨g, o, e, hg, hc⟩ := h hl'
  refine ⟨g, o, e, hg, fun j hj => ?_⟩
  have hj' : j < l.length := by simp at hj; omega
  rw [hc j hj']; simp
theorem drawn {w w2 : World} (h : Below w.drew.heap.size w.drew w2) : Below w.heap.size w w2 := ⟨h.os, h.tape, h.output, h.size, h.block⟩
theorem eqIs (A A2 : Option Addr) (c c2 B B2 : Nat) {P : List UInt8} {q q2 : Nat} (w : World) (hl : P.length = q) (hl2 : P.length = q2) (hq : q ≤ 1099511627776) (h : Lies w B A P) (h2 : Lies w B2 A2 P) :
    Calls Try.prog 15 #[.slice A q c, .slice A2 q2 c2] w fun e w' => e = .returned (.bool true) ∧ w = w' := by
  have := eqBytes_same A A2 c c2 P w B B2 (by omega) h h2
  subst hl; subst hl2; exact this
/-- a beginning of its bytes is none -/
theorem get_cut {i : Ins} {l : List UInt8} {k : Nat} (hr : i.Rng) (h : rightB i = true) (h1 : l.length ≤ k) (h2 : k < l.length + (ownB i).length) : ¬ gE ((l ++ ownB i).take k) l.length = 0 := by
  intro he
  obtain ⟨k0, e0, e1, e2, e3, e4, _⟩ := get_got he
  have hk0 : k0 = l.length := by omega
  subst hk0
  generalize gI ((l ++ ownB i).take k) l.length = j at *
  have hd : ((l ++ ownB i).take k).drop l.length = (ownB i).take (k - l.length) := by rw [List.drop_take, List.drop_left]
  rw [hd] at e4
  have hp : ownB j <+: ownB i := e4.trans (List.take_prefix _ _)
  obtain rfl := own_one e2 hr e3 h hp (List.prefix_refl _)
  have := e4.length_le
  rw [List.length_take] at this
  omega
theorem cutI {i : Ins} {w : World} {A : Option Addr} {l : List UInt8} (hr : i.Rng) (h : rightB i = true) (c k n : Nat) (hL : Lies w w.heap.size A (l ++ ownB i)) (hn : (l ++ ownB i).length = n) (hl : l.length ≤ 1024) (h1 : l.length ≤ k) (h2 : k < n) (hc : n ≤ c) :
    Calls Try.prog 19 #[.slice A k c, .int .i64 l.length] w fun e w' => (∃ er, (er == 0) = false ∧ e = .returned (.tuple #[.agg #[.int .u8 0, .int .u8 0, .int .i64 0, .int .i64 0, .int .i64 0, .int .i64 0, .int .i64 0], .int .i64 0, .int .i64 er])) ∧ Below w.heap.size w w' := by
  have hlen : ((l ++ ownB i).take k).length = k := by rw [List.length_take]; omega
  rw [List.length_append] at hn
  have hE := get_cut (k := k) hr h h1 (by omega)
  have ho := ownB_len i
  have := isaGet_any A c ((l ++ ownB i).take k) l.length w (by omega) (by omega) (hL.take k)
  unfold GetR at this
  rw [hlen, (get_not hE).1, (get_not hE).2] at this
  exact this.mono fun e w' he => ⟨⟨_, nbeq_of hE, he.1⟩, he.2⟩
/-- what was put is got, with bytes behind -/
theorem readI {i : Ins} {w : World} {A : Option Addr} {l t : List UInt8} (hr : i.Rng) (h : rightB i = true) (c n m : Nat) (hL : Lies w w.heap.size A (l ++ ownB i ++ t)) (hn : (l ++ ownB i ++ t).length = n) (hm : (l ++ ownB i).length = m) (hl : n ≤ 65536) (hc : n ≤ c) :
    Calls Try.prog 19 #[.slice A n c, .int .i64 l.length] w fun e w' => e = .returned (.tuple #[iv i, .int .i64 m, .int .i64 0]) ∧ Below w.heap.size w w' := by
  have := isaGet_any A c (l ++ ownB i ++ t) l.length w (by omega) (by omega) hL
  unfold GetR at this
  obtain ⟨g1, g2, g3⟩ := get_put (l := l ++ ownB i ++ t) (k := l.length) hr h (by rw [List.append_assoc, List.drop_left]; exact List.prefix_append _ _) (by simp)
  rw [g1, g2, g3, hn] at this
  rw [List.length_append] at hm
  rw [← hm]
  exact this

def PutIs (P : List UInt8) (q : Nat) (w : World) (e : Ending) (w' : World) : Prop := ∃ A c, e = .returned (.slice A q c) ∧ Lies w' w'.heap.size A P ∧ Below w.heap.size w w'
theorem putIs {i : Ins} {q : Nat} (w : World) (hr : i.Rng) (hq : (ownB i).length = q) : Calls Try.prog 10 #[.slice none 0 0, iv i] w (PutIs (ownB i) q w) := by
  refine (isaPut_any none 0 [] i w hr (fun _ => rfl) (Lies.empty _ _ _) (by simp)).mono ?_
  rintro e w' ⟨v, rfl, ho, hb⟩
  rw [List.nil_append] at ho
  obtain ⟨A, c, rfl, _, _, hL⟩ := ho.form
  exact ⟨A, c, by rw [hq], hL, hb⟩

/-- what is got of bytes at their head: an instruction, whose own stand there, or none -/
inductive HeadIs (t : List UInt8) : Prop
  | good (q : Nat) (hq : 1 ≤ q) (hq2 : q ≤ 12) (hqt : q ≤ t.length) (hr : (gI t 0).Rng) (h : rightB (gI t 0) = true) (hP : ownB (gI t 0) = t.take q) (hl : (ownB (gI t 0)).length = q) (he : gE t 0 = 0) (hn : gN t 0 = q)
  | bad (he : ¬ gE t 0 = 0) (hi : gI t 0 = insOf 0) (hn : gN t 0 = 0)
theorem headIs (t : List UInt8) : HeadIs t := by
  by_cases he : gE t 0 = 0
  · obtain ⟨k, e0, e1, e2, e3, e4, e5⟩ := get_got he
    have hk : k = 0 := by omega
    subst hk
    have hl := own_len e3
    rw [List.drop_zero] at e4
    have hle := e4.length_le
    refine .good _ hl.1 hl.2 hle e2 e3 (List.prefix_iff_eq_take.1 e4) rfl he ?_
    rw [e5]; simp
  · exact .bad he (get_not he).1 (get_not he).2

end Go.Proofs.Ytdapflfbkjoicaa
