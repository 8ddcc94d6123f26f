/-
  Merged for a claim: SYQ.
-/
import Derived.Test.YtcgohlooelojfaaJSYP
namespace Go.Proofs.Ytcgohlooelojfaa
open Go Go.RowKit

theorem El.Own.front {α : Type} {K : El α} {w : World} {B : Nat} {A : Option Addr} {n c : Nat} {xs ys : List α} (h : K.Own w B (.slice A n c) (xs ++ ys)) : K.Own w B (.slice A xs.length c) xs := by
  have h1 := h.1
  rcases h.2 with ⟨e, h0⟩ | ⟨g, cap, cur, e, hB, hh, hn, hm, hs, ht⟩
  · injection e with e1 e2 e3
    subst e1 e3
    have h9 := El.flat_len K (xs ++ ys)
    have : xs = [] := by
      have h8 : (xs ++ ys).length = 0 := h0
      rw [List.length_append] at h8
      exact List.eq_nil_of_length_eq_zero (by omega)
    subst this
    exact El.Own.nil w B
  · injection e with e1 e2 e3
    subst e1 e3
    refine ⟨El.flat_len K xs, .inr ⟨g, c, cur, rfl, hB, hh, ?_, hm, hs, ?_⟩⟩
    · have h8 : (xs ++ ys).length ≤ c := hn
      rw [List.length_append] at h8
      omega
    · rw [List.flatMap_append] at ht
      have h7 : cur.toList.take (xs.length * K.sz) = (cur.toList.take ((xs ++ ys).length * K.sz)).take (xs.length * K.sz) := by
        rw [List.take_take, Nat.min_eq_left (Nat.mul_le_mul_right _ (by rw [List.length_append]; omega))]
      rw [h7, ht, ← El.flat_len K xs, List.take_left]
theorem half_info : (Try.prog.info? 141).map (fun i => (i.zero, i.size, i.bytes)) = some (some (.agg #[.int .u8 0, .int .i64 0, .string ⟨#[]⟩, .string ⟨#[]⟩, .string ⟨#[]⟩, .slice none 0 0, .int .i64 0, .string ⟨#[]⟩]), 8, 112) := by kernel_rfl
/-- a world on the way -/
structure ExW (w : World) (gp : Nat) (A : Option Addr) (c : Nat) (l : List To) (v : Value) (rs : List HM) (o : List Ha) (W : World) (u : List To) : Prop where
  p : Ps W gp A c l u
  r : eH.Own W w.heap.size v rs.reverse
  s : Stk W (fun g => w.heap.size < g) rs o
  a : CAt W w.heap.size 55 zE
  g : w.grownBy W (some gp)
  n : gp < w.heap.size ∧ rs.length + u.length ≤ l.length
section
variable {w W W' : World} {gp : Nat} {A : Option Addr} {c : Nat} {l u u' : List To} {v v' : Value} {rs : List HM} {o : List Ha} {m : HM} {hh : Ha}
theorem ExW.new (h : Ps w gp A c l u) (hu : u.length ≤ l.length) : ExW w gp A c l (.slice none 0 0) [] [] (w.alloc (.cells #[.int .u8 0, .int .i64 0, .string ⟨#[]⟩, .string ⟨#[]⟩, .string ⟨#[]⟩, .slice none 0 0] 55)) u :=
  ⟨h.next (below_lnew w _), El.Own.nil _ _, trivial, heap_alloc_new w _, grown_below (below_lnew w _) _, h.lt, by simpa using hu⟩
theorem ExW.below (h : ExW w gp A c l v rs o W u) (hb : Below W.heap.size W W') : ExW w gp A c l v rs o W' u :=
  ⟨h.p.next hb, h.r.below hb, Stk.keep (fun g _ hg => hb.block g hg.lt) (fun _ q => q) h.s, h.a.below hb h.a.lt, grown_trans h.g (grown_below hb _), h.n⟩
theorem ExW.drew (h : ExW w gp A c l v rs o W u) : ExW w gp A c l v rs o W.drew u := h.below ((Below.refl _ W).drew)
theorem ExW.step (h : ExW w gp A c l v rs o W u) (hp : Ps W' gp A c l u') (hg : W.grownBy W' (some gp)) (hu : u'.length ≤ u.length) : ExW w gp A c l v rs o W' u' := by
  have hb : ButT 59 W W' := ButT.grown hg fun k e => by injection e with e; subst e; exact h.p.has
  exact ⟨hp, h.r.but hb (by decide), Stk.keep (fun g _ ht => hb g _ ht (by decide)) (fun _ q => q) h.s, (hb _ _ ⟨_, _, h.a⟩ (by decide)).trans h.a, grown_trans h.g hg, h.n.1, by have := h.n.2; omega⟩
/-- a half more -/
theorem ExW.push (h : ExW w gp A c l v rs o W u) (hg : W.grownBy W' v.ownBlock) (ho : eH.Own W' w.heap.size v' (rs.reverse ++ [m])) (hi : m.Is hh W (fun g => w.heap.size < g)) (hl : rs.length + 1 + u.length ≤ l.length) : ExW w gp A c l v' (m :: rs) (hh :: o) W' u := by
  have hz : w.heap.size ≤ W.heap.size := h.g.size
  have hb : ButT 141 W W' := ButT.grown hg fun k e => h.r.has k e
  have hB : Below w.heap.size W W' := El.below_grown (Below.refl _ W) hg h.r hz
  have hk : ∀ g, w.heap.size < g → HasT W g 55 → W'.heap[g]? = W.heap[g]? := fun g _ ht => hb g _ ht (by decide)
  exact ⟨h.p.below hB h.n.1, by rw [List.reverse_cons]; exact ho, ⟨hi.keep hk (fun _ q => q), Stk.keep hk (fun _ q => q) h.s⟩, (hb _ _ ⟨_, _, h.a⟩ (by decide)).trans h.a, grown_new h.g hB, h.n.1, by simpa using hl⟩
/-- the halves that are left -/
theorem ExW.left {Ao : Option Addr} {n co : Nat} {rs2 : List HM} {o2 : List Ha} {P : Nat → Prop} (h : ExW w gp A c l (.slice Ao n co) rs o W u) (hsf : rs2 <:+ rs) (hp : Ps W' gp A c l u') (hg : W.grownBy W' (some gp)) (hu : u'.length ≤ u.length) (hs : Stk W' P rs2 o2) (hP : ∀ g, P g → w.heap.size < g) : ExW w gp A c l (.slice Ao rs2.length co) rs2 o2 W' u' := by
  have h1 := h.step hp hg hu
  obtain ⟨t, rfl⟩ := hsf
  have hr := h1.r
  rw [List.reverse_append] at hr
  have hf := hr.front
  rw [List.length_reverse] at hf
  exact ⟨hp, hf, Stk.keep (fun _ _ _ => rfl) hP hs, h1.a, h1.g, h1.n.1, by have := h1.n.2; rw [List.length_append] at this; omega⟩
end
end Go.Proofs.Ytcgohlooelojfaa
