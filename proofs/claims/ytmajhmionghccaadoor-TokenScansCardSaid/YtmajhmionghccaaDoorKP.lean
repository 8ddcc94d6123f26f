/-
  Laws for blocks of bytes: copy into one, append that fits into one.
-/
import Derived.Test.YtmajhmionghccaaDoorKO
import Derived.Laws.CopyOwn
namespace Go.Proofs.YtmajhmionghccaaDoor
open Go.RowKit

section
variable {ops : Array Oper} {rest : List Oper} {o : Oper} {a : Act} {Q : Exit → Act → World → Prop}

theorem u8_size : (Tryd.prog.info? 5).map (·.size) = some 1 := by kernel_rfl

theorem grown_setRow (w : World) (g : Nat) (cs : Array Value) : w.grownBy (w.setRow g cs) (some g) :=
  ⟨rfl, rfl, rfl, by simp, fun k _ hk => setRow_other w g k _ (fun e => hk (by rw [e]))⟩

set_option maxRecDepth 10000 in
theorem copy_blk (w : World) (hgd : o.guard = none) (d s : Operand) (ho : o.op = .call { callee := .builtin .copy, args := #[d, s], argTypes := #[22, 22] })
    (g off : Nat) (L : List UInt8) (hb : Blk w g L) (dLen dCap : Nat) (hd : a.eval d = .slice (some ⟨g, off, none⟩) dLen dCap)
    (A : Option Addr) (c C : Nat) (l2 : List UInt8) (hs : a.eval s = .slice A l2.length c) (hl : Lies w C A l2) (m : Nat) (hm : Nat.min l2.length dLen = m) (hfit : off + m ≤ L.length)
    (h : ∀ w', Blk w' g (L.take off ++ l2.take m ++ L.drop (off + m)) → w.grownBy w' (some g) → wpList Tryd.prog ops Q rest (a.put o.dst (goInt m)) w') :
    wpList Tryd.prog ops Q (o :: rest) a w := by
  have hml : m ≤ l2.length := by rw [← hm]; exact Nat.min_le_left _ _
  refine wpList_plain hgd fun K hK' => ?_
  by_cases h0 : m = 0
  · have hrun := run_copy_none (P := Tryd.prog) w 22 22 o.type 5 (some ⟨g, off, none⟩) A dLen dCap l2.length c Tryd.underlying22 u8_size (by rw [hm, h0])
    unfold Oper.wp
    simp [execOp, ho, resolve, invoke, builtin, hd, hs, hrun, Result.andThen]
    have := h w (by subst h0; simpa using hb) (World.grownBy.refl _ _)
    rw [h0] at this
    exact hK' _ _ this
  · obtain ⟨sg, so, rfl, _, _⟩ := hl (by omega)
    have hrun := run_copy_row (P := Tryd.prog) w 22 22 o.type 5 g off dLen dCap ⟨sg, so, none⟩ l2.length c _ 5 ((l2.take m).map b8) Tryd.underlying22 u8_size hb
      (by rw [hm]; simp; omega) (by
        intro j v hv
        have hj : j < m := by have := (List.getElem?_eq_some_iff.1 hv).1; simp at this; omega
        obtain ⟨g', o', e, _, hc⟩ := hl.at_ (show j < l2.length by omega)
        cases e
        rw [show (⟨sg, so, none⟩ : Addr).add j = ⟨sg, so + j, none⟩ from add_zero_off sg so j, hc]
        simpa [hj, b8, show j < l2.length by omega] using hv) (by simp; omega) (b8_one _)
    have hlen : ((l2.take m).map b8).length = m := by simp; omega
    have hset := setRow_heap w g _ ((((L.map b8).toArray).toList.take off ++ (l2.take m).map b8 ++ ((L.map b8).toArray).toList.drop (off + ((l2.take m).map b8).length)).toArray) _ _ hb
    unfold Oper.wp
    simp only [execOp, ho, resolve, invoke, builtin, Sem.run_bind, Sem.run_pure, Result.andThen_ok, List.map_toArray, List.map_cons, List.map_nil, hd, hs, hrun, hlen]
    rw [hlen] at hset
    refine hK' _ _ (h _ ?_ (grown_setRow w g _))
    unfold Blk
    rw [hset]
    congr 2
    simp [List.map_take, List.map_drop]

set_option maxRecDepth 10000 in
/-- a copy of nothing -/
theorem copy_none (w : World) (hgd : o.guard = none) (d s : Operand) (ho : o.op = .call { callee := .builtin .copy, args := #[d, s], argTypes := #[22, 22] })
    (dp sp : Option Addr) (dLen dCap sLen sCap : Nat) (hd : a.eval d = .slice dp dLen dCap) (hs : a.eval s = .slice sp sLen sCap) (hm : Nat.min sLen dLen = 0)
    (h : wpList Tryd.prog ops Q rest (a.put o.dst (goInt 0)) w) : wpList Tryd.prog ops Q (o :: rest) a w := by
  refine wpList_plain hgd fun K hK' => ?_
  have hrun := run_copy_none (P := Tryd.prog) w 22 22 o.type 5 dp sp dLen dCap sLen sCap Tryd.underlying22 u8_size hm
  unfold Oper.wp
  simp [execOp, ho, resolve, invoke, builtin, hd, hs, hrun, Result.andThen]
  exact hK' _ _ h

set_option maxRecDepth 10000 in
/-- append of bytes that fit -/
theorem app_fit (w : World) (hgd : o.guard = none) (s x : Operand) (ho : o.op = .call { callee := .builtin .append, args := #[s, x], argTypes := #[22, 22] })
    (g n cp : Nat) (L : List UInt8) (hb : Blk w g L) (hs : a.eval s = .slice (some ⟨g, 0, none⟩) n cp)
    (sg so c C : Nat) (l2 : List UInt8) (hx : a.eval x = .slice (some ⟨sg, so, none⟩) l2.length c) (hl : Lies w C (some ⟨sg, so, none⟩) l2)
    (hfit : n + l2.length ≤ cp) (hcp : cp ≤ L.length)
    (h : ∀ w', Blk w' g (L.take n ++ l2 ++ L.drop (n + l2.length)) → w.grownBy w' (some g) → wpList Tryd.prog ops Q rest (a.put o.dst (.slice (some ⟨g, 0, none⟩) (n + l2.length) cp)) w') :
    wpList Tryd.prog ops Q (o :: rest) a w := by
  obtain ⟨i0, hi0, hz0, hz1, hz2⟩ := info_parts u8_info
  have hnews : ∀ j u, (l2.map b8)[j]? = some u → w.cell? ((⟨sg, so, none⟩ : Addr).add j) = some u := by
    intro j u hu
    have hj : j < l2.length := by have := (List.getElem?_eq_some_iff.1 hu).1; simpa using this
    obtain ⟨g', o', e, _, hc⟩ := hl.at_ hj
    cases e
    rw [show (⟨sg, so, none⟩ : Addr).add j = ⟨sg, so + j, none⟩ from add_zero_off sg so j, hc]
    simpa [hj, b8] using hu
  have hr := run_append_room (P := Tryd.prog) w 22 o.type 5 i0 Tryd.underlying22 hi0 g n cp _ hb ⟨sg, so, none⟩ l2.length c (l2.map b8) (by simp [hz1]) hnews (b8_one _) hfit (by simp [hz1]; omega)
  have hset := setRow_heap w g _ (((L.map b8).toArray.toList.take (n * i0.size) ++ l2.map b8 ++ (L.map b8).toArray.toList.drop (n * i0.size + (l2.map b8).length)).toArray) _ _ hb
  refine wpList_plain hgd fun K hK' => ?_
  unfold Oper.wp execOp
  simp only [ho, resolve, invoke, builtin, Sem.run_bind, Sem.run_pure, Result.andThen_ok, List.map_toArray, List.map_cons, List.map_nil, hs, hx, hr]
  refine hK' _ _ (h _ ?_ (grown_setRow w g _))
  unfold Blk
  rw [hset]
  congr 2
  simp [hz1, List.map_take, List.map_drop]
end

end Go.Proofs.YtmajhmionghccaaDoor
