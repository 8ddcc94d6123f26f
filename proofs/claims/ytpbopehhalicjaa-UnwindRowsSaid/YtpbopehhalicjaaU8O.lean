/-
  Bytes put behind a row of the call's own: append, typed blocks, the contract of unwind.put.
-/
import Derived.Test.YtpbopehhalicjaaU8H
import Derived.Test.YtpbopehhalicjaaU2D
namespace Go.Proofs.Ytpbopehhalicjaa
open Go Go.RowKit

set_option maxRecDepth 10000 in
theorem run_app2 (w : World) (B : Nat) (v : Value) (l : List UInt8) (hown : Own w B v l) (a : Addr) (c : Nat) (l2 : List UInt8)
    (hl : ∀ j (h : j < l2.length), w.cell? (a.add j) = some (b8 l2[j])) (hsz : l.length + l2.length ≤ 140737488355328) (hB : B ≤ w.heap.size) (ty : TypeId) :
    ∃ v' w', (Builtin.append_ #[22, 22] ty #[v, .slice (some a) l2.length c]).run Try.prog w = .ok v' w' ∧ Own w' B v' (l ++ l2) ∧ w.grownBy w' v.ownBlock ∧ (v'.ownBlock = v.ownBlock ∨ v'.ownBlock = some w.heap.size) := by
  obtain ⟨i0, hi0, hz0, hz1, hz2⟩ := info_parts u8_info
  have hnews : ∀ j u, (l2.map b8)[j]? = some u → w.cell? (a.add j) = some u := by
    intro j u hu
    have hj : j < l2.length := by have := (List.getElem?_eq_some_iff.1 hu).1; simpa using this
    rw [hl j hj]
    simpa [hj] using hu
  have hl2 : (l2.map b8).length = l2.length * i0.size := by simp [hz1]
  have grown : ∀ (n old : Nat), l.length + l2.length = n → ∀ row : Option Nat,
      Own (w.drew.alloc (.cells ((l.map b8).toArray ++ (l2.map b8).toArray ++ Builtin.zeroCells (Value.int .u8 0).cells (grownCap w n old 5 - n)) 5)) B
        (.slice (some ⟨w.heap.size, 0, none⟩) n (grownCap w n old 5)) (l ++ l2) ∧
      w.grownBy (w.drew.alloc (.cells ((l.map b8).toArray ++ (l2.map b8).toArray ++ Builtin.zeroCells (Value.int .u8 0).cells (grownCap w n old 5 - n)) 5)) row := by
    intro n old hn row
    have hge := grownCap_ge w n old 5
    have hcm : grownCap w n old 5 ≤ maxLen := grownCap_le_maxLen w n old 5 (by simp only [maxLen]; omega)
    refine ⟨.inr ⟨w.heap.size, List.replicate (grownCap w n old 5 - n) 0, ?_, hB, ?_, ?_⟩, ⟨rfl, rfl, rfl, by simp, fun k hk _ => heap_alloc_old w.drew _ hk⟩⟩
    · congr 1
      · simp [hn]
      · simp; omega
    · simp; omega
    · refine blk_lit w.drew (l ++ l2 ++ List.replicate (grownCap w n old 5 - n) 0) _ ?_
      have hc : (Value.int .u8 0).cells = #[(Value.int .u8 0)] := rfl
      rw [hc, Array.toList_append, Array.toList_append, zero_b8]
      simp
  rcases hown with ⟨rfl, rfl⟩ | ⟨g, r, rfl, hBg, hcm, hb⟩
  · by_cases hm : l2.length = 0
    · obtain rfl := List.eq_nil_of_length_eq_zero hm
      refine ⟨.slice none 0 0, w, ?_, Own.nil _ _, World.grownBy.refl _ _, .inl rfl⟩
      simp [Builtin.append_, run_underlying Try.underlying22, sizeOf, typeInfo, hi0, Builtin.lenOf, Builtin.firstCells, loadCells, loadCellsFrom]
    · have hr := run_append_nil (P := Try.prog) w 22 ty 5 i0 _ Try.underlying22 hi0 hz0 a l2.length c (l2.map b8) hl2 hnews (by omega) (by simp at hsz; omega) (by rw [hz2]; simp at hsz; omega)
      have hg := grown l2.length 0 (by simp) (Value.ownBlock (.slice none 0 0))
      simp only [List.map_nil, List.nil_append, Array.empty_append] at hg ⊢
      exact ⟨_, _, hr, hg.1, hg.2, .inr rfl⟩
  · by_cases hroom : l.length + l2.length ≤ l.length + r.length
    · have hfit : l.length * i0.size + (l2.map b8).length ≤ (((l ++ r).map b8).toArray).size := by simp [hz1]; omega
      have hr := run_append_room (P := Try.prog) w 22 ty 5 i0 Try.underlying22 hi0 g l.length (l.length + r.length) _ hb a l2.length c (l2.map b8) hl2 hnews (b8_one _) hroom hfit
      refine ⟨_, _, hr, .inr ⟨g, r.drop l2.length, ?_, hBg, by simp; omega, ?_⟩, ⟨rfl, rfl, rfl, by simp, fun k _ hk => setRow_other w g k _ (fun e => hk (by simp [Value.ownBlock, e]))⟩, .inl rfl⟩
      · congr 1 <;> simp <;> omega
      · have := setRow_heap w g _ (((l ++ r).map b8).take (l.length * i0.size) ++ l2.map b8 ++ ((l ++ r).map b8).drop (l.length * i0.size + (l2.map b8).length)).toArray _ _ hb
        unfold Blk
        simp only at *
        rw [this]
        congr 2
        simp [hz1, List.drop_append]
    · have holds : ∀ j u, (l.map b8)[j]? = some u → w.cell? ((⟨g, 0, none⟩ : Addr).add j) = some u := by
        intro j u hu
        have hj : j < l.length := by have := (List.getElem?_eq_some_iff.1 hu).1; simpa using this
        rw [add_zero_off, Nat.zero_add, hb.cell (by simp; omega)]
        simpa [hj, b8, List.getElem_append_left hj] using hu
      have hr := run_append_grow (P := Try.prog) w 22 ty 5 i0 _ Try.underlying22 hi0 hz0 ⟨g, 0, none⟩ l.length (l.length + r.length) (l.map b8) (by simp [hz1]) holds a l2.length c (l2.map b8) hl2 hnews (by omega) (by omega)
        (growslice_fits (by omega) (by rw [hz2]; omega))
      have hg := grown (l.length + l2.length) (l.length + r.length) rfl (Value.ownBlock (.slice (some ⟨g, 0, none⟩) l.length (l.length + r.length)))
      exact ⟨_, _, hr, hg.1, hg.2, .inr rfl⟩

section
variable {o : Oper} {a : Act}
/-- append of some bytes, as one operation -/
theorem op_append {K : Act → World → Prop} {Q : Exit → Act → World → Prop} (w : World) (s x : Operand) (ho : o.op = .call { callee := .builtin .append, args := #[s, x], argTypes := #[22, 22] })
    (B : Nat) (v : Value) (l : List UInt8) (hs : a.eval s = v) (hown : Own w B v l) (A : Option Addr) (c C : Nat) (l2 : List UInt8) (hx : a.eval x = .slice A l2.length c) (h0 : 0 < l2.length) (hl : Lies w C A l2)
    (hsz : l.length + l2.length ≤ 140737488355328) (hB : B ≤ w.heap.size) (h : ∀ v' w', Own w' B v' (l ++ l2) → w.grownBy w' v.ownBlock → (v'.ownBlock = v.ownBlock ∨ v'.ownBlock = some w.heap.size) → K (a.put o.dst v') w') : Oper.wp Try.prog o a w K Q := by
  obtain ⟨g, off, rfl, _, hc⟩ := hl h0
  obtain ⟨v', w', hrun, h1, h2, h3⟩ := run_app2 w B v l hown ⟨g, off, none⟩ c l2 (fun j hj => by rw [add_zero_off]; exact hc j hj) hsz hB o.type
  unfold Oper.wp execOp
  simp only [ho, resolve, invoke, builtin, Sem.run_bind, Sem.run_pure, Result.andThen_ok, List.map_toArray, List.map_cons, List.map_nil, hs, hx, hrun]
  exact h v' w' h1 h2 h3
theorem app_slice2 {ops : Array Oper} {rest : List Oper} {Q : Exit → Act → World → Prop} (w : World) (hgd : o.guard = none) (s x : Operand) (ho : o.op = .call { callee := .builtin .append, args := #[s, x], argTypes := #[22, 22] })
    (B : Nat) (v : Value) (l : List UInt8) (hs : a.eval s = v) (hown : Own w B v l) (A : Option Addr) (c C : Nat) (l2 : List UInt8) (hx : a.eval x = .slice A l2.length c) (h0 : 0 < l2.length) (hl : Lies w C A l2)
    (hsz : l.length + l2.length ≤ 140737488355328) (hB : B ≤ w.heap.size) (h : ∀ v' w', Own w' B v' (l ++ l2) → w.grownBy w' v.ownBlock → (v'.ownBlock = v.ownBlock ∨ v'.ownBlock = some w.heap.size) → wpList Try.prog ops Q rest (a.put o.dst v') w') : wpList Try.prog ops Q (o :: rest) a w :=
  wpList_plain hgd fun _ hK' => op_append w s x ho B v l hs hown A c C l2 hx h0 hl hsz hB (fun v' w' r1 r2 r3 => hK' _ _ (h v' w' r1 r2 r3))
end
/-- ints in a block -/
def IntsAt (W : World) (g : Nat) (l : List Int) : Prop := W.heap[g]? = some (.cells (l.map n7).toArray 3 (0, 0))
theorem IntsAt.lt {W : World} {g : Nat} {l : List Int} (h : IntsAt W g l) : g < W.heap.size := (Array.getElem?_eq_some_iff.1 h).1
theorem IntsAt.lies {W : World} {g : Nat} {l : List Int} (h : IntsAt W g l) : NLies7 W W.heap.size (some ⟨g, 0, none⟩) l := fun _ => ⟨g, 0, rfl, h.lt, fun j hj => by
  unfold IntsAt at h
  simp only [World.cell?, h, Nat.zero_add]
  simp [n7, hj]⟩
theorem IntsAt.below {B : Nat} {W W' : World} {g : Nat} {l : List Int} (h : IntsAt W g l) (hb : Below B W W') (hg : g < B) : IntsAt W' g l := (hb.block g hg).trans h
theorem IntsAt.kept {W W' : World} {g : Nat} {l : List Int} {row : Option Nat} (h : IntsAt W g l) (hg : W.grownBy W' row) (hne : some g ≠ row) : IntsAt W' g l := (hg.block g h.lt hne).trans h
theorem LocAt.kept8 {w w' : World} {g : Nat} {r : Lc} {row : Option Nat} (h : LocAt w g r) (hg : w.grownBy w' row) (hne : some g ≠ row) : LocAt w' g r := (hg.block g h.lt hne).trans h
theorem Own.no_typed {B : Nat} {W : World} {v : Value} {l : List UInt8} {g : Nat} {cs : Array Value} {t : TypeId} (h : Own W B v l) (hs : W.heap[g]? = some (.cells cs t (0, 0))) (ht : t ≠ 5) : some g ≠ v.ownBlock := by
  intro e
  rcases h with ⟨rfl, _⟩ | ⟨g', q, rfl, _, _, hh⟩
  · cases e
  · simp only [Value.ownBlock, Option.some.injEq] at e
    subst e
    unfold Blk at hh
    rw [hs] at hh
    injection hh with e1
    injection e1 with _ e2
    exact ht e2
theorem Own.no_ints {B : Nat} {W : World} {v : Value} {l : List UInt8} {g : Nat} {m : List Int} (h : Own W B v l) (hs : IntsAt W g m) : some g ≠ v.ownBlock := h.no_typed hs (by decide)
theorem Own.no_sp {B : Nat} {W : World} {v : Value} {l : List UInt8} {g : Nat} {m : Ps} (h : Own W B v l) (hs : SpAt W g m) : some g ≠ v.ownBlock := h.no_typed hs (by decide)
theorem Own.no_lc {B : Nat} {W : World} {v : Value} {l : List UInt8} {g : Nat} {m : Lc} (h : Own W B v l) (hs : LocAt W g m) : some g ≠ v.ownBlock := h.no_typed hs (by decide)

/-- what numbers are in bytes -/
def numsB (ns : List Int) : List UInt8 := ns.flatMap (nB false)
theorem numsB_len (ns : List Int) : (numsB ns).length ≤ 10 * ns.length := by
  unfold numsB
  induction ns with
  | nil => simp
  | cons x xs ih =>
    rw [List.flatMap_cons, List.length_append, List.length_cons, nB_len]
    have := size_le false x
    omega
theorem numsB_take {ns : List Int} {k : Nat} (hk : k < ns.length) : numsB (ns.take (k + 1)) = numsB (ns.take k) ++ nB false ns[k] := by
  unfold numsB
  rw [← List.take_append_getElem hk, List.flatMap_append, List.flatMap_singleton]
def PutvR (B : Nat) (v : Value) (l : List UInt8) (ns : List Int) (w : World) (e : Ending) (w' : World) : Prop := ∃ v', e = .returned v' ∧ Own w' B v' (l ++ numsB ns) ∧ w.grownBy w' v.ownBlock
/-- only a row has been turned, or what is new -/
def Turned (w w' : World) (v0 v : Value) : Prop := w.grownBy w' v0.ownBlock ∧ ∀ k, v.ownBlock = some k → v0.ownBlock = some k ∨ w.heap.size ≤ k
theorem Turned.below {w w1 w2 : World} {v0 v : Value} (h : Turned w w1 v0 v) (hb : Below w1.heap.size w1 w2) : Turned w w2 v0 v :=
  ⟨h.1.trans ⟨hb.os, hb.tape, hb.output, hb.size, fun k hk _ => hb.block k hk⟩, h.2⟩
theorem Turned.grown {w w1 w2 : World} {v0 v v' : Value} (h : Turned w w1 v0 v) (hg : w1.grownBy w2 v.ownBlock) (e : v'.ownBlock = v.ownBlock ∨ v'.ownBlock = some w1.heap.size) : Turned w w2 v0 v' := by
  obtain ⟨⟨a1, a2, a3, a4, a5⟩, h2⟩ := h
  obtain ⟨b1, b2, b3, b4, b5⟩ := hg
  refine ⟨⟨b1.trans a1, b2.trans a2, b3.trans a3, by omega, fun k hk hne => ?_⟩, fun k hk => ?_⟩
  · refine (b5 k (by omega) (fun q => ?_)).trans (a5 k hk hne)
    rcases h2 k q.symm with r | r
    · exact hne r.symm
    · omega
  · rcases e with e | e
    · exact h2 k (e.symm.trans hk)
    · rw [e] at hk
      cases hk
      exact .inr a4

set_option maxRecDepth 100000 in
set_option maxHeartbeats 2000000 in
theorem putv_any (B : Nat) (v : Value) (l : List UInt8) (g c n : Nat) (ns : List Int) (w : World) (hln : ns.length = n) (hO : Own w B v l) (hi : IntsAt w g ns) (hB : B ≤ w.heap.size) (hn : ∀ x ∈ ns, 0 ≤ x ∧ x < 9223372036854775808) (hl : l.length ≤ 1099511627776) (hns : ns.length ≤ 1000) :
    Calls Try.prog 17 #[v, .slice (some ⟨g, 0, none⟩) n c] w (PutvR B v l ns w) := by
  have HI := Lib.hid hi
  have HO := Lib.hid hO
  have HNO := Lib.hid (hO.no_ints hi)
  have HN := Lib.hid hn
  have HLN := Lib.hid hln
  have hnn : n ≤ 1000 := by omega
  clear hi hO hn hln hns
  go_enter Try.func17, Try.ntmps17
  go_wp2
  go_loopw [0, 9] (fun v1 i wr => ∃ k : Nat, k ≤ n ∧ i = .int .i64 k ∧ Hid (Own wr B v1 (l ++ numsB (ns.take k))) ∧ Hid (Turned w wr v v1)) (fun _ i _ => n - (intOf i).toNat)
  case atStart => exact ⟨0, by omega, rfl, by simpa [numsB, Hid] using HO.out, ⟨World.grownBy.refl _ _, fun k hk => .inl hk⟩⟩
  case round =>
    obtain ⟨k, hk, rfl, hv, hT⟩ := hrel
    have hz := hT.out.1.size
    by_cases hlt : k < n
    · have hlt2 : k < ns.length := by have := HLN.out; omega
      have hi2 := HI.out.kept hT.out.1 HNO.out
      obtain ⟨g', o', e', _, c1⟩ := hi2.lies.at_ hlt2
      simp only [Option.some.injEq, Addr.mk.injEq] at e'
      obtain ⟨rfl, rfl, _⟩ := e'
      rw [Nat.zero_add] at c1
      obtain ⟨x0, x1⟩ := HN.out _ (List.getElem_mem hlt2)
      have HT := Lib.hid (show l ++ numsB (ns.take (k + 1)) = l ++ numsB (ns.take k) ++ nB false ns[k] by rw [numsB_take hlt2, List.append_assoc])
      have hnl := numsB_len (ns.take k)
      rw [List.length_take] at hnl
      have hll : (l ++ numsB (ns.take k)).length ≤ 1099511637776 := by rw [List.length_append]; omega
      have hki : (k : Int) < n := by omega
      have HP := Lib.hid (fun W => putU_any none 0 [] ns[k] W (fun _ => rfl) (Lies.empty _ _ _) (by simp) x0 (by omega))
      have hsz : (nB false ns[k]).length ≤ 10 := by rw [nB_len]; exact size_le false ns[k]
      have hsp : 0 < (nB false ns[k]).length := by rw [nB_len]; exact size_pos false ns[k]
      clear hi2 hnl
      generalize ns[k] = x at *
      generalize l ++ numsB (ns.take k) = bs at *
      generalize nB false x = sb at *
      go_wp2_with (first
        | (go_at_call 26
           refine (HP.out _).mono ?_
           rintro e w3 hmc
           obtain ⟨v3, rfl, ho3, hb3⟩ := hmc.made
           rw [List.nil_append] at ho3
           obtain ⟨A3, c3, rfl, _, hc3, hL3⟩ := ho3.form
           have HV3 := Lib.hid (hv.out.below hb3)
           have HT3 := Lib.hid (hT.out.below hb3)
           have hz3 := hb3.size
           clear hmc ho3 hb3)
        | (at_builtin
           refine app_slice2 _ rfl (.tmp 13) (.tmp 16) rfl B _ bs rfl HV3.out A3 c3 _ sb rfl (by omega) hL3 (by omega) (by omega) ?_
           intro v4 w4 ho4 hg4 hk4
           have HT4 := Lib.hid (HT3.out.grown hg4 hk4)
           have HO4 := Lib.hid ho4
           clear hg4 hk4 ho4))
      go_roundw
      case rel => exact ⟨k + 1, by omega, by go_num, by rw [HT.out]; exact HO4, HT4⟩
      case measure => simp [intOf]; omega
    · have hkn : k = n := by omega
      have HF := Lib.hid (show Own wr B _ (l ++ numsB ns) from by have := hv.out; rw [hkn, List.take_of_length_le (by have := HLN.out; omega)] at this; exact this)
      have hki : (n : Int) ≤ k := by omega
      clear hkn
      go_wp2
      go_ret
      exact ⟨_, rfl, HF.out, hT.out.1⟩
end Go.Proofs.Ytpbopehhalicjaa
