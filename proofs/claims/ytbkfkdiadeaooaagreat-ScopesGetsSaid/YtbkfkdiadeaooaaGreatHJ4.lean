/-
  Merged for a claim: S6D, S6E.
-/
import Derived.Test.YtbkfkdiadeaooaaGreatHJ3
import Derived.Deep.QuietTactic
import Derived.BigQuiet
import Derived.Laws.StructEq
namespace Go.Proofs.YtbkfkdiadeaooaaGreat
open Go Go.RowKit

theorem step_info : (Tryz.prog.info? 154).map (fun i => (i.zero, i.size, i.bytes)) = some (some .nilIface, 1, 16) := by kernel_rfl
theorem sv_cell (x : Lc) : (sv x).oneCell' = true := by unfold sv; split <;> rfl
theorem sv_one (l : List Lc) : ∀ u ∈ l.map sv, u.oneCell' = true := by
  intro u hu
  obtain ⟨x, _, rfl⟩ := List.mem_map.1 hu
  exact sv_cell x
/-- a row of steps of the call's own -/
def SOwn (w : World) (B : Nat) (v : Value) (xs : List Lc) : Prop := w.ownsRow B 154 1 v xs.length (xs.map sv)
theorem SOwn.nil (w : World) (B : Nat) : SOwn w B (.slice none 0 0) [] := World.ownsRow_nil w B _ _
theorem SOwn.lt {w : World} {B : Nat} {v : Value} {xs : List Lc} (h : SOwn w B v xs) : ∀ k, v.ownBlock = some k → B ≤ k ∧ k < w.heap.size := by
  intro k e
  rcases h.2 with ⟨rfl, _⟩ | ⟨g, cap, cur, rfl, hB, hh, _⟩
  · cases e
  · injection e with e
    subst e
    rcases Nat.lt_or_ge g w.heap.size with h' | h'
    · exact ⟨hB, h'⟩
    · rw [Array.getElem?_eq_none h'] at hh; cases hh
theorem SOwn.kept {w w' : World} {B : Nat} {v : Value} {xs : List Lc} (h : SOwn w B v xs) (hk : ∀ k, v.ownBlock = some k → w'.heap[k]? = w.heap[k]?) : SOwn w' B v xs := by
  refine ⟨h.1, ?_⟩
  rcases h.2 with h0 | ⟨g, cap, cur, rfl, hg, hh, r⟩
  · exact .inl h0
  · exact .inr ⟨g, cap, cur, rfl, hg, (hk g rfl).trans hh, r⟩
theorem SOwn.below {w w' : World} {B : Nat} {v : Value} {xs : List Lc} (h : SOwn w B v xs) (hb : Below w.heap.size w w') : SOwn w' B v xs := h.kept fun k e => hb.block k (h.lt k e).2
theorem SOwn.base {w : World} {B B' : Nat} {v : Value} {xs : List Lc} (h : SOwn w B v xs) (hB : B' ≤ B) : SOwn w B' v xs := by
  refine ⟨h.1, ?_⟩
  rcases h.2 with h0 | ⟨g, cap, cur, rfl, hg, r⟩
  · exact .inl h0
  · exact .inr ⟨g, cap, cur, rfl, Nat.le_trans hB hg, r⟩
/-- values of one cell each that lie at an address below a block's number -/
def CLies (w : World) (B : Nat) (A : Option Addr) (vs : List Value) : Prop :=
  0 < vs.length → ∃ g o, A = some ⟨g, o, none⟩ ∧ g < B ∧ ∀ j (hj : j < vs.length), w.cell? ⟨g, o + j, none⟩ = some vs[j]
theorem CLies.nil (w : World) (B : Nat) (A : Option Addr) : CLies w B A [] := fun h => absurd h (by simp)
theorem CLies.below {w w' : World} {B : Nat} {A : Option Addr} {vs : List Value} (h : CLies w B A vs) (hb : Below B w w') : CLies w' B A vs := fun hl => by
  obtain ⟨g, o, e, hg, hc⟩ := h hl
  exact ⟨g, o, e, hg, fun j hj => (hb.cell hg).trans (hc j hj)⟩
theorem CLies.more {w : World} {B B' : Nat} {A : Option Addr} {vs : List Value} (h : CLies w B A vs) (hB : B ≤ B') : CLies w B' A vs := fun hl => by
  obtain ⟨g, o, e, hg, hc⟩ := h hl
  exact ⟨g, o, e, by omega, hc⟩
theorem CLies.next {w w' : World} {A : Option Addr} {vs : List Value} (h : CLies w w.heap.size A vs) (hb : Below w.heap.size w w') : CLies w' w'.heap.size A vs := (h.below hb).more hb.size
theorem CLies.at_ {w : World} {B : Nat} {A : Option Addr} {vs : List Value} (h : CLies w B A vs) {j : Nat} (hj : j < vs.length) : ∃ g o, A = some ⟨g, o, none⟩ ∧ g < B ∧ w.cell? ⟨g, o + j, none⟩ = some vs[j] := by
  obtain ⟨g, o, e, hg, hc⟩ := h (by omega)
  exact ⟨g, o, e, hg, hc j hj⟩
theorem SOwn.form {w : World} {B : Nat} {v : Value} {xs : List Lc} (h : SOwn w B v xs) : ∃ A c, v = .slice A xs.length c ∧ xs.length ≤ c ∧ CLies w w.heap.size A (xs.map sv) := by
  have h' := h
  have hlt := h.lt
  rcases h.2 with ⟨rfl, h0⟩ | ⟨g, cap, cur, rfl, hg, hh, hn, _, hsz, ht⟩
  · have : xs = [] := List.eq_nil_of_length_eq_zero h0
    subst this
    exact ⟨none, 0, rfl, Nat.le_refl _, CLies.nil _ _ _⟩
  · refine ⟨_, cap, rfl, hn, fun _ => ⟨g, 0, rfl, (hlt g rfl).2, fun j hj => ?_⟩⟩
    have hj' : j < xs.length := by simpa using hj
    have := World.ownsRow.cellAt h' j (by omega)
    rw [Nat.zero_add, this]
    simp [hj']
theorem below_sgrown {B : Nat} {w w1 w2 : World} {v : Value} {l : List Lc} (hb : Below B w w1) (hg : w1.grownBy w2 v.ownBlock) (ho : SOwn w1 B v l) (hB : B ≤ w1.heap.size) : Below B w w2 :=
  hb.grown hg hB fun k hk => (ho.lt k hk).1

section
variable {ops : Array Oper} {rest : List Oper} {o : Oper} {a : Act} {Q : Exit → Act → World → Prop}
/-- append of one step onto such a row -/
theorem app_step (w : World) (hgd : o.guard = none) (s x : Operand) (ho : o.op = .call { callee := .builtin .append, args := #[s, x], argTypes := #[150, 150] })
    (B : Nat) (v : Value) (xs : List Lc) (hs : a.eval s = v) (hown : SOwn w B v xs) (g c : Nat) (y : Lc) (hx : a.eval x = .slice (some ⟨g, 0, none⟩) 1 c) (hy : w.cell? ⟨g, 0, none⟩ = some (sv y))
    (hn : xs.length ≤ 1000000) (hB : B ≤ w.heap.size) (h : ∀ v' w', SOwn w' B v' (xs ++ [y]) → w.grownBy w' v.ownBlock → wpList Tryz.prog ops Q rest (a.put o.dst v') w') : wpList Tryz.prog ops Q (o :: rest) a w := by
  obtain ⟨i0, hi0, hz0, hz1, hz2⟩ := info_parts step_info
  refine wpList_append_own w hgd s x 150 ho B 154 i0 _ 1 16 Tryz.underlying150 hi0 hz0 hz1 hz2 rfl (by omega) v xs.length (xs.map sv) hs hown ⟨g, 0, none⟩ 1 c [sv y] hx (by simp) ?_ (sv_one [y])
      (by simp only [maxLen]; omega) (by omega) hB fun v' w' h1 h2 _ => h v' w' ?_ h2
  · intro j u hu
    have : j = 0 := by have := (List.getElem?_eq_some_iff.1 hu).1; simp at this; omega
    subst this
    simp only [List.getElem?_cons_zero, Option.some.injEq] at hu
    rw [add_zero_off, hy, hu]
  · show w'.ownsRow B _ 1 v' (xs ++ [y]).length ((xs ++ [y]).map sv)
    rw [List.map_append, List.length_append]
    simpa using h1
end

theorem cell_new1 (w : World) (u : Value) (t : TypeId) : (w.alloc (.cells #[u] t)).cell? ⟨w.heap.size, 0, none⟩ = some u := by
  have hh := heap_alloc_new w (.cells #[u] t)
  simp only [World.cell?, hh]
  rfl

def StepsR (l : List Lc) (w : World) (e : Ending) (w' : World) : Prop :=
  ∃ v, e = .returned (.tuple #[v, .bool (rightC l)]) ∧ Below w.heap.size w w' ∧ (rightC l = true → SOwn w' w.heap.size v l)

set_option maxRecDepth 100000 in
set_option maxHeartbeats 2000000 in
theorem steps_any (A : Option Addr) (c : Nat) (l : List Lc) (w : World) (hn : l.length ≤ 1099511627776) (h : LLies w w.heap.size A l) :
    Calls Tryz.prog 100 #[.slice A l.length c] w (StepsR l w) := by
  by_cases hb : 16 < l.length
  · have HR := Lib.hid (right_big hb)
    have hb2 : (16 : Int) < l.length := by omega
    go_enter Tryz.func100, Tryz.ntmps100
    go_wp2
    go_ret2
    exact ⟨_, by rw [HR.out]; rfl, Below.refl _ _, fun e => by rw [HR.out] at e; cases e⟩
  · have hb2 : (l.length : Int) ≤ 16 := by omega
    go_enter Tryz.func100, Tryz.ntmps100
    go_wp2
    go_loopw [2, 4, 14] (fun v t i wr => ∃ (k d : Nat), k ≤ l.length ∧ d ≤ 8 ∧ i = .int .i64 k ∧ t = .int .i64 d ∧ Hid (deep 0 l = deep d (l.drop k)) ∧ Hid (SOwn wr w.heap.size v (l.take k)) ∧ Hid (Below w.heap.size w wr)) (fun _ _ i _ => l.length - (intOf i).toNat)
    case atStart => exact ⟨0, 0, by omega, by omega, rfl, rfl, rfl, SOwn.nil _ _, Below.refl _ _⟩
    case round =>
      obtain ⟨k, d, hk, hd, rfl, rfl, hD, hS, hB⟩ := hrel
      by_cases hlt : k < l.length
      · obtain ⟨g, o, rfl, hg, c1, c2⟩ := (h.below hB.out).at_ hlt
        have HN := Lib.hid (fun hm => hD.out.trans (deep_at (d := d) hlt hm))
        have HF := Lib.hid (fun hm => right_none (hD.out.trans (deep_out (d := d) hlt hm)))
        have HT := Lib.hid (List.take_append_getElem hlt)
        have HB2 := Lib.hid (hB.out.trans ((below_lnew wr (.cells #[.int .u8 l[k].k, .int .i64 l[k].n] 74)).mono hB.out.size))
        have HS2 := Lib.hid (hS.out.below (below_lnew wr (.cells #[.int .u8 l[k].k, .int .i64 l[k].n] 74)))
        clear hD hS
        generalize l[k] = x at *
        unfold mayL at HN HF
        go_wp2_with fail
        refine (of_any x _).mono ?_
        rintro e w1 ⟨rfl, hb1⟩
        have HB3 := Lib.hid (HB2.out.trans (hb1.mono HB2.out.size))
        have HS3 := Lib.hid (HS2.out.below hb1)
        clear hb1 HB2 HS2 c1 c2
        by_cases hi : isL x.k = true
        · obtain ⟨fF, fN, fT, hsv, hst⟩ := stp_of x hi
          have HSV := Lib.hid hsv
          obtain ⟨mF, mL, mN, mT, nA, eF, eL, eN, eT, cF, cN, cT⟩ := hst
          have CF := Lib.hid cF
          have CT := Lib.hid cT
          have htk := tk_le x.k
          clear mL mN nA eL eN cF cN cT
          rw [hi, hsv]
          clear hsv
          generalize tyL x.k = T at *
          generalize fitL x = b at *
          generalize tk x.k = t at *
          cases b
          · have HE := Lib.hid (HF.out (fun q => by cases q.2.1))
            clear HN HF
            go_wp2_with fail
            refine (CF.out _).mono ?_
            rintro e w2 ⟨rfl, rfl⟩
            go_wp2_with fail
            go_ret2
            exact ⟨_, by rw [HE.out]; rfl, HB3.out, fun e => by rw [HE.out] at e; cases e⟩
          · by_cases ht : d < t
            · have HE := Lib.hid (HF.out (fun q => by omega))
              clear HN HF
              go_wp2_with fail
              refine (CF.out _).mono ?_
              rintro e w2 ⟨rfl, rfl⟩
              go_wp2_with fail
              refine (CT.out _).mono ?_
              rintro e w2 ⟨rfl, rfl⟩
              go_wp2_with fail
              go_ret2
              exact ⟨_, by rw [HE.out]; rfl, HB3.out, fun e => by rw [HE.out] at e; cases e⟩
            · by_cases h8 : d + 1 - t ≤ 8
              · have HE := Lib.hid (HN.out ⟨hi, rfl, by omega, h8⟩)
                have hk16 : l.length ≤ 16 := by omega
                clear HN HF
                go_wp2_with fail
                refine (CF.out _).mono ?_
                rintro e w2 ⟨rfl, rfl⟩
                go_wp2_with fail
                refine (CT.out _).mono ?_
                rintro e w2 ⟨rfl, rfl⟩
                go_wp2_with fail
                refine (CT.out _).mono ?_
                rintro e w2 ⟨rfl, rfl⟩
                have HB4 := Lib.hid (HB3.out.trans ((below_lnew w1 (.cells #[sv x] 154)).mono HB3.out.size))
                have HS4 := Lib.hid (HS3.out.below (below_lnew w1 (.cells #[sv x] 154)))
                have hz4 := HB4.out.size
                rw [HSV.out] at HB4 HS4 hz4
                go_wp2_with (at_builtin
                             refine app_step _ rfl (.tmp 43) (.tmp 45) rfl w.heap.size u2 (l.take k) rfl HS4.out w1.heap.size 1 x rfl (by rw [HSV.out]; exact cell_new1 w1 _ _) (by simp; omega) hz4 ?_
                             intro v5 w5 ho5 hg5
                             have HB5 := Lib.hid (below_sgrown HB4.out hg5 HS4.out hz4)
                             clear hg5)
                go_roundw
                case rel => exact ⟨k + 1, d + 1 - t, by omega, h8, by go_num, by go_num, HE, by rw [← HT.out]; exact ho5, HB5⟩
                case measure => simp [intOf]; omega
              · have HE := Lib.hid (HF.out (fun q => by omega))
                clear HN HF
                go_wp2_with fail
                refine (CF.out _).mono ?_
                rintro e w2 ⟨rfl, rfl⟩
                go_wp2_with fail
                refine (CT.out _).mono ?_
                rintro e w2 ⟨rfl, rfl⟩
                go_wp2_with fail
                refine (CT.out _).mono ?_
                rintro e w2 ⟨rfl, rfl⟩
                go_wp2_with fail
                go_ret2
                exact ⟨_, by rw [HE.out]; rfl, HB3.out, fun e => by rw [HE.out] at e; cases e⟩
        · have hi' : isL x.k = false := by simpa using hi
          have HE := Lib.hid (HF.out (fun q => hi q.1))
          rw [hi']
          generalize sv x = s at *
          clear HN HF
          go_wp2_with fail
          go_ret2
          exact ⟨_, by rw [HE.out]; rfl, HB3.out, fun e => by rw [HE.out] at e; cases e⟩
      · obtain rfl : k = l.length := by omega
        have HE := Lib.hid (right_end (by omega) (hD.out.trans (by rw [List.drop_length]; exact deep_nil d)))
        have HS2 := Lib.hid hS.out
        rw [List.take_length] at HS2
        clear hD hS
        by_cases h0 : l.length = 0
        · have HR := Lib.hid (HE.out.trans (decide_eq_true (.inl h0)))
          have h0i : (l.length : Int) = 0 := by omega
          clear HE
          go_wp2
          all_goals go_ret2
          all_goals exact ⟨_, by rw [HR.out]; rfl, hB.out, fun _ => HS2.out⟩
        · have h0i : (0 : Int) < (l.length : Int) := by omega
          by_cases h1 : d = 1
          · subst h1
            have HR := Lib.hid (HE.out.trans (decide_eq_true (.inr rfl)))
            clear HE
            go_wp2
            all_goals go_ret2
            all_goals exact ⟨_, by rw [HR.out]; rfl, hB.out, fun _ => HS2.out⟩
          · have HR := Lib.hid (HE.out.trans (decide_eq_false (by omega)))
            have h1i : ¬ (d : Int) = 1 := by omega
            clear HE
            go_wp2
            all_goals go_ret2
            all_goals exact ⟨_, by rw [HR.out]; rfl, hB.out, fun e => by rw [HR.out] at e; cases e⟩
end Go.Proofs.YtbkfkdiadeaooaaGreat

namespace Go.Proofs.YtbkfkdiadeaooaaGreat
open Go Go.RowKit

def RightR6 (l : List Lc) (w : World) (e : Ending) (w' : World) : Prop := e = .returned (.bool (rightC l)) ∧ Below w.heap.size w w'
set_option maxRecDepth 100000 in
theorem right6_any (A : Option Addr) (c : Nat) (l : List Lc) (w : World) (hn : l.length ≤ 1099511627776) (h : LLies w w.heap.size A l) :
    Calls Tryz.prog 89 #[.slice A l.length c] w (RightR6 l w) := by
  have HS := Lib.hid (steps_any A c l w hn h)
  clear h
  unfold RightR6
  unfold StepsR at HS
  generalize rightC l = t at *
  go_enter Tryz.func89, Tryz.ntmps89
  go_wp2_with fail
  refine HS.out.mono ?_
  rintro e w1 ⟨v, rfl, hb, _⟩
  have HB := Lib.hid hb
  clear hb HS
  go_wp2_with fail
  go_ret
  exact ⟨rfl, HB.out⟩

/-- equal steps -/
theorem loc_equal (a b : Lc) (w : World) : (Op.equal 74 (.agg (cK a)) (.agg (cK b))).run Tryz.prog w = .ok (decide (a = b)) w := by
  show (Op.equalIn (9998 + 1 + 1) 74 (.agg (cK a)) (.agg (cK b))).run Tryz.prog w = _
  rw [run_equalIn_struct _ _ _ _ _ (by simp [Program.fieldsOf, Tryz.underlying74]) (by kernel_rfl)]
  simp [Program.fieldsOf, Tryz.underlying74, Op.eqFields, part, cK, go_sem]
  obtain ⟨k, o⟩ := a
  obtain ⟨k', o'⟩ := b
  simp only [Lc.mk.injEq]
  repeat' split
  all_goals simp [*]
theorem loc_neq (a b : Lc) (w : World) : (binOp .neq 74 (.agg (cK a)) (.agg (cK b))).run Tryz.prog w = .ok (.bool (!decide (a = b))) w := by
  simp [binOp, go_sem, loc_equal]

def TrueR6 (w : World) (e : Ending) (w' : World) : Prop := e = .returned (.bool true) ∧ Below w.heap.size w w'
set_option maxRecDepth 100000 in
set_option maxHeartbeats 400000 in
theorem same6_any (A A2 : Option Addr) (c c2 : Nat) (l : List Lc) (w : World) (hn : l.length ≤ 1099511627776) (h : LLies w w.heap.size A l) (h2 : LLies w w.heap.size A2 l) :
    Calls Tryz.prog 49 #[.slice A l.length c, .slice A2 l.length c2] w (TrueR6 w) := by
  go_enter Tryz.func49, Tryz.ntmps49
  go_wp2
  go_loopw [5] (fun i wr => ∃ k : Nat, k ≤ l.length ∧ i = .int .i64 k ∧ Hid (Below w.heap.size w wr)) (fun i _ => l.length - (intOf i).toNat)
  case atStart => exact ⟨0, by omega, rfl, Below.refl _ _⟩
  case round =>
    obtain ⟨k, hk, rfl, hB⟩ := hrel
    by_cases hlt : k < l.length
    · obtain ⟨g, o, rfl, hg, c1, c2⟩ := (h.below hB.out).at_ hlt
      obtain ⟨g', o', rfl, hg', c3, c4⟩ := (h2.below hB.out).at_ hlt
      generalize l[k] = r at *
      have hneq := fun w => loc_neq r r w
      rw [decide_eq_true rfl] at hneq
      unfold cK at hneq
      go_wp2
      go_region
      go_wp2
      go_roundw
      case rel => exact ⟨k + 1, by omega, by go_num, hB.out.drew⟩
      case measure => simp [intOf]; omega
    · obtain rfl : k = l.length := by omega
      go_wp2
      go_ret
      exact ⟨rfl, hB.out⟩

theorem may_1 {d : Nat} {n : Int} : mayL d ⟨1, n⟩ ↔ d ≤ 7 := by simp [mayL, isL, fitL, tk]
theorem may_2 {d : Nat} {n : Int} : mayL d ⟨2, n⟩ ↔ (0 ≤ n ∧ n < 16) ∧ d ≤ 7 := by simp [mayL, isL, fitL, tk]
theorem may_3 {d : Nat} {n : Int} : mayL d ⟨3, n⟩ ↔ d ≤ 7 := by simp [mayL, isL, fitL, tk]
theorem may_4 {d : Nat} {n : Int} : mayL d ⟨4, n⟩ ↔ n = 0 ∧ 1 ≤ d ∧ d ≤ 8 := by simp [mayL, isL, fitL, tk]
theorem may_5 {d : Nat} {n : Int} : mayL d ⟨5, n⟩ ↔ n = 0 ∧ 2 ≤ d ∧ d ≤ 9 := by simp [mayL, isL, fitL, tk]
theorem may_6 {d : Nat} {n : Int} : mayL d ⟨6, n⟩ ↔ n = 0 ∧ 1 ≤ d ∧ d ≤ 8 := by simp [mayL, isL, fitL, tk]
theorem may_x {d : Nat} {x : Lc} (h : ¬ (1 ≤ x.k ∧ x.k ≤ 6)) : ¬ mayL d x := fun q => by have := q.1; simp only [isL, decide_eq_true_eq] at this; exact h this

set_option maxRecDepth 100000 in
set_option maxHeartbeats 4000000 in
theorem refRight6_any (A : Option Addr) (c : Nat) (l : List Lc) (w : World) (hn : l.length ≤ 1099511627776) (h : LLies w w.heap.size A l) :
    Calls Tryz.prog 95 #[.slice A l.length c] w (RightR6 l w) := by
  go_enter Tryz.func95, Tryz.ntmps95
  go_wp2
  go_loopw [3, 4] (fun t i wr => ∃ (k d : Nat), k ≤ l.length ∧ d ≤ 8 ∧ i = .int .i64 k ∧ t = .int .i64 d ∧ Hid (deep 0 l = deep d (l.drop k)) ∧ Hid (Below w.heap.size w wr)) (fun _ i _ => l.length - (intOf i).toNat)
  case atStart => exact ⟨0, 0, by omega, by omega, rfl, rfl, rfl, Below.refl _ _⟩
  case round =>
    obtain ⟨k, d, hk, hd, rfl, rfl, hD, hB⟩ := hrel
    by_cases hlt : k < l.length
    · obtain ⟨g, o, rfl, hg, c1, c2⟩ := (h.below hB.out).at_ hlt
      have HN := Lib.hid (fun hm => hD.out.trans (deep_at (d := d) hlt hm))
      have HF := Lib.hid (fun hm => right_none (hD.out.trans (deep_out (d := d) hlt hm)))
      clear hD
      generalize l[k] = x at *
      obtain ⟨xk, n⟩ := x
      simp only at c1 c2
      by_cases k1 : xk = 1
      · subst k1
        by_cases h8 : d ≤ 7
        · have HE := Lib.hid (show deep 0 l = deep (d + 1) (l.drop (k + 1)) from HN.out (may_1.2 h8))
          clear HN HF
          go_wp2
          go_roundw
          case rel => exact ⟨k + 1, d + 1, by omega, by omega, by go_num, by go_num, HE, hB⟩
          case measure => simp [intOf]; omega
        · have HE := Lib.hid (HF.out (fun q => by exact h8 (may_1.1 q)))
          clear HN HF
          go_wp2
          go_ret
          exact ⟨by rw [HE.out]; rfl, hB.out⟩
      by_cases k2 : xk = 2
      · subst k2
        by_cases h0 : n < 0
        · have HE := Lib.hid (HF.out (fun q => by have := may_2.1 q; omega))
          clear HN HF
          go_wp2
          go_ret
          exact ⟨by rw [HE.out]; rfl, hB.out⟩
        · by_cases h1 : 15 < n
          · have HE := Lib.hid (HF.out (fun q => by have := may_2.1 q; omega))
            clear HN HF
            go_wp2
            go_ret
            exact ⟨by rw [HE.out]; rfl, hB.out⟩
          · by_cases h8 : d ≤ 7
            · have HE := Lib.hid (show deep 0 l = deep (d + 1) (l.drop (k + 1)) from HN.out (may_2.2 ⟨⟨by omega, by omega⟩, h8⟩))
              clear HN HF
              go_wp2
              go_roundw
              case rel => exact ⟨k + 1, d + 1, by omega, by omega, by go_num, by go_num, HE, hB⟩
              case measure => simp [intOf]; omega
            · have HE := Lib.hid (HF.out (fun q => by have := may_2.1 q; omega))
              clear HN HF
              go_wp2
              go_ret
              exact ⟨by rw [HE.out]; rfl, hB.out⟩
      by_cases k3 : xk = 3
      · subst k3
        by_cases h8 : d ≤ 7
        · have HE := Lib.hid (show deep 0 l = deep (d + 1) (l.drop (k + 1)) from HN.out (may_3.2 h8))
          clear HN HF
          go_wp2
          go_roundw
          case rel => exact ⟨k + 1, d + 1, by omega, by omega, by go_num, by go_num, HE, hB⟩
          case measure => simp [intOf]; omega
        · have HE := Lib.hid (HF.out (fun q => by exact h8 (may_3.1 q)))
          clear HN HF
          go_wp2
          go_ret
          exact ⟨by rw [HE.out]; rfl, hB.out⟩
      by_cases k4 : xk = 4
      · subst k4
        by_cases h0 : n = 0
        · subst h0
          by_cases h1 : d < 1
          · have HE := Lib.hid (HF.out (fun q => by have := may_4.1 q; omega))
            clear HN HF
            go_wp2
            go_ret
            exact ⟨by rw [HE.out]; rfl, hB.out⟩
          · have HE := Lib.hid (show deep 0 l = deep (d) (l.drop (k + 1)) from HN.out (may_4.2 ⟨rfl, by omega, by omega⟩))
            clear HN HF
            go_wp2
            go_roundw
            case rel => exact ⟨k + 1, d, by omega, by omega, by go_num, by go_num, HE, hB⟩
            case measure => simp [intOf]; omega
        · have HE := Lib.hid (HF.out (fun q => by exact h0 (may_4.1 q).1))
          clear HN HF
          go_wp2
          go_ret
          exact ⟨by rw [HE.out]; rfl, hB.out⟩
      by_cases k5 : xk = 5
      · subst k5
        by_cases h0 : n = 0
        · subst h0
          by_cases h1 : d < 2
          · have HE := Lib.hid (HF.out (fun q => by have := may_5.1 q; omega))
            clear HN HF
            go_wp2
            go_ret
            exact ⟨by rw [HE.out]; rfl, hB.out⟩
          · have HE := Lib.hid (show deep 0 l = deep (d - 1) (l.drop (k + 1)) from HN.out (may_5.2 ⟨rfl, by omega, by omega⟩))
            clear HN HF
            go_wp2
            go_roundw
            case rel => exact ⟨k + 1, d - 1, by omega, by omega, by go_num, by go_num, HE, hB⟩
            case measure => simp [intOf]; omega
        · have HE := Lib.hid (HF.out (fun q => by exact h0 (may_5.1 q).1))
          clear HN HF
          go_wp2
          go_ret
          exact ⟨by rw [HE.out]; rfl, hB.out⟩
      by_cases k6 : xk = 6
      · subst k6
        by_cases h0 : n = 0
        · subst h0
          by_cases h1 : d < 1
          · have HE := Lib.hid (HF.out (fun q => by have := may_6.1 q; omega))
            clear HN HF
            go_wp2
            go_ret
            exact ⟨by rw [HE.out]; rfl, hB.out⟩
          · have HE := Lib.hid (show deep 0 l = deep (d) (l.drop (k + 1)) from HN.out (may_6.2 ⟨rfl, by omega, by omega⟩))
            clear HN HF
            go_wp2
            go_roundw
            case rel => exact ⟨k + 1, d, by omega, by omega, by go_num, by go_num, HE, hB⟩
            case measure => simp [intOf]; omega
        · have HE := Lib.hid (HF.out (fun q => by exact h0 (may_6.1 q).1))
          clear HN HF
          go_wp2
          go_ret
          exact ⟨by rw [HE.out]; rfl, hB.out⟩
      have HE := Lib.hid (HF.out (may_x (x := ⟨xk, n⟩) (show ¬ (1 ≤ xk ∧ xk ≤ 6) from fun q => by omega)))
      clear HN HF
      go_wp2
      go_ret
      exact ⟨by rw [HE.out]; rfl, hB.out⟩
    · obtain rfl : k = l.length := by omega
      have HZ := Lib.hid (show deep 0 l = some d from hD.out.trans (by rw [List.drop_length]; exact deep_nil d))
      clear hD
      by_cases hb : 16 < l.length
      · have HR := Lib.hid (right_big hb)
        have hb2 : ¬ (l.length : Int) ≤ 16 := by omega
        clear HZ
        go_wp2
        all_goals go_ret
        all_goals exact ⟨by rw [HR.out]; rfl, hB.out⟩
      · have hb2 : (l.length : Int) ≤ 16 := by omega
        have HE := Lib.hid (right_end (by omega) HZ.out)
        clear HZ
        by_cases h0 : l.length = 0
        · have HR := Lib.hid (HE.out.trans (decide_eq_true (.inl h0)))
          have h0i : (l.length : Int) = 0 := by omega
          clear HE
          go_wp2
          all_goals go_ret
          all_goals exact ⟨by rw [HR.out]; rfl, hB.out⟩
        · have h0i : ¬ (l.length : Int) = 0 := by omega
          by_cases h1 : d = 1
          · subst h1
            have HR := Lib.hid (HE.out.trans (decide_eq_true (.inr rfl)))
            clear HE
            go_wp2
            all_goals go_ret
            all_goals exact ⟨by rw [HR.out]; rfl, hB.out⟩
          · have HR := Lib.hid (HE.out.trans (decide_eq_false (by omega)))
            have h1i : ¬ (d : Int) = 1 := by omega
            clear HE
            go_wp2
            all_goals go_ret
            all_goals exact ⟨by rw [HR.out]; exact congrArg (fun b => Ending.returned (.bool b)) (show ((l.length : Int) == 0 || (d : Int) == 1) = false by rw [Bool.or_eq_false_iff]; exact ⟨by simpa using h0i, by simpa using h1i⟩), hB.out⟩
end Go.Proofs.YtbkfkdiadeaooaaGreat
