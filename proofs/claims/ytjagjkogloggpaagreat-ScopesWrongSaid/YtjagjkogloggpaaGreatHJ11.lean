/-
  Merged for a claim: S9B, L7D, L7E, L7F, L7G, L7H, L7I.
-/
import Derived.Test.YtjagjkogloggpaaGreatHJ2
import Derived.Test.YtjagjkogloggpaaGreatHL7C
import Derived.WalkSpells
import Derived.Lib.MinMax
namespace Go.Proofs.YtjagjkogloggpaaGreat
open Go Go.RowKit

theorem str_sz (l : List UInt8) : (str l).size = l.length := by simp [str, ByteArray.size]
theorem str_getI (l : List UInt8) (k : Nat) (_h : k < l.length) (h2 : ((k : Int)).toNat < (str l).size) : (str l)[((k : Int)).toNat]'h2 = l[k] := by
  simp [str, ByteArray.getElem_eq_getElem_data]
  rfl
theorem str_toList (l : List UInt8) : (str l).toList = l := ByteArray.toList_mk l
theorem run_idx_str (w : World) (l : List UInt8) (k : Nat) (h : k < l.length) : (Instr.index 9 (.string (str l)) (.int .i64 k)).run Tryz.prog w = .ok (.int .u8 (l[k].toNat : Int)) w := by
  rw [run_index_string _ _ _ _ _ Tryz.underlying9, dif_pos ⟨by omega, by rw [str_sz]; omega⟩, str_getI l k h]
  rfl

def signB (x : Int) : Bool := decide (97 ≤ x ∧ x ≤ 122 ∨ 65 ≤ x ∧ x ≤ 90 ∨ 48 ≤ x ∧ x ≤ 57 ∨ x = 95)
def sgB (c : UInt8) : Bool := signB c.toNat
def nameB (s : List UInt8) : Bool := decide (1 ≤ s.length ∧ s.length ≤ 24) && s.all sgB
set_option maxRecDepth 100000 in
set_option maxHeartbeats 1000000 in
theorem isSign_any (x : Int) (w : World) :
    Calls Tryz.prog 114 #[.int .u8 x] w fun e w' => e = .returned (.bool (signB x)) ∧ w = w' := by
  by_cases h7 : x = 95
  · subst h7
    go_enter Tryz.func114, Tryz.ntmps114
    go_wp2
    go_ret
    exact ⟨rfl, rfl⟩
  have hq : (x == 95) = false := by simpa using h7
  by_cases h1 : 97 ≤ x <;> by_cases h2 : x ≤ 122 <;> by_cases h3 : 65 ≤ x <;> by_cases h4 : x ≤ 90 <;> by_cases h5 : 48 ≤ x <;> by_cases h6 : x ≤ 57
  all_goals first
    | (exfalso; omega)
    | (have hb : signB x = true := decide_eq_true (by omega)
       rw [hb]
       clear hb
       go_enter Tryz.func114, Tryz.ntmps114
       go_wp2
       go_ret
       exact ⟨rfl, rfl⟩)
    | (have hb : signB x = false := decide_eq_false (by omega)
       rw [hb]
       clear hb
       go_enter Tryz.func114, Tryz.ntmps114
       go_wp2
       go_ret
       exact ⟨rfl, rfl⟩)

theorem name_at {s : List UInt8} {k : Nat} (h : k < s.length) : s.drop k = s[k] :: s.drop (k + 1) := List.drop_eq_getElem_cons h
theorem name_long {s : List UInt8} (h : ¬ (1 ≤ s.length ∧ s.length ≤ 24)) : nameB s = false := by
  unfold nameB; rw [decide_eq_false h]; rfl
theorem name_start {s : List UInt8} (h : 1 ≤ s.length ∧ s.length ≤ 24) : nameB s = (s.drop 0).all sgB := by
  unfold nameB; rw [decide_eq_true h]; rfl
theorem all_step {α : Type} {P : α → Bool} {s : List α} {k : Nat} {b : Bool} (h : k < s.length) (e : b = (s.drop k).all P) (hp : P s[k] = true) : b = (s.drop (k + 1)).all P := by
  rw [e, List.drop_eq_getElem_cons h, List.all_cons, hp, Bool.true_and]
theorem all_stop {α : Type} {P : α → Bool} {s : List α} {k : Nat} {b : Bool} (h : k < s.length) (e : b = (s.drop k).all P) (hp : P s[k] = false) : b = false := by
  rw [e, List.drop_eq_getElem_cons h, List.all_cons, hp, Bool.false_and]
theorem all_end {α : Type} {P : α → Bool} {s : List α} {b : Bool} (e : b = (s.drop s.length).all P) : b = true := by
  rw [e, List.drop_length]; rfl
set_option maxRecDepth 100000 in
set_option maxHeartbeats 1000000 in
theorem isName_any (s : List UInt8) (w : World) :
    Calls Tryz.prog 64 #[.string (str s)] w fun e w' => e = .returned (.bool (nameB s)) ∧ w = w' := by
  have hsz := str_sz s
  by_cases h1 : s.length < 1
  · rw [name_long (by omega)]
    have h1i : (s.length : Int) < 1 := by omega
    go_enter Tryz.func64, Tryz.ntmps64
    go_wp2
    go_ret
    exact ⟨rfl, rfl⟩
  by_cases h2 : 24 < s.length
  · rw [name_long (by omega)]
    have h1i : (1 : Int) ≤ (s.length : Int) := by omega
    have h2i : (24 : Int) < (s.length : Int) := by omega
    go_enter Tryz.func64, Tryz.ntmps64
    go_wp2
    go_ret
    exact ⟨rfl, rfl⟩
  have h1i : (1 : Int) ≤ (s.length : Int) := by omega
  have h2i : (s.length : Int) ≤ 24 := by omega
  have H0 := Lib.hid (name_start (s := s) ⟨by omega, by omega⟩)
  obtain ⟨b, hb⟩ : ∃ b, nameB s = b := ⟨_, rfl⟩
  rw [hb]
  rw [hb] at H0
  clear hb
  go_enter Tryz.func64, Tryz.ntmps64
  go_wp2
  go_loop [14] (fun i => ∃ k : Nat, k ≤ s.length ∧ i = .int .i64 k ∧ Hid (b = (s.drop k).all sgB)) (fun i => s.length - (intOf i).toNat)
  case atStart => exact ⟨0, by omega, rfl, H0⟩
  case round =>
    obtain ⟨k, hk, rfl, hr⟩ := hrel
    clear H0
    by_cases hlt : k < s.length
    · have hix := run_idx_str w s k hlt
      have HN := Lib.hid (fun hp => all_step hlt hr.out hp)
      have HF := Lib.hid (fun hp => all_stop hlt hr.out hp)
      clear hr
      generalize s[k] = x at *
      have HX := Lib.hid (show signB x.toNat = sgB x from rfl)
      cases hp : sgB x
      · have HR := Lib.hid (HF.out hp)
        rw [hp] at HX
        clear HN HF hp
        go_wp2_with (first | (go_at_call 114; refine (isSign_any x.toNat w).mono ?_; rintro e w' ⟨rfl, rfl⟩; rw [HX.out]))
        go_ret
        exact ⟨by rw [HR.out]; rfl, rfl⟩
      · have HR := Lib.hid (HN.out hp)
        rw [hp] at HX
        clear HN HF hp
        go_wp2_with (first | (go_at_call 114; refine (isSign_any x.toNat w).mono ?_; rintro e w' ⟨rfl, rfl⟩; rw [HX.out]))
        go_round
        case rel => exact ⟨k + 1, by omega, by go_num, HR⟩
        case measure => simp [intOf]; omega
    · obtain rfl : k = s.length := by omega
      have HR := Lib.hid (all_end hr.out)
      clear hr
      go_wp2
      go_ret
      exact ⟨by rw [HR.out]; rfl, rfl⟩
end Go.Proofs.YtjagjkogloggpaaGreat

namespace Go.Proofs.YtjagjkogloggpaaGreat
open Go Go.RowKit

theorem LOwn.lets {E : Nat → Prop} {B B' : Nat} {A C : World} {v : Value} {l : List Lc} (h : LOwn A B v l) (hl : Lets E B' A C) (hE : ∀ k, E k → k < B) : LOwn C B v l := by
  refine ⟨h.1, ?_⟩
  rcases h.2 with h0 | ⟨g, cap, cur, rfl, hg, hh, r⟩
  · exact .inl h0
  · exact .inr ⟨g, cap, cur, rfl, hg, hl.blk _ _ hh (fun q => by have := hE _ q; omega) (.inr rfl), r⟩
theorem LOwn.put {B : Nat} {W : World} {v : Value} {l : List Lc} {D : Nat} {o : Obj} (h : LOwn W B v l) (o' : Obj) (hD : W.heap[D]? = some o) (ho : o.isCells = false) : LOwn (W.putObj D o') B v l :=
  LOwn.lets (E := fun _ => False) (B' := 0) h (lets_put o' hD ho (Nat.zero_le _)) (fun _ q => q.elim)
theorem LOwn.set {B : Nat} {W : World} {v : Value} {l : List Lc} {p : Addr} (h : LOwn W B v l) (u : Value) (hp : p.block < B) : LOwn (W.setCell p u) B v l :=
  h.kept fun k e => Below.heap_setCell W p u k (fun q => by have := (h.lt k e).1; omega)

theorem locs_nil (A : Option Addr) (n c : Nat) (w : World) : (binOp .eql 54 (.slice A n c) (.slice none 0 0)).run Tryz.prog w = .ok (.bool A.isNone) w := by
  simp only [binOp]
  simp [Op.equal, Op.maxDepth, Lib.run_equalIn_slice_nil w 9999 54 53 A n c 0 0 Tryz.underlying54]
/-- is a place within a span? -/
def hasS (pc : Int) (x : Sp) : Bool := decide (x.f ≤ pc) && decide (pc < x.t)
/-- where a variable is -/
def atS (xs : List Sp) (pc : Int) : List Lc := ((xs.find? (hasS pc)).map Sp.a).getD []
theorem prs_snd (ps : List Ps) : (prs ps).map Prod.snd = ps := by
  unfold prs
  rw [List.map_snd_zip]
  simp
def NoneHas (pc : Int) (l : List (Int × Ps)) : Prop := ∀ q ∈ l, hasS pc q.2.sp = false
theorem atS_none {ps : List Ps} {pc : Int} (h : NoneHas pc (prs ps)) : atS (ps.map Ps.sp) pc = [] := by
  unfold atS
  rw [List.find?_eq_none.2]
  · rfl
  · intro x hx
    obtain ⟨p, hp, rfl⟩ := List.mem_map.1 hx
    rw [← prs_snd ps] at hp
    obtain ⟨q, hq, rfl⟩ := List.mem_map.1 hp
    rw [h q hq]
    decide
theorem atS_some {ps : List Ps} {pc : Int} {pre : List (Int × Ps)} {q : Int × Ps} (hn : Nxt (prs ps) pre q) (h : NoneHas pc pre) (hq : hasS pc q.2.sp = true) : atS (ps.map Ps.sp) pc = q.2.a := by
  obtain ⟨h1, h2, h3⟩ := hn.take
  have : prs ps = pre ++ q :: (prs ps).drop (pre.length + 1) := by
    rw [List.append_cons, h1, List.take_append_drop]
  have e : ps.map Ps.sp = (prs ps).map (fun q => q.2.sp) := by
    rw [show (fun q : Int × Ps => q.2.sp) = Ps.sp ∘ Prod.snd from rfl, ← List.map_map, prs_snd]
  unfold atS
  rw [e, this, List.map_append, List.map_cons, List.find?_append, List.find?_eq_none.2 (by
    intro x hx
    obtain ⟨p, hp, rfl⟩ := List.mem_map.1 hx
    rw [h p hp]
    decide), List.find?_cons_of_pos hq]
  rfl

attribute [local go_sem] Oper.semAt_some wideFn wideDepth
end Go.Proofs.YtjagjkogloggpaaGreat

namespace Go.Proofs.YtjagjkogloggpaaGreat
open Go Go.RowKit

set_option maxRecDepth 100000 in
set_option maxHeartbeats 1000000 in
theorem sameG_any (A A2 : Option Addr) (c c2 : Nat) (l l2 : List Lc) (w : World) (hn : l.length ≤ 1099511627776) (h : LLies w w.heap.size A l) (h2 : LLies w w.heap.size A2 l2) :
    Calls Tryz.prog 107 #[.slice A l.length c, .slice A2 l2.length c2] w (BoolR (decide (l = l2)) w) := by
  by_cases hlen : l.length = l2.length
  · have hll : (l.length : Int) = l2.length := by omega
    have HLN := Lib.hid hlen
    clear hlen
    go_enter Tryz.func107, Tryz.ntmps107
    go_wp2
    go_loopw [5] (fun i wr => ∃ k : Nat, k ≤ l.length ∧ i = .int .i64 k ∧ Hid (l.take k = l2.take k) ∧ Hid (Below w.heap.size w wr)) (fun i _ => l.length - (intOf i).toNat)
    case atStart => exact ⟨0, by omega, rfl, rfl, Below.refl _ _⟩
    case round =>
      obtain ⟨k, hk, rfl, hT, hB⟩ := hrel
      by_cases hlt : k < l.length
      · have hlt2 : k < l2.length := by have := HLN.out; omega
        obtain ⟨g, o, rfl, hg, c1, c2⟩ := (h.below hB.out).at_ hlt
        obtain ⟨g', o', rfl, hg', c3, c4⟩ := (h2.below hB.out).at_ hlt2
        have HT2 := Lib.hid (fun (e : l[k] = l2[k]) => show l.take (k + 1) = l2.take (k + 1) by rw [← List.take_append_getElem hlt, ← List.take_append_getElem hlt2, hT.out, e])
        have HF := Lib.hid (fun (e : ¬ l[k] = l2[k]) => show decide (l = l2) = false from decide_eq_false (fun q => e (by subst q; rfl)))
        generalize l[k] = r at *
        generalize l2[k] = r2 at *
        have hneq := fun w => loc_neq r r2 w
        unfold cK at hneq
        by_cases he : r = r2
        · have HS := Lib.hid (HT2.out he)
          rw [decide_eq_true he] at hneq
          clear HT2 HF he
          go_wp2
          go_region
          go_wp2
          go_roundw
          case rel => exact ⟨k + 1, by omega, by go_num, HS, hB.out.drew⟩
          case measure => simp [intOf]; omega
        · have HS := Lib.hid (HF.out he)
          rw [decide_eq_false he] at hneq
          clear HT2 HF he
          go_wp2
          go_region
          go_wp2
          go_ret
          exact ⟨by rw [HS.out]; rfl, hB.out.drew⟩
      · obtain rfl : k = l.length := by omega
        have HS := Lib.hid (show decide (l = l2) = true from decide_eq_true (by have := hT.out; rwa [List.take_length, HLN.out, List.take_length] at this))
        go_wp2
        go_ret
        exact ⟨by rw [HS.out]; rfl, hB.out⟩
  · have hll : ¬ (l.length : Int) = l2.length := by omega
    have HS := Lib.hid (show decide (l = l2) = false from decide_eq_false (fun q => hlen (by rw [q])))
    clear hlen
    go_enter Tryz.func107, Tryz.ntmps107
    go_wp2
    go_ret
    exact ⟨by rw [HS.out]; rfl, Below.refl _ _⟩

/-- an iterator over spans -/
def SpanSeq (n0 gf : Nat) (lb : Array Value) (qs : List Ps) (w : World) : Prop :=
  SeqC gf lb (fun p : Ps => #[.agg (pK p)]) (fun k => k = w.heap.size + 2) (fun k => k < n0 ∨ k = w.heap.size + 2) (fun pre x _ => Nxt qs pre x) (fun xs => xs = qs) w
attribute [local go_sem] Oper.semAt_some wideFn wideDepth
end Go.Proofs.YtjagjkogloggpaaGreat

namespace Go.Proofs.YtjagjkogloggpaaGreat
open Go Go.RowKit

def lowP (fr : Int) (p : Ps) : Ps := { p with t := min p.t fr }
def highP (to : Int) (p : Ps) : Ps := { p with f := max p.f to }
/-- what is left of a span -/
def cutP (fr to : Int) (p : Ps) : List Ps := (if p.f < min p.t fr then [lowP fr p] else []) ++ (if max p.f to < p.t then [highP to p] else [])
def pieces (fr to : Int) (ps : List Ps) : List Ps := ps.flatMap (cutP fr to)
theorem pieces_at {fr to : Int} {ps : List Ps} {k : Nat} (h : k < ps.length) : pieces fr to ps = pieces fr to (ps.take k) ++ (cutP fr to ps[k] ++ pieces fr to (ps.drop (k + 1))) := by
  unfold pieces
  rw [← List.flatMap_cons, ← List.flatMap_append, List.getElem_cons_drop, List.take_append_drop]
theorem pieces_succ {fr to : Int} {ps : List Ps} {k : Nat} (h : k < ps.length) : pieces fr to (ps.take (k + 1)) = pieces fr to (ps.take k) ++ cutP fr to ps[k] := by
  unfold pieces
  rw [← List.take_append_getElem h, List.flatMap_append]
  simp
theorem nxt_of {α : Type} {L pre r : List α} {x : α} (h : L = pre ++ x :: r) : Nxt L pre x := ⟨pre.length, by rw [h]; simp, by rw [h]; simp⟩

attribute [local go_sem] Oper.semAt_some wideFn wideDepth
end Go.Proofs.YtjagjkogloggpaaGreat

namespace Go.Proofs.YtjagjkogloggpaaGreat
open Go Go.RowKit

/-- spans behind a first one, joined -/
def joinP : Ps → List Ps → List Ps
  | now, [] => [now]
  | now, p :: ps => if p.f = now.t ∧ p.a = now.a then joinP { now with t := p.t } ps else now :: joinP p ps
def joinQ : List Ps → List Ps
  | [] => []
  | p :: ps => joinP p ps
theorem joinP_hit {now p : Ps} {ps : List Ps} (h : p.f = now.t ∧ p.a = now.a) : joinP now (p :: ps) = joinP { now with t := p.t } ps := by rw [joinP, if_pos h]
theorem joinP_miss {now p : Ps} {ps : List Ps} (h : ¬ (p.f = now.t ∧ p.a = now.a)) : joinP now (p :: ps) = now :: joinP p ps := by rw [joinP, if_neg h]
theorem lets_set {E : Nat → Prop} {B : Nat} (A : World) (p : Addr) (v : Value) (h : E p.block) : Lets E B A (A.setCell p v) :=
  ⟨rfl, rfl, rfl, (KeepsOthers.setCell A p v).size, fun k _ hk hE _ => (Below.heap_setCell A p v k (fun e => by subst e; exact hE h)).trans hk⟩
theorem lets_below {E : Nat → Prop} {B : Nat} {A C : World} (h : Below A.heap.size A C) : Lets E B A C := ⟨h.os, h.tape, h.output, h.size, fun k _ hk _ _ => (h.block k (Array.getElem?_eq_some_iff.1 hk).1).trans hk⟩
theorem Lets.trans {E : Nat → Prop} {B : Nat} {A C D : World} (h : Lets E B A C) (k : Lets E B C D) : Lets E B A D := ⟨k.os.trans h.os, k.tape.trans h.tape, k.output.trans h.output, Nat.le_trans h.size k.size, fun i o hi hE hB => k.blk i o (h.blk i o hi hE hB) hE hB⟩
attribute [local go_sem] Oper.semAt_some wideFn wideDepth
end Go.Proofs.YtjagjkogloggpaaGreat

namespace Go.Proofs.YtjagjkogloggpaaGreat
open Go Go.RowKit

theorem POwn.lets {E : Nat → Prop} {B B' : Nat} {A C : World} {v : Value} {l : List Ps} (h : POwn A B v l) (hl : Lets E B' A C) (hE : ∀ k, E k → k < B) : POwn C B v l := by
  refine ⟨h.1, ?_⟩
  rcases h.2 with h0 | ⟨g, cap, cur, rfl, hg, hh, r⟩
  · exact .inl h0
  · exact .inr ⟨g, cap, cur, rfl, hg, hl.blk _ _ hh (fun q => by have := hE _ q; omega) (.inr rfl), r⟩
theorem SpOwn.lets {E : Nat → Prop} {B B' : Nat} {A C : World} {v : Value} {l : List Sp} (h : SpOwn A B v l) (hl : Lets E B' A C) (hE : ∀ k, E k → k < B) : SpOwn C B v l := by
  obtain ⟨ps, e, ho, hm⟩ := h
  exact ⟨ps, e, ho.lets hl hE, fun p hp => (hm p hp).lets hl hE⟩
theorem SpOwn.put {B : Nat} {W : World} {v : Value} {l : List Sp} {D : Nat} {o : Obj} (h : SpOwn W B v l) (o' : Obj) (hD : W.heap[D]? = some o) (ho : o.isCells = false) : SpOwn (W.putObj D o') B v l :=
  SpOwn.lets (E := fun _ => False) (B' := 0) h (lets_put o' hD ho (Nat.zero_le _)) (fun _ q => q.elim)
/-- steps of the call's own are no spans -/
theorem LOwn.grown {B B' : Nat} {A C : World} {v u : Value} {l : List Lc} {ps : List Ps} (h : LOwn A B v l) (ho : POwn A B' u ps) (hg : A.grownBy C u.ownBlock) : LOwn C B v l := by
  refine h.kept fun k e => hg.block k (h.lt k e).2 fun q => ?_
  rcases h.2 with ⟨rfl, _⟩ | ⟨g, cap, cur, rfl, _, hh, _⟩
  · cases e
  · rcases ho.2 with ⟨rfl, _⟩ | ⟨g', cap', cur', rfl, _, hh', _⟩
    · cases q
    · simp only [Value.ownBlock, Option.some.injEq] at e q
      subst e
      subst q
      rw [hh] at hh'
      injection hh' with e1
      injection e1 with _ e2
      exact absurd e2 (by decide)
theorem POwn.cells {B : Nat} {A : World} {u : Value} {ps : List Ps} (h : POwn A B u ps) : ∀ k, u.ownBlock = some k → ∃ o : Obj, A.heap[k]? = some o ∧ o.isCells = true := by
  intro k e
  rcases h.2 with ⟨rfl, _⟩ | ⟨g, cap, cur, rfl, _, hh, _⟩
  · cases e
  · simp only [Value.ownBlock, Option.some.injEq] at e
    subst e
    exact ⟨_, hh, rfl⟩
theorem same_new {K : Nat → Prop} {W A : World} (h : Same K W A) (p : Addr) (v : Value) (hp : W.heap.size ≤ p.block) : Same K W (A.setCell p v) :=
  ⟨h.os, h.tape, h.output, Nat.le_trans h.size (KeepsOthers.setCell A p v).size, fun k o hk hK => by
    have := (Array.getElem?_eq_some_iff.1 hk).1
    exact (Below.heap_setCell A p v k (fun e => by omega)).trans (h.blk k o hk hK)⟩
theorem same_grown {K : Nat → Prop} {A C : World} {row : Option Nat} (h : A.grownBy C row) (hK : ∀ k, row = some k → ¬ K k) : Same K A C :=
  ⟨h.os, h.tape, h.output, h.size, fun k _ hk hk' => (h.block k (Array.getElem?_eq_some_iff.1 hk).1 (fun e => hK k e.symm hk')).trans hk⟩

section
variable {F : Fence} {n : Nat} {ops : Array Oper} {rest : List Oper} {o : Oper} {a : Act} {Q : Exit → Act → World → Prop}
/-- append of one span onto a row of the call's own, in a round -/
theorem app_spanIn (w : World) (hgd : o.guard = none) (s x : Operand) (ho : o.op = .call { callee := .builtin .append, args := #[s, x], argTypes := #[57, 57] })
    (B : Nat) (v : Value) (xs : List Ps) (hs : a.eval s = v) (hown : POwn w B v xs) (g c : Nat) (y : Ps) (hx : a.eval x = .slice (some ⟨g, 0, none⟩) 1 c) (hy : SpAt w g y)
    (hn : xs.length ≤ 1000000) (hB : B ≤ w.heap.size) (h : ∀ v' w', POwn w' B v' (xs ++ [y]) → w.grownBy w' v.ownBlock → wpListIn F n Tryz.prog ops Q rest (a.put o.dst v') w') : wpListIn F n Tryz.prog ops Q (o :: rest) a w := by
  obtain ⟨i0, hi0, hz0, hz1, hz2⟩ := info_parts span_info
  refine wpListIn_append_own w hgd s x 57 ho B 56 i0 _ 3 40 Tryz.underlying57 hi0 hz0 hz1 hz2 rfl (by omega) v xs.length (xs.flatMap pC) hs hown ⟨g, 0, none⟩ 1 c (pC y) hx rfl ?_ (pC_one y)
    (by simp only [maxLen]; omega) (by omega) hB fun v' w' h1 h2 _ => h v' w' ?_ h2
  · intro j u hu
    unfold SpAt at hy
    rw [add_zero_off]
    simp only [World.cell?, hy, Nat.zero_add]
    simpa [pC] using hu
  · show w'.ownsRow B _ 3 v' (xs ++ [y]).length ((xs ++ [y]).flatMap pC)
    rw [List.flatMap_append, List.length_append]
    simpa using h1
end

def MadeSpans (w : World) (l : List Sp) (e : Ending) (w' : World) : Prop := ∃ v, e = .returned v ∧ SpOwn w' w.heap.size v l ∧ Below w.heap.size w w'
attribute [local go_sem] Oper.semAt_some wideFn wideDepth
end Go.Proofs.YtjagjkogloggpaaGreat

namespace Go.Proofs.YtjagjkogloggpaaGreat
open Go Go.RowKit

/-- what is left of a span; of spans -/
def cutS (fr to : Int) (x : Sp) : List Sp := (if x.f < min x.t fr then [{ x with t := min x.t fr }] else []) ++ (if max x.f to < x.t then [{ x with f := max x.f to }] else [])
def cutL (fr to : Int) (xs : List Sp) : List Sp := if to ≤ fr then xs else xs.flatMap (cutS fr to)
/-- spans behind a first one, joined -/
def joinS : Sp → List Sp → List Sp
  | now, [] => [now]
  | now, x :: xs => if x.f = now.t ∧ x.a = now.a then joinS { now with t := x.t } xs else now :: joinS x xs
def joinL : List Sp → List Sp
  | [] => []
  | x :: xs => joinS x xs
theorem cutP_sp (fr to : Int) (p : Ps) : (cutP fr to p).map Ps.sp = cutS fr to p.sp := by
  unfold cutP cutS
  rw [List.map_append]
  have h1 : p.sp.f = p.f := rfl
  have h2 : p.sp.t = p.t := rfl
  rw [h1, h2]
  split <;> split <;> rfl
theorem pieces_sp (fr to : Int) : ∀ ps : List Ps, (pieces fr to ps).map Ps.sp = (ps.map Ps.sp).flatMap (cutS fr to)
  | [] => rfl
  | p :: ps => by
    unfold pieces
    rw [List.flatMap_cons, List.map_append, cutP_sp, List.map_cons, List.flatMap_cons]
    congr 1
    exact pieces_sp fr to ps
theorem cutP_len (fr to : Int) (p : Ps) : (cutP fr to p).length ≤ 2 := by
  unfold cutP
  rw [List.length_append]
  split <;> split <;> simp
theorem pieces_len (fr to : Int) : ∀ ps : List Ps, (pieces fr to ps).length ≤ 2 * ps.length
  | [] => by simp [pieces]
  | p :: ps => by
    have h1 := cutP_len fr to p
    have h2 := pieces_len fr to ps
    unfold pieces at h2 ⊢
    rw [List.flatMap_cons, List.length_append, List.length_cons]
    omega
theorem cutP_mem {fr to : Int} {p q : Ps} (h : q ∈ cutP fr to p) : q.a = p.a ∧ q.A = p.A ∧ q.c = p.c := by
  unfold cutP at h
  rcases List.mem_append.1 h with h | h <;> split at h
  · rw [List.mem_singleton] at h; subst h; exact ⟨rfl, rfl, rfl⟩
  · cases h
  · rw [List.mem_singleton] at h; subst h; exact ⟨rfl, rfl, rfl⟩
  · cases h
theorem pieces_mem {fr to : Int} {ps : List Ps} {q : Ps} (h : q ∈ pieces fr to ps) : ∃ p ∈ ps, q.a = p.a ∧ q.A = p.A ∧ q.c = p.c := by
  obtain ⟨p, hp, hq⟩ := List.mem_flatMap.1 h
  exact ⟨p, hp, cutP_mem hq⟩
theorem mn_of {w : World} {B : Nat} {p q : Ps} (h : Mn w B p) (e : q.a = p.a ∧ q.A = p.A ∧ q.c = p.c) : Mn w B q := by
  unfold Mn at h ⊢
  rw [e.1, e.2.1, e.2.2]
  exact h
theorem joinP_sp : ∀ (ps : List Ps) (now : Ps), (joinP now ps).map Ps.sp = joinS now.sp (ps.map Ps.sp)
  | [], _ => rfl
  | p :: ps, now => by
    rw [List.map_cons]
    by_cases h : p.f = now.t ∧ p.a = now.a
    · rw [joinP_hit h, joinP_sp ps]
      have h' : p.sp.f = now.sp.t ∧ p.sp.a = now.sp.a := h
      rw [joinS, if_pos h']
      rfl
    · rw [joinP_miss h, List.map_cons, joinP_sp ps]
      have h' : ¬ (p.sp.f = now.sp.t ∧ p.sp.a = now.sp.a) := h
      rw [joinS, if_neg h']
theorem joinQ_sp : ∀ ps : List Ps, (joinQ ps).map Ps.sp = joinL (ps.map Ps.sp)
  | [] => rfl
  | p :: ps => joinP_sp ps p
theorem joinP_mem : ∀ (ps : List Ps) (now q : Ps), q ∈ joinP now ps → ∃ p, (p = now ∨ p ∈ ps) ∧ q.a = p.a ∧ q.A = p.A ∧ q.c = p.c
  | [], now, q, h => by rw [joinP, List.mem_singleton] at h; subst h; exact ⟨q, .inl rfl, rfl, rfl, rfl⟩
  | p :: ps, now, q, h => by
    by_cases hc : p.f = now.t ∧ p.a = now.a
    · rw [joinP_hit hc] at h
      obtain ⟨r, hr, e⟩ := joinP_mem ps _ q h
      rcases hr with rfl | hr
      · exact ⟨now, .inl rfl, e⟩
      · exact ⟨r, .inr (List.mem_cons_of_mem _ hr), e⟩
    · rw [joinP_miss hc] at h
      rcases List.mem_cons.1 h with rfl | h
      · exact ⟨q, .inl rfl, rfl, rfl, rfl⟩
      · obtain ⟨r, hr, e⟩ := joinP_mem ps p q h
        rcases hr with rfl | hr
        · exact ⟨r, .inr (by simp), e⟩
        · exact ⟨r, .inr (List.mem_cons_of_mem _ hr), e⟩
theorem joinQ_mem {ps : List Ps} {q : Ps} (h : q ∈ joinQ ps) : ∃ p ∈ ps, q.a = p.a ∧ q.A = p.A ∧ q.c = p.c := by
  cases ps with
  | nil => cases h
  | cons p ps =>
    obtain ⟨r, hr, e⟩ := joinP_mem ps p q h
    exact ⟨r, by rcases hr with rfl | hr <;> simp [*], e⟩
theorem joinP_len : ∀ (ps : List Ps) (now : Ps), (joinP now ps).length ≤ ps.length + 1
  | [], _ => by simp [joinP]
  | p :: ps, now => by
    by_cases hc : p.f = now.t ∧ p.a = now.a
    · rw [joinP_hit hc]
      have := joinP_len ps { now with t := p.t }
      simp only [List.length_cons]
      omega
    · rw [joinP_miss hc]
      have := joinP_len ps p
      simp only [List.length_cons]
      omega
theorem joinQ_len (ps : List Ps) : (joinQ ps).length ≤ ps.length := by
  cases ps with
  | nil => simp [joinQ]
  | cons p ps => exact joinP_len ps p

theorem below_lnew3 (w : World) (o o2 o3 : Obj) : Below w.heap.size w (((w.alloc o).alloc o2).alloc o3) := (below_lnew2 w o o2).alloc (by simp; omega) _
end Go.Proofs.YtjagjkogloggpaaGreat
