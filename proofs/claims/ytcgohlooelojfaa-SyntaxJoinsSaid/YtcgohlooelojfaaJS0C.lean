/-
  Merged for a claim: S0C.
-/
import Derived.Test.YtcgohlooelojfaaJS0B
namespace Go.Proofs.Ytcgohlooelojfaa
open Go Go.RowKit

def semiS (x : PS) (u : List To) : R PS := takeS [59] u fun v => .ok x v
def sf0 (ln : Int) : SF := ⟨0, ln, [], [], [], ty0⟩
def sfK (kd ln : Int) : SF := ⟨kd, ln, [], [], [], ty0⟩
def hdS (u : List To) : R PS :=
  if isW wIf u = true then valP (sfK 6 (hd u).ln) [] u.tail
  else if isW wFor u = true then valP (sfK 7 (hd u).ln) [] u.tail
  else if isW wVar u = true then (varS (sf0 (hd u).ln) [] u.tail).bind semiS
  else if isW wPrint u = true then takeS [40] u.tail fun v => (valP (sfK 8 (hd u).ln) [] v).bind fun x w => takeS [41] w fun z => semiS x z
  else if isW wReturn u = true then (if isS [59] u.tail = true then semiS (sfK 10 (hd u).ln, []) u.tail else (valP (sfK 10 (hd u).ln) [] u.tail).bind semiS)
  else (nmdS (sf0 (hd u).ln) [] u).bind semiS
/-- the list of expressions, as the grammar says it -/
theorem comS_comP (s : SF) : ∀ (n : Nat) (es : List Ex) (u : List To), comS valO n (s, es) u = (comP exP n u).bind fun l v => .ok (s, es ++ l) v
  | 0, _, _ => rfl
  | n + 1, es, u => by
    rw [comS, comP, R.bind_assoc, show valO (s, es) u = (exP u).bind fun x v => .ok ((s, es ++ [x]) : PS) v from rfl, R.bind_assoc]
    refine bind_cong fun x v _ => ?_
    rw [R.bind_ok]
    by_cases h : isS [44] v = true
    · rw [if_pos h, if_pos h, comS_comP s n, R.bind_assoc]
      refine bind_cong fun l z _ => ?_
      rw [R.bind_ok, List.append_assoc]
      rfl
    · rw [if_neg h, if_neg h, takeS_bind]
      rfl
theorem lisS_argP (s : SF) (es : List Ex) (u : List To) : lisS valO (s, es) u = (argP u).bind fun l v => .ok (s, es ++ l) v := by
  unfold lisS argP lisP
  by_cases h : isS [41] u = true
  · rw [if_pos h, if_pos h, R.bind_ok, List.append_nil]
  · rw [if_neg h, if_neg h, comS_comP]
theorem bdS_bind {α : Type} (r : R α) (f : α → List To → R PS) : bdS (r.bind f) = r.bind fun x v => bdS (f x v) := R.bind_assoc _ _ _
theorem bdS_takeS (tx : List UInt8) (u : List To) (f : List To → R PS) : bdS (takeS tx u f) = takeS tx u fun v => bdS (f v) := takeS_bind
theorem bdS_takeK (kd : Int) (u : List To) (f : To → List To → R PS) : bdS (takeK kd u f) = takeK kd u fun t v => bdS (f t v) := by
  unfold bdS takeK
  split <;> rfl
theorem bdS_ite {c : Prop} [Decidable c] (a b : R PS) : bdS (if c then a else b) = if c then bdS a else bdS b := by split <;> rfl
theorem bdS_semi (x : PS) (u : List To) : bdS (semiS x u) = semi (toSt x) u := bdS_takeS _ _ _
theorem bdS_bsemi (r : R PS) : bdS (r.bind semiS) = (bdS r).bind semi := by
  rw [bdS_bind]
  unfold bdS
  rw [R.bind_assoc]
  exact bind_cong fun x v _ => bdS_semi x v
theorem bdS_val (s : SF) (es : List Ex) (u : List To) : bdS (valP s es u) = (exP u).bind fun x v => .ok (toSt (s, es ++ [x])) v := bdS_bind _ _
theorem isC_K {u : List To} (h : isC u = true) : isK 1 u = true ∧ isS [40] u.tail = true := by
  unfold isC at h
  rwa [Bool.and_eq_true] at h
theorem call_args (s : SF) (es : List Ex) (u : List To) (h : isC u = true) : callS s es u = (argP u.tail.tail).bind fun l v => .ok ((⟨5, s.ln, s.nm, s.fl, (hd u).tx, s.ty⟩, es ++ l) : PS) v := by
  unfold callS
  rw [takeK_yes (isC_K h).1, takeS_yes (isC_K h).2, lisS_argP]
theorem bdS_set (ln : Int) (nm : List UInt8) (u : List To) : bdS (setS ⟨0, ln, nm, [], [], ty0⟩ [] u) = setP ln nm u := by
  unfold setS setP
  rw [bdS_ite, bdS_ite, bdS_takeS]
  by_cases h : isW wInput u = true
  · rw [if_pos h, if_pos h]
    refine congrArg (takeS _ _) (funext fun v => ?_)
    rw [bdS_takeS]
    rfl
  · rw [if_neg h, if_neg h]
    by_cases h2 : isC u = true
    · rw [if_pos h2, if_pos h2, call_args _ _ _ h2, bdS_bind]
      rfl
    · rw [if_neg h2, if_neg h2, bdS_val]
      rfl
theorem bdS_nmd (ln : Int) (u : List To) : bdS (nmdS (sf0 ln) [] u) = nmdP ln u := by
  unfold nmdS nmdP
  rw [bdS_ite]
  by_cases h2 : isC u = true
  · rw [if_pos h2, if_pos h2, call_args _ _ _ h2, bdS_bind]
    rfl
  · rw [if_neg h2, if_neg h2, bdS_takeK]
    refine congrArg (takeK _ _) (funext fun t => funext fun v => ?_)
    rw [bdS_ite, bdS_ite]
    refine congr (congrArg _ ?_) (congr (congrArg _ ?_) ?_)
    · rw [bdS_bind]
      unfold valP
      rw [R.bind_assoc]
      refine bind_cong fun x w _ => ?_
      rw [R.bind_ok, bdS_takeS]
      refine congrArg (takeS _ _) (funext fun z => ?_)
      rw [bdS_takeS]
      refine congrArg (takeS _ _) (funext fun y => ?_)
      rw [bdS_bind]
      rfl
    · rw [bdS_takeK]
      refine congrArg (takeK _ _) (funext fun f => funext fun w => ?_)
      rw [bdS_takeS]
      refine congrArg (takeS _ _) (funext fun z => ?_)
      rw [bdS_val]
      rfl
    · rw [bdS_takeS]
      exact congrArg (takeS _ _) (funext fun w => bdS_set ln t.tx w)
theorem bdS_var (ln : Int) (u : List To) : bdS (varS (sf0 ln) [] u) = varP ln u := by
  unfold varS varP
  rw [bdS_takeK]
  refine congrArg (takeK _ _) (funext fun t => funext fun v => ?_)
  rw [bdS_bind]
  refine bind_cong fun ty w _ => ?_
  rw [bdS_ite, bdS_val]
  rfl
/-- the program's statement is the grammar's -/
theorem hdS_hdP (u : List To) : bdS (hdS u) = hdP u := by
  unfold hdS hdP
  rw [bdS_ite, bdS_ite, bdS_ite, bdS_ite, bdS_ite, bdS_ite]
  refine congr (congrArg _ ?_) (congr (congrArg _ ?_) (congr (congrArg _ ?_) (congr (congrArg _ ?_) (congr (congrArg _ (congr (congrArg _ ?_) ?_)) ?_))))
  · rw [bdS_val]
    rfl
  · rw [bdS_val]
    rfl
  · rw [bdS_bsemi, bdS_var]
  · rw [bdS_takeS]
    refine congrArg (takeS _ _) (funext fun v => ?_)
    rw [bdS_bind]
    unfold valP
    rw [R.bind_assoc]
    refine bind_cong fun x w _ => ?_
    rw [R.bind_ok, bdS_takeS]
    refine congrArg (takeS _ _) (funext fun z => ?_)
    rw [bdS_semi]
    rfl
  · rw [bdS_semi]
    rfl
  · rw [bdS_bsemi, bdS_val, R.bind_assoc]
    rfl
  · rw [bdS_bsemi, bdS_nmd]
theorem tok_f3 (a b x d : Value) (w : World) : (Instr.field 79 (.agg #[a, b, x, d]) 3).run Try.prog w = .ok d w := by kernel_rfl
/-- what comes of a statement -/
def StR (w : World) (gp : Nat) (A : Option Addr) (c : Nat) (l : List To) (r : R PS) (e : Ending) (w' : World) : Prop := match r with
  | .ok x v => ∃ t : XS, e = .returned (sV t) ∧ t.d = toSt x ∧ t.Ok w' (fun g => w.heap.size ≤ g) ∧ Ps w' gp A c l v ∧ w.grownBy w' (some gp)
  | .bad v => e = .panicked misC ∧ Ps w' gp A c l v ∧ w.grownBy w' (some gp)
  | .out => False
theorem StR.bad' {w W : World} {gp : Nat} {A : Option Addr} {c : Nat} {l x : List To} {r : R PS} {e : Ending} (hr : r = .bad x) (he : e = .panicked misC) (hp : Ps W gp A c l x) (hg : w.grownBy W (some gp)) : StR w gp A c l r e W := by
  subst hr
  exact ⟨he, hp, hg⟩
theorem st_size : (Try.prog.info? 53).map (·.size) = some 11 := by kernel_rfl
theorem st_back {fn : Func} {p : Tmp} (h : fn.results = #[.cell p 53]) {tmps : Array Value} {w : World} {g : Nat} (hp : tmps.getD p undef = .pointer (some ⟨g, 0, none⟩))
    {t : XS} (hg : CAt w g 53 t.cs) : (results fn tmps).run Try.prog w = .ok (sV t) w := by
  cases t
  exact results_cell_row h tmps w g _ _ _ _ hp hg Try.underlying53 rfl st_size
def zSt : List Value := [.int .u8 0, .int .i64 0, .string ⟨#[]⟩, .string ⟨#[]⟩, .string ⟨#[]⟩, .int .u8 0, .int .i64 0, .string ⟨#[]⟩, .slice none 0 0, .slice none 0 0, .slice none 0 0]
/-- a statement without lists -/
def xsOf (s : SF) (kA : Option Addr) (kc : Nat) (ks : List XT) : XS := .mk s.kd s.ln s.nm s.fl s.cl s.ty kA kc ks none 0 [] none 0 []
def putS (W : World) (g : Nat) (s : SF) (v : Value) : World :=
  ((((((((((W.setCell ⟨g, 0, none⟩ (.int .u8 s.kd)).setCell ⟨g, 1, none⟩ (.int .i64 s.ln)).setCell ⟨g, 2, none⟩ (.string (str s.nm))).setCell ⟨g, 3, none⟩ (.string (str s.fl))).setCell ⟨g, 4, none⟩ (.string (str s.cl))).setCell ⟨g, 5, none⟩ (.int .u8 s.ty.kd)).setCell ⟨g, 6, none⟩ (.int .i64 s.ty.n)).setCell ⟨g, 7, none⟩ (.string (str s.ty.nm))).setCell ⟨g, 8, none⟩ v).setCell ⟨g, 9, none⟩ (.slice none 0 0)).setCell ⟨g, 10, none⟩ (.slice none 0 0)
theorem putS_at {W : World} {g : Nat} (s : SF) (v : Value) (h : CAt W g 53 zSt) : CAt (putS W g s v) g 53 (s.cs v) := ((((((((((h.set 0 _).set 1 _).set 2 _).set 3 _).set 4 _).set 5 _).set 6 _).set 7 _).set 8 _).set 9 _).set 10 _
theorem putS_below {W : World} {B g : Nat} (s : SF) (v : Value) (h : B ≤ g) : Below B W (putS W g s v) :=
  (((((((((((Below.refl B W).setCell (p := ⟨g, 0, none⟩) h _).setCell (p := ⟨g, 1, none⟩) h _).setCell (p := ⟨g, 2, none⟩) h _).setCell (p := ⟨g, 3, none⟩) h _).setCell (p := ⟨g, 4, none⟩) h _).setCell (p := ⟨g, 5, none⟩) h _).setCell (p := ⟨g, 6, none⟩) h _).setCell (p := ⟨g, 7, none⟩) h _).setCell (p := ⟨g, 8, none⟩) h _).setCell (p := ⟨g, 9, none⟩) h _).setCell (p := ⟨g, 10, none⟩) h _
theorem putS_heap {W : World} {g k : Nat} (s : SF) (v : Value) (h : k ≠ g) : (putS W g s v).heap[k]? = W.heap[k]? := by
  unfold putS
  rw [Below.heap_setCell _ _ _ k h, Below.heap_setCell _ _ _ k h, Below.heap_setCell _ _ _ k h, Below.heap_setCell _ _ _ k h, Below.heap_setCell _ _ _ k h, Below.heap_setCell _ _ _ k h, Below.heap_setCell _ _ _ k h, Below.heap_setCell _ _ _ k h, Below.heap_setCell _ _ _ k h, Below.heap_setCell _ _ _ k h, Below.heap_setCell _ _ _ k h]
set_option maxHeartbeats 4000000 in
theorem st_end {fn : Func} (hf : fn.results = #[.cell 2 53]) {tmps : Array Value} {w w1 wf W : World} {gp gs : Nat} {A : Option Addr} {c : Nat} {l u : List To} {s : SF} {kA : Option Addr} {kc : Nat} {ks : List XT} {r : R PS}
    (hp : tmps.getD 2 undef = .pointer (some ⟨w.heap.size, 0, none⟩)) (h : SmZ w1 wf gp gs A c l s (.slice kA ks.length kc) ks ks (.slice kA ks.length kc) W u) (h1 : w.grownBy w1 (some gp)) (hz : CAt w1 w.heap.size 53 zSt) (hgp : gp < w.heap.size) (hr : r = .ok (s, xsd ks) u) :
    bodyPost Try.prog fn (StR w gp A c l r) .ret { tmps := tmps, defers := [] } (putS W w.heap.size s (.slice kA ks.length kc)) := by
  subst hr
  have hn := h.n
  have hw : w.heap.size < w1.heap.size := hz.lt
  have hzW : CAt W w.heap.size 53 zSt := (h.g.block _ hw (fun e => by injection e with e; omega)).trans hz
  have hb := putS_below (W := W) (B := w.heap.size) (g := w.heap.size) s (.slice kA ks.length kc) (Nat.le_refl _)
  refine bodyPost_ret (st_back (t := xsOf s kA kc ks) hf hp (putS_at s _ hzW)) rfl ⟨xsOf s kA kc ks, rfl, ?_, ?_, h.p.below hb hgp, grown_new (grown_trans h1 h.g) hb⟩
  · unfold xsOf
    rw [XS.d, xssd]
    rfl
  · obtain ⟨A2, c2, e2, k1, k2, k3⟩ := h.r.form
    injection e2 with e2 _ e3
    subst e2 e3
    have hK : ∀ g : Nat, gs < g → (putS W w.heap.size s (.slice kA ks.length kc)).heap[g]? = W.heap[g]? := fun g hg => putS_heap s _ (by omega)
    have hgs : ∀ g : Nat, gs < g → w.heap.size ≤ g := fun g hg => by omega
    obtain ⟨W9, hW9⟩ : ∃ W9, putS W w.heap.size s (.slice kA ks.length kc) = W9 := ⟨_, rfl⟩
    rw [hW9] at hK ⊢
    clear hW9 hb hzW
    have hxs : xsOk W9 (fun g => w.heap.size ≤ g) ks := xsOk.keep (P := fun g => gs < g ∧ (Value.slice kA ks.length kc).ownBlock ≠ some g) (Q := fun g => w.heap.size ≤ g) (fun g q _ => hK g q.1) (fun g q => hgs g q.1) ks h.k
    unfold xsOf
    rw [XS.Ok, xssOk]
    refine ⟨⟨⟨?_, k1, k2, fun hl a e => ?_⟩, ⟨El.LiesT.nil _ _, Nat.le_refl _, fun _ => rfl, fun hl => absurd hl (by simp)⟩, ⟨El.LiesT.nil _ _, Nat.le_refl _, fun _ => rfl, fun hl => absurd hl (by simp)⟩⟩, hxs, trivial, trivial⟩
    · refine liesP_keep (P := fun g => gs < g) k3 (fun hl a e => ?_) (fun g q _ => hK g q)
      subst e
      obtain ⟨g9, c9, e9⟩ := El.Own.at0 h.r hl
      injection e9 with e9
      injection e9 with e9
      subst e9
      exact (h.r.lt _ rfl).1
    · subst e
      obtain ⟨g9, c9, e9⟩ := El.Own.at0 h.r hl
      injection e9 with e9
      injection e9 with e9
      subst e9
      exact hgs g9 (h.r.lt _ rfl).1
end Go.Proofs.Ytcgohlooelojfaa
