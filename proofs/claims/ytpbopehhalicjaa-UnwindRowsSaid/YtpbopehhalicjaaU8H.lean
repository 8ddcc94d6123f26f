/-
  What is got, as data; append of an entry as one operation; operations of a drawn region, one by one.
-/
import Derived.Test.YtpbopehhalicjaaU8G
import Derived.Deep.RegionHeld
namespace Go.Proofs.Ytpbopehhalicjaa
open Go Go.RowKit

theorem heldTake {P : Program} {ops : Array Oper} {Q : Exit → Act → World → Prop} {md : Region.Mode} {S : World → Prop} {i : Nat} {oi : Oper} {d : Option Tmp} {v : Value} {fuel : Nat} {listed : Array Bool} {a : Act} {w : World} (hi : ops[i]? = some oi) (hd : oi.dst = d)
    (hs : Region.noSelect ops = true) (hf : Region.free md ops listed i = true) (hr : (Region.ready md ops listed).contains i = true)
    (hQ : ∀ c a w, Q (.panic c) (a.put d v) w → Q (.panic c) a w) (hw : Region.wanted oi (yielded ops a.tmps) = true) (hy : ∀ w, S w → (execOp a.eval oi).run P w = .ok (.value v) w) (hS : S w)
    (h : wpAnyH P md ops Q S fuel (listed.setIfInBounds i true) (a.put d v) w) : wpAnyH P md ops Q S (fuel + 1) listed a w := by
  subst hd
  exact wpAnyH_take hi hs hf hr hQ (.inl ⟨hw, hy⟩) hS h
theorem heldSkip {P : Program} {ops : Array Oper} {Q : Exit → Act → World → Prop} {md : Region.Mode} {S : World → Prop} {i : Nat} {oi : Oper} {d : Option Tmp} {fuel : Nat} {listed : Array Bool} {a : Act} {w : World} (hi : ops[i]? = some oi) (hd : oi.dst = d)
    (hs : Region.noSelect ops = true) (hf : Region.free md ops listed i = true) (hr : (Region.ready md ops listed).contains i = true)
    (hQ : ∀ c a w, Q (.panic c) (a.put d undef) w → Q (.panic c) a w) (hw : Region.wanted oi (yielded ops a.tmps) = false) (hS : S w)
    (h : wpAnyH P md ops Q S fuel (listed.setIfInBounds i true) (a.put d undef) w) : wpAnyH P md ops Q S (fuel + 1) listed a w := by
  subst hd
  exact wpAnyH_take hi hs hf hr hQ (.inr ⟨hw, rfl⟩) hS h
theorem wrap8 {x : Int} (h0 : -9223372036854775808 ≤ x) (h1 : x < 9223372036854775808) : IntKind.i64.wrap x = x := by rw [IntKind.wrap_i64]; omega
theorem below_of_drew {w w2 : World} (h : Below w.drew.heap.size w.drew w2) : Below w.heap.size w w2 := ⟨h.os, h.tape, h.output, h.size, h.block⟩
theorem grown_of_drew {w w2 : World} {r : Option Nat} (h : w.drew.grownBy w2 r) : w.grownBy w2 r := by
  obtain ⟨h1, h2, h3, h4, h5⟩ := h
  exact ⟨h1, h2, h3, h4, h5⟩
theorem LOwn.grown {B B' : Nat} {A C : World} {v u : Value} {l : List Lc} {ps : List Ps} (h : LOwn A B v l) (ho : POwn A B' u ps) (hg : A.grownBy C u.ownBlock) : LOwn C B v l := by
  refine h.kept fun k e => hg.block k (h.lt k e).2 fun q => ?_
  rcases h.2 with ⟨rfl, _⟩ | ⟨g, cap, cur, rfl, _, hh, _⟩
  · cases e
  · rcases ho.2 with ⟨rfl, _⟩ | ⟨g', cap', cur', rfl, _, hh', _⟩
    · cases q
    · simp only [Value.ownBlock, Option.some.injEq] at e q
      subst e
      subst q
      rw [hh] at hh'
      injection hh' with e1
      injection e1 with _ e2
      exact absurd e2 (by decide)
theorem POwn.set {B : Nat} {W : World} {v : Value} {l : List Ps} {p : Addr} (h : POwn W B v l) (u : Value) (hp : p.block < B) : POwn (W.setCell p u) B v l :=
  h.kept fun k e => Below.heap_setCell W p u k (fun q => by have := (h.lt k e).1; omega)
theorem SpOwn.set {B : Nat} {W : World} {v : Value} {l : List Sp} {p : Addr} (h : SpOwn W B v l) (u : Value) (hp : p.block < B) : SpOwn (W.setCell p u) B v l := by
  obtain ⟨ps, e, ho, hm⟩ := h
  exact ⟨ps, e, ho.set u hp, fun q hq => (hm q hq).set8 u hp⟩
section
variable {o : Oper} {a : Act}
/-- append of one entry onto a row, as one operation -/
theorem op_app_ps {K : Act → World → Prop} {Q : Exit → Act → World → Prop} (w : World) (s x : Operand) (ho : o.op = .call { callee := .builtin .append, args := #[s, x], argTypes := #[25, 25] })
    (B : Nat) (v : Value) (xs : List Ps) (hs : a.eval s = v) (hown : POwn w B v xs) (g c : Nat) (y : Ps) (hx : a.eval x = .slice (some ⟨g, 0, none⟩) 1 c) (hy : SpAt w g y)
    (hn : xs.length ≤ 1000000) (hB : B ≤ w.heap.size) (h : ∀ v' w', POwn w' B v' (xs ++ [y]) → w.grownBy w' v.ownBlock → K (a.put o.dst v') w') : Oper.wp Try.prog o a w K Q := by
  obtain ⟨i0, hi0, hz0, hz1, hz2⟩ := info_parts span_info
  obtain ⟨v', w', hrun, r1, r2, _⟩ := run_append_own (P := Try.prog) w B 25 o.type 29 i0 _ 4 48 Try.underlying25 hi0 hz0 hz1 hz2 rfl (by omega) v xs.length (xs.flatMap pC) hown ⟨g, 0, none⟩ 1 c (pC y) rfl (by
      intro j u hu
      unfold SpAt at hy
      rw [add_zero_off]
      simp only [World.cell?, hy, Nat.zero_add]
      simpa [pC] using hu) (pC_one y) (by simp only [maxLen]; omega) (by omega) hB
  unfold Oper.wp execOp
  simp only [ho, resolve, invoke, builtin, Sem.run_bind, Sem.run_pure, Result.andThen_ok, List.map_toArray, List.map_cons, List.map_nil, hs, hx, hrun]
  refine h v' w' ?_ r2
  show w'.ownsRow B _ 4 v' (xs ++ [y]).length ((xs ++ [y]).flatMap pC)
  rw [List.flatMap_append, List.length_append]
  simpa using r1
/-- of one whose saved registers are its own -/
theorem op_app_sp {K : Act → World → Prop} {Q : Exit → Act → World → Prop} (w : World) (s x : Operand) (ho : o.op = .call { callee := .builtin .append, args := #[s, x], argTypes := #[25, 25] })
    (B : Nat) (v : Value) (xs : List Sp) (hs : a.eval s = v) (hown : SpOwn w B v xs) (g c : Nat) (y : Ps) (hx : a.eval x = .slice (some ⟨g, 0, none⟩) 1 c) (hy : SpAt w g y) (hly : LOwn w B (.slice y.A y.a.length y.c) y.a)
    (hn : xs.length ≤ 1000000) (hB : B ≤ w.heap.size) (h : ∀ v' w', SpOwn w' B v' (xs ++ [y.sp]) → w.grownBy w' v.ownBlock → (∀ k, v.ownBlock = some k → B ≤ k) → K (a.put o.dst v') w') : Oper.wp Try.prog o a w K Q := by
  obtain ⟨ps, e, hpo, hpm⟩ := hown
  refine op_app_ps w s x ho B v ps hs hpo g c y hx hy (by rw [← List.length_map (f := Ps.sp), e]; exact hn) hB fun v' w' h1 h2 => h v' w' ⟨ps ++ [y], by rw [List.map_append, e]; rfl, h1, fun p hp => ?_⟩ h2 (fun k e => (hpo.lt k e).1)
  rcases List.mem_append.1 hp with hp | hp
  · exact (hpm p hp).grown hpo h2
  · rw [List.mem_singleton] at hp
    subst hp
    exact hly.grown hpo h2
end
section
variable {ops : Array Oper} {rest : List Oper} {o : Oper} {a : Act} {Q : Exit → Act → World → Prop}
theorem app_sp (w : World) (hgd : o.guard = none) (s x : Operand) (ho : o.op = .call { callee := .builtin .append, args := #[s, x], argTypes := #[25, 25] })
    (B : Nat) (v : Value) (xs : List Sp) (hs : a.eval s = v) (hown : SpOwn w B v xs) (g c : Nat) (y : Ps) (hx : a.eval x = .slice (some ⟨g, 0, none⟩) 1 c) (hy : SpAt w g y) (hly : LOwn w B (.slice y.A y.a.length y.c) y.a)
    (hn : xs.length ≤ 1000000) (hB : B ≤ w.heap.size) (h : ∀ v' w', SpOwn w' B v' (xs ++ [y.sp]) → w.grownBy w' v.ownBlock → (∀ k, v.ownBlock = some k → B ≤ k) → wpList Try.prog ops Q rest (a.put o.dst v') w') : wpList Try.prog ops Q (o :: rest) a w :=
  wpList_plain hgd fun _ hK' => op_app_sp w s x ho B v xs hs hown g c y hx hy hly hn hB (fun v' w' r1 r2 r3 => hK' _ _ (h v' w' r1 r2 r3))
end
/-- a row of entries of its own does not lie in an entry's own block that is alone -/
theorem SpOwn.no_old {B g : Nat} {W0 : World} {v : Value} {l : List Sp} (h : SpOwn W0 B v l) (hg : W0.heap.size ≤ g) : some g ≠ v.ownBlock := fun e => by
  have := (h.lt g e.symm).2
  omega
def gsE (b : List UInt8) (i : Int) : Int := if i < 0 ∨ (b.length : Int) < i then 1 else if (gotS true b i.toNat).isSome then 0 else 5
def gsO (b : List UInt8) (i : Int) : List Sp × Nat := if i < 0 ∨ (b.length : Int) < i then ([], 0) else (gotS true b i.toNat).getD ([], 0)
def gsL (b : List UInt8) (i : Int) : List Sp := (gsO b i).1
def gsN (b : List UInt8) (i : Int) : Int := (gsO b i).2
theorem gs_arg {b : List UInt8} {i : Int} (h : i < 0 ∨ (b.length : Int) < i) : gsE b i = 1 ∧ gsL b i = [] ∧ gsN b i = 0 := by
  unfold gsE gsL gsN gsO; simp only [if_pos h]; exact ⟨trivial, trivial, rfl⟩
theorem gs_none {b : List UInt8} {k : Nat} (h : k ≤ b.length) (hg : gotS true b k = none) : gsE b k = 5 ∧ gsL b k = [] ∧ gsN b k = 0 := by
  have h' : ¬ ((k : Int) < 0 ∨ (b.length : Int) < (k : Int)) := by omega
  unfold gsE gsL gsN gsO; simp only [if_neg h', Int.toNat_natCast, hg]; exact ⟨rfl, rfl, rfl⟩
theorem gs_some {b : List UInt8} {k n : Nat} {l : List Sp} (h : k ≤ b.length) (hg : gotS true b k = some (l, n)) : gsE b k = 0 ∧ gsL b k = l ∧ gsN b k = n := by
  have h' : ¬ ((k : Int) < 0 ∨ (b.length : Int) < (k : Int)) := by omega
  unfold gsE gsL gsN gsO; simp only [if_neg h', Int.toNat_natCast, hg]; exact ⟨rfl, rfl, rfl⟩
theorem gs_cases {b : List UInt8} (i : Int) : (gsE b i ≠ 0 ∧ gsL b i = [] ∧ gsN b i = 0) ∨ ∃ k n, i = (k : Nat) ∧ k ≤ b.length ∧ gotS true b k = some (gsL b i, n) ∧ gsE b i = 0 ∧ gsN b i = n := by
  by_cases h : i < 0 ∨ (b.length : Int) < i
  · obtain ⟨h1, h2, h3⟩ := gs_arg h
    exact .inl ⟨by omega, h2, h3⟩
  · obtain ⟨k, rfl⟩ : ∃ k : Nat, i = k := ⟨i.toNat, by omega⟩
    cases hg : gotS true b k with
    | none =>
      obtain ⟨h1, h2, h3⟩ := gs_none (by omega) hg
      exact .inl ⟨by omega, h2, h3⟩
    | some q =>
      obtain ⟨l, n⟩ := q
      obtain ⟨h1, h2, h3⟩ := gs_some (by omega) hg
      exact .inr ⟨k, n, rfl, by omega, by rw [h2]; exact hg, h1, h3⟩
def GetR8 (b : List UInt8) (i : Int) (w : World) (e : Ending) (w' : World) : Prop :=
  ∃ v, e = .returned (.tuple #[v, .int .i64 (gsN b i), .int .i64 (gsE b i)]) ∧ SpOwn w' w.heap.size v (gsL b i) ∧ Below w.heap.size w w'
/-- in the midst of reading entries -/
def AtS (s : Bool) (b : List UInt8) (M k0 j kk : Nat) (last : Int) (ls : List Sp) : Prop := runS s b M k0 0 = (runS s b (M - j) kk last).map fun r => (ls ++ r.1, r.2)
theorem atS_start (s : Bool) (b : List UInt8) (M k0 : Nat) : AtS s b M k0 0 k0 0 [] := by
  unfold AtS
  rw [Nat.sub_zero]
  cases h : runS s b M k0 0 <;> simp
theorem AtS.step {s : Bool} {b : List UInt8} {M k0 j kk n : Nat} {last : Int} {x : Sp} {ls : List Sp} (h : AtS s b M k0 j kk last ls) (hj : j < M) (hr : rdU s b kk last = some (x, n)) : AtS s b M k0 (j + 1) n x.t (ls ++ [x]) := by
  unfold AtS at h ⊢
  rw [h, show M - j = (M - (j + 1)) + 1 by omega, runS, hr]
  simp only [Option.bind_some, Option.map_map]
  congr 1
  funext r
  simp
theorem AtS.stop {s : Bool} {b : List UInt8} {M k0 j kk : Nat} {last : Int} {ls : List Sp} (h : AtS s b M k0 j kk last ls) (hj : j < M) (hr : rdU s b kk last = none) : runS s b M k0 0 = none := by
  unfold AtS at h
  rw [h, show M - j = (M - (j + 1)) + 1 by omega, runS, hr]
  rfl
theorem AtS.last {s : Bool} {b : List UInt8} {M k0 kk : Nat} {last : Int} {ls : List Sp} (h : AtS s b M k0 M kk last ls) : runS s b M k0 0 = some (ls, kk) := by
  unfold AtS at h
  rw [h, Nat.sub_self, runS]
  simp
theorem gotS_num {s : Bool} {b : List UInt8} {k : Nat} (h : num8 4000 b k = none) : gotS s b k = none := by unfold gotS; rw [h]; rfl
theorem gotS_run {s : Bool} {b : List UInt8} {k M k0 : Nat} (h : num8 4000 b k = some (M, k0)) : gotS s b k = (runS s b M k0 0).bind gotR := by unfold gotS; rw [h]; rfl
theorem sp_sm {ps : List Ps} {M : Nat} {s : Bool} {b : List UInt8} {k n : Nat} (hk : k ≤ b.length) (h : runS s b M k 0 = some (ps.map Ps.sp, n)) (hM : M ≤ 1000000) : Sm ps := by
  obtain ⟨_, _, h3, _, _⟩ := runS_has hk h
  rw [List.length_map] at h3
  refine ⟨by omega, ?_⟩
  have : ∀ (m k : Nat) (a : Int) (l : List Sp) (n : Nat), runS s b m k a = some (l, n) → ∀ y ∈ l, y.a.length ≤ 16 := by
    intro m
    induction m with
    | zero =>
      intro k a l n h y hy
      simp only [runS, Option.some.injEq, Prod.mk.injEq] at h
      rw [← h.1] at hy
      exact absurd hy (by simp)
    | succ m ih =>
      intro k a l n h y hy
      rw [runS] at h
      obtain ⟨⟨y1, k1⟩, h1, h2⟩ := obind h
      obtain ⟨⟨l', n'⟩, h3, h4⟩ := omap h2
      simp only [Prod.mk.injEq] at h4
      rw [← h4.1] at hy
      rcases List.mem_cons.1 hy with rfl | hy
      · exact (rdU_has h1).2.2.2.2.2.2.2.2.2.1
      · exact ih _ _ _ _ h3 y hy
  intro p hp
  have := this M k 0 _ n h p.sp (List.mem_map_of_mem hp)
  have : p.a.length ≤ 16 := this
  omega
end Go.Proofs.Ytpbopehhalicjaa
