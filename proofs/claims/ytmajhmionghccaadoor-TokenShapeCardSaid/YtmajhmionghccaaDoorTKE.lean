/-
  Contract of token.words: the words as a map that the call has made; a look-up in it.
-/
import Derived.Test.YtmajhmionghccaaDoorTKC
import Derived.Maps.OwnSet
import Derived.WalkKit
namespace Go.Proofs.YtmajhmionghccaaDoor
open Go Go.RowKit Go.Maps Go.WideMaps

theorem kwLaw : Keyed Tryd.prog 9 := string_keyed Tryd.underlying9
theorem kwZero (w : World) : (zeroValue 46).run Tryd.prog w = .ok (.agg #[]) w := by kernel_rfl
/-- a map that holds just these names -/
def KwN (w : World) (b : Nat) (acc : List (List UInt8)) : Prop := ∃ n, n ≤ acc.length ∧ w.ownsMap Tryd.prog 9 (unitElem (H := Unit)) b n (setOf (.agg []) (acc.map fun s => Lit.string s))
def Kw (w : World) (b : Nat) : Prop := KwN w b wordsL
theorem kw_key (s : List UInt8) (hs : s.length ≤ 1099511627776) : keyOf Tryd.prog 9 (.string (str s)) = some (.string s) := by
  rw [keyOf_string_mk Tryd.underlying9 (by rw [str_sz]; unfold maxLen; omega), str_data]
theorem Kw.at_ {w w' : World} {b : Nat} (h : Kw w b) (hb : w'.heap[b]? = w.heap[b]?) : Kw w' b := by
  obtain ⟨n, hn, es, clock, h1, h2⟩ := h
  exact ⟨n, hn, es, clock, hb.trans h1, h2⟩
theorem Kw.lt {w : World} {b : Nat} (h : Kw w b) : b < w.heap.size := by
  obtain ⟨n, hn, h⟩ := h
  exact h.lt
theorem Kw.below {w w' : World} {b : Nat} (h : Kw w b) (hb : Below w.heap.size w w') : Kw w' b := h.at_ (hb.block b h.lt)
theorem ins_run {w0 w : World} {b : Nat} {acc : List (List UInt8)} (hK : KwN w b acc ∧ w0.mapTurned w b) (s : List UInt8) (ha : acc.length ≤ 1000) (hs : s.length ≤ 1000) :
    ∃ w', (Instr.mapUpdate 38 (.map (some b)) (.string (str s)) (.agg #[])).run Tryd.prog w = .ok () w' ∧ KwN w' b (acc ++ [s]) ∧ w0.mapTurned w' b := by
  obtain ⟨⟨n, hn, hown⟩, ht⟩ := hK
  obtain ⟨w', hrun, r1, r2⟩ := hown.store kwLaw Tryd.underlying38 (by unfold maxLen; omega) (kw_key s (by omega)) unitElem_mk
  refine ⟨w', hrun, ⟨n + 1, by simp; omega, ?_⟩, ht.trans r2⟩
  rw [List.map_append, List.map_cons, List.map_nil, setOf_snoc]
  exact r1
theorem kw_has (s : List UInt8) (acc : List (List UInt8)) (h : ∀ x ∈ acc.map fun s => Lit.string s, WideAt.IsKeyLit x) : Maps.has (setOf (DataW.agg (H := Unit) []) (acc.map fun s => Lit.string s)) (.string s) = decide (s ∈ acc) := by
  rw [has_setOf _ _ _ h]
  induction acc with
  | nil => rfl
  | cons t acc ih =>
    rw [List.map_cons, List.any_cons, ih fun x hx => h x (by rw [List.map_cons]; exact List.mem_cons_of_mem _ hx)]
    by_cases e : s = t
    · subst e
      rw [WideAt.sameKey_self (h _ (by simp))]
      simp
    · rw [sameKey_ne (by intro q; injection q with q; exact e q.symm)]
      simp [e]
theorem look_run {w : World} {b : Nat} (hK : Kw w b) (s : List UInt8) (hs : s.length ≤ 1099511627776) :
    (Instr.lookup 38 (.map (some b)) (.string (str s)) true).run Tryd.prog w = .ok (.tuple #[.agg #[], .bool (decide (s ∈ wordsL))]) w := by
  obtain ⟨n, hn, hown⟩ := hK
  obtain ⟨v, ps, hrun, hv⟩ := hown.look_ok kwLaw Tryd.underlying38 (kwZero w) unitElem_mk (kw_key s hs)
  obtain ⟨rfl, _⟩ := unitElem_inv hv
  rw [kw_has s wordsL (by intro x hx; simp only [List.mem_map] at hx; obtain ⟨t, _, rfl⟩ := hx; exact trivial)] at hrun
  exact hrun
set_option maxRecDepth 100000 in
set_option maxHeartbeats 2000000 in
theorem words_any (w : World) :
    Calls Tryd.prog 17 #[] w fun e w' => e = .returned (.map (some w.heap.size)) ∧ Kw w' w.heap.size ∧ Below w.heap.size w w' := by
  have hmm := @run_makeMap Tryd.prog
  have hk : KwN (w.alloc (.map #[] 0)) w.heap.size [] := ⟨0, Nat.le_refl _, World.ownsMap_made _ _ _ _⟩
  have hk0 : KwN (w.alloc (.map #[] 0)) w.heap.size [] ∧ (w.alloc (.map #[] 0)).mapTurned (w.alloc (.map #[] 0)) w.heap.size := ⟨hk, (World.ownsMap_made w Tryd.prog 9 (unitElem (H := Unit))).turned_refl⟩
  clear hk
  have hb0 : Below w.heap.size w (w.alloc (.map #[] 0)) := (Below.refl _ _).alloc (Nat.le_refl _) _
  obtain ⟨w1, hr1, hk1⟩ := ins_run hk0 [116, 121, 112, 101] (by decide) (by decide)
  replace hr1 : (Instr.mapUpdate 38 (.map (some w.heap.size)) (.string ⟨#[116, 121, 112, 101]⟩) (.agg #[])).run Tryd.prog (w.alloc (.map #[] 0)) = .ok () w1 := hr1
  clear hk0
  obtain ⟨w2, hr2, hk2⟩ := ins_run hk1 [115, 116, 114, 117, 99, 116] (by decide) (by decide)
  replace hr2 : (Instr.mapUpdate 38 (.map (some w.heap.size)) (.string ⟨#[115, 116, 114, 117, 99, 116]⟩) (.agg #[])).run Tryd.prog w1 = .ok () w2 := hr2
  clear hk1
  obtain ⟨w3, hr3, hk3⟩ := ins_run hk2 [102, 117, 110, 99] (by decide) (by decide)
  replace hr3 : (Instr.mapUpdate 38 (.map (some w.heap.size)) (.string ⟨#[102, 117, 110, 99]⟩) (.agg #[])).run Tryd.prog w2 = .ok () w3 := hr3
  clear hk2
  obtain ⟨w4, hr4, hk4⟩ := ins_run hk3 [118, 97, 114] (by decide) (by decide)
  replace hr4 : (Instr.mapUpdate 38 (.map (some w.heap.size)) (.string ⟨#[118, 97, 114]⟩) (.agg #[])).run Tryd.prog w3 = .ok () w4 := hr4
  clear hk3
  obtain ⟨w5, hr5, hk5⟩ := ins_run hk4 [105, 102] (by decide) (by decide)
  replace hr5 : (Instr.mapUpdate 38 (.map (some w.heap.size)) (.string ⟨#[105, 102]⟩) (.agg #[])).run Tryd.prog w4 = .ok () w5 := hr5
  clear hk4
  obtain ⟨w6, hr6, hk6⟩ := ins_run hk5 [101, 108, 115, 101] (by decide) (by decide)
  replace hr6 : (Instr.mapUpdate 38 (.map (some w.heap.size)) (.string ⟨#[101, 108, 115, 101]⟩) (.agg #[])).run Tryd.prog w5 = .ok () w6 := hr6
  clear hk5
  obtain ⟨w7, hr7, hk7⟩ := ins_run hk6 [102, 111, 114] (by decide) (by decide)
  replace hr7 : (Instr.mapUpdate 38 (.map (some w.heap.size)) (.string ⟨#[102, 111, 114]⟩) (.agg #[])).run Tryd.prog w6 = .ok () w7 := hr7
  clear hk6
  obtain ⟨w8, hr8, hk8⟩ := ins_run hk7 [114, 101, 116, 117, 114, 110] (by decide) (by decide)
  replace hr8 : (Instr.mapUpdate 38 (.map (some w.heap.size)) (.string ⟨#[114, 101, 116, 117, 114, 110]⟩) (.agg #[])).run Tryd.prog w7 = .ok () w8 := hr8
  clear hk7
  obtain ⟨w9, hr9, hk9⟩ := ins_run hk8 [112, 114, 105, 110, 116] (by decide) (by decide)
  replace hr9 : (Instr.mapUpdate 38 (.map (some w.heap.size)) (.string ⟨#[112, 114, 105, 110, 116]⟩) (.agg #[])).run Tryd.prog w8 = .ok () w9 := hr9
  clear hk8
  obtain ⟨w10, hr10, hk10⟩ := ins_run hk9 [105, 110, 112, 117, 116] (by decide) (by decide)
  replace hr10 : (Instr.mapUpdate 38 (.map (some w.heap.size)) (.string ⟨#[105, 110, 112, 117, 116]⟩) (.agg #[])).run Tryd.prog w9 = .ok () w10 := hr10
  clear hk9
  obtain ⟨w11, hr11, hk11⟩ := ins_run hk10 [105, 110, 116] (by decide) (by decide)
  replace hr11 : (Instr.mapUpdate 38 (.map (some w.heap.size)) (.string ⟨#[105, 110, 116]⟩) (.agg #[])).run Tryd.prog w10 = .ok () w11 := hr11
  clear hk10
  obtain ⟨w12, hr12, hk12⟩ := ins_run hk11 [98, 111, 111, 108] (by decide) (by decide)
  replace hr12 : (Instr.mapUpdate 38 (.map (some w.heap.size)) (.string ⟨#[98, 111, 111, 108]⟩) (.agg #[])).run Tryd.prog w11 = .ok () w12 := hr12
  clear hk11
  obtain ⟨w13, hr13, hk13⟩ := ins_run hk12 [116, 114, 117, 101] (by decide) (by decide)
  replace hr13 : (Instr.mapUpdate 38 (.map (some w.heap.size)) (.string ⟨#[116, 114, 117, 101]⟩) (.agg #[])).run Tryd.prog w12 = .ok () w13 := hr13
  clear hk12
  obtain ⟨w14, hr14, hk14⟩ := ins_run hk13 [102, 97, 108, 115, 101] (by decide) (by decide)
  replace hr14 : (Instr.mapUpdate 38 (.map (some w.heap.size)) (.string ⟨#[102, 97, 108, 115, 101]⟩) (.agg #[])).run Tryd.prog w13 = .ok () w14 := hr14
  clear hk13
  go_enter Tryd.func17, Tryd.ntmps17
  go_wp2_with fail
  go_ret
  exact ⟨rfl, hk14.1, hb0.grown hk14.2.grown (by simp) fun k hk => by cases hk; exact Nat.le_refl _⟩
end Go.Proofs.YtmajhmionghccaaDoor
