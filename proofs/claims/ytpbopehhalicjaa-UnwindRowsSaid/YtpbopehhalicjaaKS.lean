/-
  Results that lie in variables of the call's own: a row first, then two numbers.
-/
import Derived.Test.YtpbopehhalicjaaKR
namespace Go.Proofs.Ytpbopehhalicjaa
open Go

section
variable {P : Program} {fn : Func} {p u v : Tmp} {ty : TypeId}
theorem run_loadVar_int {k : IntKind} {t : TypeId} (hu : P.underlying t = some (.int k)) {w : World} {a : Addr} {x : Value} (hc : w.cell? a = some x) : (loadVar t a).run P w = .ok x w := by
  have hagg : (isAgg t).run P w = .ok false w := by
    unfold isAgg
    rw [Sem.run_bind, run_underlying hu w]
    rfl
  simp [loadVar, Sem.run_bind, hagg, run_load, hc]
theorem res_row_cell2 {t1 t2 : TypeId} {k1 k2 : IntKind} (h : fn.results = #[.cell p ty, .cell u t1, .cell v t2]) (tmps : Array Value) (w : World) (g g1 g2 : Nat) (t : TypeId) (cs : Array Value) (fr : Nat × Nat) (d : TypeDesc) (x1 x2 : Value)
    (hp : tmps.getD p undef = .pointer (some ⟨g, 0, none⟩)) (hp1 : tmps.getD u undef = .pointer (some ⟨g1, 0, none⟩)) (hp2 : tmps.getD v undef = .pointer (some ⟨g2, 0, none⟩)) (hg : w.heap[g]? = some (.cells cs t fr))
    (hu : P.underlying ty = some d) (hd : (match d with | .struct _ | .array _ _ => true | _ => false) = true) (hi : (P.info? ty).map (·.size) = some cs.size)
    (h1 : P.underlying t1 = some (.int k1)) (h2 : P.underlying t2 = some (.int k2)) (c1 : w.cell? ⟨g1, 0, none⟩ = some x1) (c2 : w.cell? ⟨g2, 0, none⟩ = some x2) :
    (results fn tmps).run P w = .ok (.tuple #[.agg cs, x1, x2]) w := by
  have hp' : tmps[p]?.getD undef = .pointer (some ⟨g, 0, none⟩) := by simpa using hp
  have hp1' : tmps[u]?.getD undef = .pointer (some ⟨g1, 0, none⟩) := by simpa using hp1
  have hp2' : tmps[v]?.getD undef = .pointer (some ⟨g2, 0, none⟩) := by simpa using hp2
  simp [results, h, hp', hp1', hp2', asAddr, run_loadVar_row w g t ty cs fr d hg hu hd hi, run_loadVar_int h1 c1, run_loadVar_int h2 c2]
end

end Go.Proofs.Ytpbopehhalicjaa
