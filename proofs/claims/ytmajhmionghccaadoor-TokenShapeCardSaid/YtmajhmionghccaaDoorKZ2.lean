/-
  A byte slice that came in, as bytes that lie somewhere, no longer than what may come in.
-/
import Derived.Test.YtmajhmionghccaaDoorKZ
import Derived.SizedLaws
namespace Go.Proofs.YtmajhmionghccaaDoor
open Go.ChangeShapes Go.WideShapes Go.ChangeAt Go.RowKit

theorem open_bytes2 {H : Type} {enc : TypeId × Value → H} {P : Program} {W : World} {base : Nat} {t e : TypeId} {v : Value} {d : DataW H} {p : List MemPlace} {ts : List TypeId} {ds : List (DataW H)} {j : Nat}
    (ht : P.underlying t = some (.slice e)) (he : P.underlying e = some (.int .u8)) (hc : P.cellsOf e = 1) (hb : P.bytesOf e = 1)
    (hv : Value.okWide P W .any base t v) (h : DataW.Trod enc P W 0 (fun _ => true) true t v d p)
    (hsz : (DataW.weightsEach P ts ds).all (· ≤ reachBytes) = true) (htj : ts[j]? = some t) (hdj : ds[j]? = some d) :
    ∃ (A : Option Addr) (c : Nat) (l : List UInt8), v = .slice A l.length c ∧ l.length ≤ 140737488355328 ∧ (A = none → c = 0) ∧ Lies W W.heap.size A l ∧ l.length ≤ c := by
  obtain ⟨A, c, l, rfl, hl, hA, hy⟩ := open_bytes ht he hc hv h
  refine ⟨A, c, l, rfl, ?_, hA, hy, hl⟩
  obtain ⟨fuel, hf⟩ := h
  rcases open_ints ht he hc hf with ⟨hcs, _⟩ | ⟨a, len', cap', zs, hcs, _, hl', hm, hz, hx, _⟩
  · simp [Value.cells] at hcs
    obtain ⟨_, hq, _⟩ := hcs
    rw [hq]
    simp
  · simp [Value.cells] at hcs
    obtain ⟨_, rfl, rfl⟩ := hcs
    have hd := congrArg Prod.fst hx
    simp only at hd
    subst hd
    have hs := sized_slice hsz htj hdj ht
    rw [hb, Nat.mul_one] at hs
    have e1 : ∀ (k : IntKind) (z : List Int), (lits (H := H) k z).length = z.length := fun k z => by simp [lits]
    rw [e1, e1, List.length_take, List.length_drop] at hs
    simp only [if_true] at hz
    unfold reachBytes at hs
    omega
end Go.Proofs.YtmajhmionghccaaDoor
