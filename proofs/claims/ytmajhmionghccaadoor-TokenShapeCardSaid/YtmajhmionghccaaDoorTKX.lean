/-
  From what the package variables were laid with to what the walks ask.
-/
import Derived.Test.YtmajhmionghccaaDoorRows
import Derived.Test.YtmajhmionghccaaDoorTKH
import Derived.LaidMore
import Derived.Stop.LaidErr
namespace Go.Proofs.YtmajhmionghccaaDoor
open Go Go.RowKit

def laids : List (String × DataW Unit) := Rows.tokenScansRow.laid
def nameAt (k : Nat) : String := ((laids[k]?).map (·.1)).getD default
def ifaceName : DataW Unit → String
  | .iface n _ => n
  | _ => default
def nameE : String := ifaceName (((laids[3]?).map (·.2)).getD .nil)
theorem gSig : Tryd.prog.globalNamed (nameAt 5) = some 0 := by kernel_rfl
theorem gSigT : (Tryd.prog.globals[0]?).map (·.type) = some 62 := by kernel_rfl
theorem gEr : Tryd.prog.globalNamed (nameAt 3) = some 3 := by kernel_rfl
theorem gErT : (Tryd.prog.globals[3]?).map (·.type) = some 59 := by kernel_rfl
theorem cellsS : Tryd.prog.cellsOf 9 = 1 := by kernel_rfl
theorem cellsE : Tryd.prog.cellsOf 85 = 1 := by kernel_rfl
theorem cellsA : Tryd.prog.cellsOf 62 = 24 := by kernel_rfl
theorem nameStar : "*" ++ "errors.errorString" = nameE := by decide +kernel
theorem rowE (u : TypeId) (h : Tryd.prog.typeName? 3 u = some nameE) : u = 83 :=
  typeName_ptr_named (nm := "errors.errorString") (by rw [nameStar]; kernel_rfl) (by kernel_rfl) (by decide) u (by rw [nameStar]; exact h)
def sgData : List (DataW Unit) := signsL.map fun s => .lit (.string s)
theorem sgData_get (i : Nat) (h : i < 24) : sgData[i]? = some (.lit (.string (signsL[i]'h))) := by
  unfold sgData
  rw [List.getElem?_map, List.getElem?_eq_getElem (show i < signsL.length from h)]
  rfl
theorem laid_ok {W : World} (h : laidMetH Tryd.prog laids W) : Laid W := by
  rw [MakeChecks.laidMetH_plain _ _ _ (by kernel_rfl)] at h
  obtain ⟨a0, s0, hv0, -, -, -⟩ := laid_sentinel (show laidMet Tryd.prog (_ :: _) W from h.tail.tail.tail) gEr gErT Tryd.underlying59 rowE Tryd.underlying83 Tryd.underlying85 rfl rfl Tryd.underlying9 cellsE cellsS
  refine ⟨?_, _, _, by have h0 := World.var?_cell gEr hv0 0; simpa using h0⟩
  obtain ⟨ps, ⟨g0, t0, cs0, f0, p0, q0, hg0, ht0, hvar, hd, _⟩, _⟩ := h.tail.tail.tail.tail.tail
  obtain rfl := Option.some.inj (gSig.symm.trans hg0)
  obtain rfl := Option.some.inj (gSigT.symm.trans ht0)
  obtain ⟨xs, m, rfl, hx, hcl, hxl, hat⟩ := DataW.trod_array Tryd.underlying62 hd
  rw [cellsS] at hat
  have hx1 : xs.map (·.1) = sgData := by
    have := congrArg Prod.fst hx
    injection this with this
    exact this.symm
  intro i hi
  have h1 := hat i hi
  rw [Nat.mul_one] at h1
  have hxi : i < xs.length := by omega
  rw [List.getElem?_eq_getElem hxi] at h1
  obtain ⟨s, hc, hxs, _⟩ := DataW.trod_string Tryd.underlying9 h1
  have h2 : cs0.toList[i]? = some (.string s) := by
    have := congrArg (·[0]?) hc
    simpa [List.getElem?_take, List.getElem?_drop] using this
  have h3 : (xs.map (·.1))[i]? = some (DataW.lit (.string s.data.toList)) := by
    rw [List.getElem?_map, List.getElem?_eq_getElem hxi, hxs]
    rfl
  rw [hx1] at h3
  have h4 := sgData_get i hi
  rw [h4] at h3
  injection h3 with h3
  injection h3 with h3
  injection h3 with h3
  have h5 : s = str (signsL[i]'hi) := by
    rw [h3]
    exact ByteArray.ext (by simp [str])
  have := World.var?_cell gSig hvar i
  rw [this, ← h5]
  simpa using h2
end Go.Proofs.YtmajhmionghccaaDoor
