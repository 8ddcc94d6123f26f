/-
  Bytes as a string.
-/
import Derived.Test.YtmajhmionghccaaDoorKM
import Derived.Test.YtmajhmionghccaaDoorProg
import Derived.Laws.BytesString
import Derived.Laws.Cells
import Derived.Laws.Concat
namespace Go.Proofs.YtmajhmionghccaaDoor
open Go.RowKit

def str (l : List UInt8) : ByteArray := ⟨l.toArray⟩

theorem fold_push : ∀ (l : List UInt8) (s : ByteArray), (l.map fun x => (x.toNat : Int)).foldl (fun r n => r.push (UInt8.ofNat n.toNat)) s = ⟨(s.data.toList ++ l).toArray⟩ := by
  intro l
  induction l with
  | nil => intro s; simp
  | cons x l ih =>
    intro s
    simp only [List.map_cons, List.foldl_cons]
    rw [ih]
    simp [ByteArray.push]

theorem conv_some (w : World) (a : Addr) (l : List UInt8) (c : Nat) (h : ∀ j (hj : j < l.length), w.cell? (a.add j) = some (.int .u8 (l[j].toNat : Int))) :
    (convert 22 9 (.slice (some a) l.length c)).run Tryd.prog w = .ok (.string (str l)) w := by
  rw [run_convert_bytes_string w 22 9 5 _ _ _ Tryd.underlying22 Tryd.underlying5 Tryd.underlying9]
  have hl := run_loadCells_list (P := Tryd.prog) w a ((l.map fun x => (x.toNat : Int)).map (Value.int .u8)) (by
    intro j v hv
    have hj : j < l.length := by
      have := (List.getElem?_eq_some_iff.1 hv).1; simpa using this
    have := h j hj
    simp [hj] at hv
    rw [this, hv])
  simp only [List.length_map] at hl
  rw [run_bytesToString w a l.length c _ hl, fold_push]
  simp [str]

theorem conv_any (w : World) (A : Option Addr) (l : List UInt8) (c : Nat) (h : ∀ j (hj : j < l.length), ∃ a, A = some a ∧ w.cell? (a.add j) = some (.int .u8 (l[j].toNat : Int))) :
    (convert 22 9 (.slice A l.length c)).run Tryd.prog w = .ok (.string (str l)) w := by
  rcases A with _ | a
  · have hl : l = [] := by
      rcases l with _ | ⟨x, l⟩
      · rfl
      · obtain ⟨a, h, _⟩ := h 0 (by simp)
        cases h
    subst hl
    rw [run_convert_bytes_string w 22 9 5 _ _ _ Tryd.underlying22 Tryd.underlying5 Tryd.underlying9]
    rfl
  · refine conv_some w a l c fun j hj => ?_
    obtain ⟨a', e, hc⟩ := h j hj
    cases e
    exact hc

theorem str_append (x y : List UInt8) : str x ++ str y = str (x ++ y) := ByteArray.mk_append_mk x y

end Go.Proofs.YtmajhmionghccaaDoor
