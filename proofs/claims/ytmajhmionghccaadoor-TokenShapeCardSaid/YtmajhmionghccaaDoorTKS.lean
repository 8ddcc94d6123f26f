/-
  Contracts of the document's Same and of the law's kinds, of tokens that are alike; of CopyBytes.
-/
import Derived.Test.YtmajhmionghccaaDoorTKI
import Derived.Test.YtmajhmionghccaaDoorR0A
import Derived.Deep.QuietTactic
namespace Go.Proofs.YtmajhmionghccaaDoor
open Go Go.RowKit

def TrueR11 (w : World) (e : Ending) (w' : World) : Prop := e = .returned (.bool true) ∧ Below w.heap.size w w'
theorem tk_eq (a : Tk) (w : World) : (Op.equal 35 (.agg (eT.f a).toArray) (.agg (eT.f a).toArray)).run Tryd.prog w = .ok true w := by
  show (Op.equalIn (9998 + 1 + 1) 35 (.agg (eT.f a).toArray) (.agg (eT.f a).toArray)).run Tryd.prog w = _
  rw [run_equalIn_struct _ _ _ _ _ (by simp [Program.fieldsOf, Tryd.underlying35]) (by kernel_rfl)]
  simp [Program.fieldsOf, Tryd.underlying35, Op.eqFields, part, eT, go_sem]
theorem tk_neq (a : Tk) (w : World) : (binOp .neq 35 (.agg (eT.f a).toArray) (.agg (eT.f a).toArray)).run Tryd.prog w = .ok (.bool false) w := by
  simp [binOp, go_sem, tk_eq]
set_option maxRecDepth 100000 in
set_option maxHeartbeats 2000000 in
theorem same11_any (A A2 : Option Addr) (c c2 : Nat) (l : List Tk) (w : World) (hn : l.length ≤ 1099511627776) (h : eT.Lies w w.heap.size A l) (h2 : eT.Lies w w.heap.size A2 l) :
    Calls Tryd.prog 12 #[.slice A l.length c, .slice A2 l.length c2] w (TrueR11 w) := by
  go_enter Tryd.func12, Tryd.ntmps12
  go_wp2
  go_loopw [5] (fun i wr => ∃ k : Nat, k ≤ l.length ∧ i = .int .i64 k ∧ Hid (Below w.heap.size w wr)) (fun i _ => l.length - (intOf i).toNat)
  case atStart => exact ⟨0, by omega, rfl, Below.refl _ _⟩
  case round =>
    obtain ⟨k, hk, rfl, hB⟩ := hrel
    by_cases hlt : k < l.length
    · obtain ⟨g, o, rfl, hg, hc⟩ := (h.below hB.out).at_ hlt
      obtain ⟨g', o', rfl, hg', hc'⟩ := (h2.below hB.out).at_ hlt
      generalize l[k] = r at *
      have hneq := fun w => tk_neq r w
      obtain ⟨kd, tx, nu, ln⟩ := r
      have c0 := hc 0 _ rfl
      have c1 := hc 1 _ rfl
      have c2 := hc 2 _ rfl
      have c3 := hc 3 _ rfl
      have d0 := hc' 0 _ rfl
      have d1 := hc' 1 _ rfl
      have d2 := hc' 2 _ rfl
      have d3 := hc' 3 _ rfl
      clear hc hc'
      simp only [Nat.add_zero, show eT.sz = 4 from rfl] at c0 c1 c2 c3 d0 d1 d2 d3
      simp only [eT] at hneq
      go_wp2
      go_region
      go_wp2
      go_roundw
      case rel => exact ⟨k + 1, by omega, by go_num, hB.out.drew⟩
      case measure => simp [intOf]; omega
    · obtain rfl : k = l.length := by omega
      go_wp2
      go_ret
      exact ⟨rfl, hB.out⟩
/-- what is alike of tokens that stand in other lines -/
def Tk.key (t : Tk) : Int × List UInt8 × Int := (t.kd, t.tx, t.nu)
set_option maxRecDepth 100000 in
set_option maxHeartbeats 4000000 in
theorem kinds11_any (A A2 : Option Addr) (c c2 : Nat) (l l2 : List Tk) (w : World) (hn : l.length ≤ 1099511627776) (hkey : l.map Tk.key = l2.map Tk.key) (h : eT.Lies w w.heap.size A l) (h2 : eT.Lies w w.heap.size A2 l2) :
    Calls Tryd.prog 13 #[.slice A l.length c, .slice A2 l2.length c2] w (TrueR11 w) := by
  have hlen : l2.length = l.length := by
    have := congrArg List.length hkey
    simpa using this.symm
  rw [hlen]
  have hnn : (l.length : Int) ≤ 1099511627776 := by omega
  go_enter Tryd.func13, Tryd.ntmps13
  go_wp2
  go_loopw [5] (fun i wr => ∃ k : Nat, k ≤ l.length ∧ i = .int .i64 k ∧ Hid (Below w.heap.size w wr)) (fun i _ => l.length - (intOf i).toNat)
  case atStart => exact ⟨0, by omega, rfl, Below.refl _ _⟩
  case round =>
    obtain ⟨k, hk, rfl, hB⟩ := hrel
    by_cases hlt : k < l.length
    · have hlt2 : k < l2.length := by omega
      obtain ⟨g, o, rfl, hg, hc⟩ := (h.below hB.out).at_ hlt
      obtain ⟨g', o', rfl, hg', hc'⟩ := (h2.below hB.out).at_ hlt2
      have hk1 : (l[k]).key = (l2[k]).key := by
        have := congrArg (·[k]?) hkey
        simpa [List.getElem?_map, hlt, hlt2] using this
      generalize l[k] = r at *
      generalize l2[k] = r2 at *
      obtain ⟨kd, tx, nu, ln⟩ := r
      obtain ⟨kd2, tx2, nu2, ln2⟩ := r2
      simp only [Tk.key, Prod.mk.injEq] at hk1
      obtain ⟨rfl, rfl, rfl⟩ := hk1
      have c0 := hc 0 _ rfl
      have c1 := hc 1 _ rfl
      have c2 := hc 2 _ rfl
      have d0 := hc' 0 _ rfl
      have d1 := hc' 1 _ rfl
      have d2 := hc' 2 _ rfl
      clear hc hc' h h2
      simp only [Nat.add_zero, show eT.sz = 4 from rfl] at c0 c1 c2 d0 d1 d2
      go_wp2
      go_quiet (fail)
      go_wp2
      go_roundw
      case rel => exact ⟨k + 1, by omega, by go_num, hB.out.trans (below_draws _)⟩
      case measure => simp [intOf]; omega
    · obtain rfl : k = l.length := by omega
      go_wp2
      go_ret
      exact ⟨rfl, hB.out⟩
end Go.Proofs.YtmajhmionghccaaDoor
