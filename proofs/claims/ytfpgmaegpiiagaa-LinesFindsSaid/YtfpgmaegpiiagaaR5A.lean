/-
  Contracts of the document's At and Pcs.
-/
import Derived.Test.YtfpgmaegpiiagaaL5L
namespace Go.Proofs.Ytfpgmaegpiiagaa
open Go.RowKit

set_option maxRecDepth 100000 in
set_option maxHeartbeats 1000000 in
theorem refAt_any (A : Option Addr) (c : Nat) (l : List Rw) (x : Int) (w : World) (hn : l.length ≤ 1099511627776) (h : RLies w w.heap.size A l) :
    Calls Try.prog 20 #[.slice A l.length c, .int .i64 x] w (AtR l x w) := by
  go_enter Try.func20, Try.ntmps20
  go_wp2
  go_loop [6] (fun i => ∃ k : Nat, k ≤ l.length ∧ i = .int .i64 k ∧ Hid (∀ j (hj : j < l.length), j < k → decide (l[j].pc = x) = false)) (fun i => l.length - (intOf i).toNat)
  case atStart => exact ⟨0, by omega, rfl, fun j _ hj => by omega⟩
  case round =>
    obtain ⟨k, hk, rfl, hno⟩ := hrel
    by_cases hlt : k < l.length
    · obtain ⟨g, o, rfl, hg, c0, c1⟩ := h.at_ hlt
      by_cases hp : l[k].pc = x
      · obtain ⟨E1, E2⟩ := at_found hlt (decide_eq_true hp) (fun j hj => hno.out j (by omega) hj)
        have HE := Lib.hid (And.intro E1 E2)
        clear hno E1 E2
        generalize l[k] = r at *
        have h1 : r.pc ≤ x := by omega
        have h2 : x ≤ r.pc := by omega
        clear hp
        go_wp2
        go_ret2
        exact ⟨by rw [HE.out.1, HE.out.2]; rfl, Below.refl _ _⟩
      · have HN := Lib.hid (fun j (hj : j < l.length) (hjk : j < k + 1) => show decide (l[j].pc = x) = false from by
          by_cases e : j = k
          · subst e; exact decide_eq_false hp
          · exact hno.out j hj (by omega))
        clear hno
        generalize l[k] = r at *
        have h1 : (r.pc == x) = false := by simpa using hp
        clear hp
        go_wp2
        go_round
        case rel => exact ⟨k + 1, by omega, by go_num, HN⟩
        case measure => simp [intOf]; omega
    · obtain rfl : k = l.length := by omega
      obtain ⟨E1, E2⟩ := at_none (fun j hj => hno.out j hj hj)
      have HE := Lib.hid (And.intro E1 E2)
      clear hno E1 E2
      go_wp2
      go_ret2
      exact ⟨by rw [HE.out.1, HE.out.2]; rfl, Below.refl _ _⟩

theorem pcsOf_cons (x : Int) (r : Rw) (t : List Rw) : pcsOf x (r :: t) = if r.pt = x then r.pc :: pcsOf x t else pcsOf x t := by
  unfold pcsOf
  rw [List.filter_cons]
  by_cases h : r.pt = x
  · rw [if_pos (decide_eq_true h), if_pos h]; rfl
  · rw [if_neg (by simpa using h), if_neg h]
theorem pcs_yes {x : Int} {l : List Rw} {k : Nat} {ps : List Int} (hk : k < l.length) (h : pcsOf x l = ps ++ pcsOf x (l.drop k)) (hp : l[k].pt = x) : pcsOf x l = (ps ++ [l[k].pc]) ++ pcsOf x (l.drop (k + 1)) := by
  rw [h, List.drop_eq_getElem_cons hk, pcsOf_cons, if_pos hp, List.append_assoc]; rfl
theorem pcs_no {x : Int} {l : List Rw} {k : Nat} {ps : List Int} (hk : k < l.length) (h : pcsOf x l = ps ++ pcsOf x (l.drop k)) (hp : ¬ l[k].pt = x) : pcsOf x l = ps ++ pcsOf x (l.drop (k + 1)) := by
  rw [h, List.drop_eq_getElem_cons hk, pcsOf_cons, if_neg hp]

set_option maxRecDepth 100000 in
set_option maxHeartbeats 1000000 in
theorem refPcs_any (A : Option Addr) (c : Nat) (l : List Rw) (x : Int) (w : World) (hn : l.length ≤ 1099511627776) (h : RLies w w.heap.size A l) :
    Calls Try.prog 22 #[.slice A l.length c, .int .i64 x] w (PcsR l x w) := by
  go_enter Try.func22, Try.ntmps22
  go_wp2
  go_loopw [5, 6] (fun v i wr => ∃ (k : Nat) (ps : List Int), k ≤ l.length ∧ i = .int .i64 k ∧ ps.length ≤ k ∧ Hid (NOwn wr w.heap.size v ps) ∧ Hid (Below w.heap.size w wr) ∧ Hid (pcsOf x l = ps ++ pcsOf x (l.drop k))) (fun _ i _ => l.length - (intOf i).toNat)
  case atStart => exact ⟨0, [], by omega, rfl, by simp, NOwn.nil _ _, Below.refl _ _, rfl⟩
  case round =>
    obtain ⟨k, ps, hk, rfl, hpk, hv, hB, hE⟩ := hrel
    by_cases hlt : k < l.length
    · obtain ⟨g, o, rfl, hg, c0, c1⟩ := (h.below hB.out).at_ hlt
      by_cases hp : l[k].pt = x
      · have HY := Lib.hid (pcs_yes hlt hE.out hp)
        have hnb := below_new wr (.cells #[.int .i64 l[k].pc] 3)
        have hx1 := Lib.hid (show (wr.alloc (.cells #[.int .i64 l[k].pc] 3)).cell? ⟨wr.heap.size, 0, none⟩ = some (.int .i64 l[k].pc) from by
          have := heap_alloc_new wr (.cells #[.int .i64 l[k].pc] 3)
          simp only [World.cell?, this]
          rfl)
        have hO1 := Lib.hid (hv.out.below hnb)
        have hB1 := Lib.hid (hB.out.trans (hnb.mono hB.out.size))
        clear hE hnb
        generalize l[k] = r at *
        have h1 : r.pt ≤ x := by omega
        have h2 : x ≤ r.pt := by omega
        clear hp
        go_wp2_with (at_builtin
                     refine app_n _ rfl (.tmp 20) (.tmp 26) rfl w.heap.size _ ps rfl hO1.out wr.heap.size 1 r.pc rfl hx1.out (by omega) (by have := hB.out.size; simp; omega) ?_
                     intro v3 w3 ho3 hg3
                     have hB3 := Lib.hid (below_ngrown hB1.out hg3 hO1.out (by have := hB.out.size; simp; omega))
                     clear hg3)
        go_roundw
        case rel => exact ⟨k + 1, ps ++ [r.pc], by omega, by go_num, by simp; omega, ho3, hB3, HY⟩
        case measure => simp [intOf]; omega
      · have HN := Lib.hid (pcs_no hlt hE.out hp)
        clear hE
        generalize l[k] = r at *
        have h1 : (r.pt == x) = false := by simpa using hp
        clear hp
        go_wp2_with fail
        go_roundw
        case rel => exact ⟨k + 1, ps, by omega, by go_num, by omega, hv, hB, HN⟩
        case measure => simp [intOf]; omega
    · obtain rfl : k = l.length := by omega
      have HE := Lib.hid (show pcsOf x l = ps by have := hE.out; rw [List.drop_length] at this; simpa [pcsOf] using this)
      clear hE
      go_wp2_with fail
      go_ret
      refine ⟨_, rfl, ?_, hB.out⟩
      rw [HE.out]
      exact hv.out
end Go.Proofs.Ytfpgmaegpiiagaa
