/-
  Contracts of the document's number, and of whether a text stands in a list of texts.
-/
import Derived.Test.YtmajhmionghccaaDoorTKS
import Derived.Test.YtmajhmionghccaaDoorTKF
namespace Go.Proofs.YtmajhmionghccaaDoor
open Go Go.RowKit

def eS : El (List UInt8) := ⟨9, 1, fun s => [.string (str s)], fun _ => rfl, fun x u hu => by rw [List.mem_singleton] at hu; subst hu; rfl, by omega⟩
theorem strs_lie (w : World) (cs : Array Value) (L : List (List UInt8)) (h : cs.toList = L.map fun s => .string (str s)) : eS.Lies (w.alloc (.cells cs 9)) (w.alloc (.cells cs 9)).heap.size (some ⟨w.heap.size, 0, none⟩) L := by
  intro _
  refine ⟨_, _, rfl, by simp, fun j hj f u hu => ?_⟩
  have hf : f = 0 := by
    have := (List.getElem?_eq_some_iff.1 hu).1
    simp [eS] at this
    omega
  subst hf
  have hh := heap_alloc_new w (.cells cs 9)
  have hu2 : u = .string (str L[j]) := by simpa [eS] using hu.symm
  subst hu2
  show (w.alloc (.cells cs 9)).cell? ⟨w.heap.size, 0 + (j * 1 + 0), none⟩ = _
  simp only [World.cell?, hh, Nat.zero_add, Nat.mul_one, Nat.add_zero]
  rw [← Array.getElem?_toList, h]
  simp [hj]
theorem str_ne {s t : List UInt8} (h : s ≠ t) : ¬ (str s).toList = t := by rw [str_toList]; exact h
set_option maxRecDepth 100000 in
set_option maxHeartbeats 2000000 in
theorem in_any (A : Option Addr) (c : Nat) (L : List (List UInt8)) (s : List UInt8) (w : World) (hn : L.length ≤ 1000000) (h : eS.Lies w w.heap.size A L) :
    Calls Tryd.prog 32 #[.slice A L.length c, .string (str s)] w fun e w' => e = .returned (.bool (decide (s ∈ L))) ∧ w = w' := by
  obtain ⟨b, hb⟩ : ∃ b, decide (s ∈ L) = b := ⟨_, rfl⟩
  have H0 := Lib.hid (show b = decide (s ∈ L.drop 0) by rw [← hb, List.drop_zero])
  rw [hb]
  clear hb
  have hss := str_toList s
  go_enter Tryd.func32, Tryd.ntmps32
  go_wp2_with fail
  go_loop [5] (fun i => ∃ k : Nat, k ≤ L.length ∧ i = .int .i64 k ∧ Hid (b = decide (s ∈ L.drop k))) (fun i => L.length - (intOf i).toNat)
  case atStart => exact ⟨0, by omega, rfl, H0⟩
  case round =>
    obtain ⟨k, hk, rfl, hr⟩ := hrel
    clear H0
    by_cases hlt : k < L.length
    · obtain ⟨g, o, rfl, hg, hc⟩ := h.at_ hlt
      have c0 : w.cell? ⟨g, o + k, none⟩ = some (.string (str (L[k]))) := by
        have := hc 0 _ rfl
        rw [show o + k * eS.sz + 0 = o + k by show o + k * 1 + 0 = _; omega] at this
        exact this
      clear hc
      by_cases he : L[k] = s
      · have HR := Lib.hid (show b = true by rw [hr.out]; exact decide_eq_true (by rw [List.drop_eq_getElem_cons hlt, he]; exact List.mem_cons_self))
        rw [he] at c0
        clear he hr
        go_wp2_with fail
        go_ret
        exact ⟨by rw [HR.out]; rfl, rfl⟩
      · have HR := Lib.hid (show b = decide (s ∈ L.drop (k + 1)) by rw [hr.out]; exact decide_eq_decide.2 ⟨fun hm => by rw [List.drop_eq_getElem_cons hlt, List.mem_cons] at hm; exact hm.resolve_left (fun e => he e.symm), fun hm => by rw [List.drop_eq_getElem_cons hlt]; exact List.mem_cons_of_mem _ hm⟩)
        have hxe : ((str L[k]).toList == (str s).toList) = false := by rw [str_toList, str_toList]; exact beq_eq_false_iff_ne.2 he
        have hxe2 : ¬ (str L[k]).toList = (str s).toList := by rw [str_toList, str_toList]; exact he
        clear hss he hr
        generalize L[k] = t at *
        have hxe3 : ¬ str t = str s := fun e => hxe2 (by rw [e])
        go_wp2_with fail
        go_round
        case rel => exact ⟨k + 1, by omega, by go_num, HR⟩
        case measure => simp [intOf]; omega
    · obtain rfl : k = L.length := by omega
      have HR := Lib.hid (show b = false by rw [hr.out, List.drop_length]; simp)
      clear hr
      go_wp2_with fail
      go_ret
      exact ⟨by rw [HR.out]; rfl, rfl⟩
end Go.Proofs.YtmajhmionghccaaDoor
