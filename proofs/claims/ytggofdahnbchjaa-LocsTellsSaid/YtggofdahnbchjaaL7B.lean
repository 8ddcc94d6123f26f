/-
  Iterators over a slice of spans: inOrder and slices.Values keep their word.
-/
import Derived.Test.YtggofdahnbchjaaL7A
import Derived.Test.YtggofdahnbchjaaKF
import Derived.Shelf.Abstract
import Derived.OwnWalkIn
import Derived.TacticsInMore
import Derived.LoopNIn
import Derived.LoopIn
namespace Go.Proofs.Ytggofdahnbchjaa
open Go Go.RowKit

theorem wideFn (f : FuncId) : Fence.wide.fn f = True := rfl
theorem wideDepth : Fence.wide.depth = none := rfl
attribute [local go_sem] Oper.semAt_some wideFn wideDepth

/-- x is the next one of L behind pre -/
def Nxt {α : Type} (L pre : List α) (x : α) : Prop := ∃ k, pre = L.take k ∧ L[k]? = some x
theorem Nxt.take {α : Type} {L pre : List α} {x : α} (h : Nxt L pre x) : pre ++ [x] = L.take (pre.length + 1) ∧ pre.length < L.length ∧ L[pre.length]? = some x := by
  obtain ⟨k, rfl, hk⟩ := h
  obtain ⟨hlt, rfl⟩ := List.getElem?_eq_some_iff.1 hk
  have : (L.take k).length = k := by simp; omega
  rw [this]
  exact ⟨List.take_append_getElem hlt, hlt, hk⟩
theorem Nxt.mem {α : Type} {L pre : List α} {x : α} (h : Nxt L pre x) : x ∈ L := List.mem_of_getElem? h.take.2.2
/-- each span with where the one ahead ends -/
def prs (ps : List Ps) : List (Int × Ps) := (0 :: ps.map Ps.t).zip ps
theorem prs_len (ps : List Ps) : (prs ps).length = ps.length := by simp [prs]
theorem prs_mem {ps : List Ps} {q : Int × Ps} (h : q ∈ prs ps) : q.2 ∈ ps := (List.of_mem_zip (show (q.1, q.2) ∈ (0 :: ps.map Ps.t).zip ps from h)).2
def aht (ps : List Ps) (k : Nat) : Int := ((0 :: ps.map Ps.t)[k]?).getD 0
theorem aht_zero (ps : List Ps) : aht ps 0 = 0 := by simp [aht]
theorem aht_succ {ps : List Ps} {k : Nat} (h : k < ps.length) : aht ps (k + 1) = ps[k].t := by simp [aht, h]
theorem prs_at {ps : List Ps} {k : Nat} (h : k < ps.length) : (prs ps)[k]? = some (aht ps k, ps[k]) := by
  unfold prs
  rw [List.getElem?_zip_eq_some]
  refine ⟨?_, List.getElem?_eq_getElem h⟩
  unfold aht
  rw [List.getElem?_eq_getElem (by simp; omega)]
  rfl
theorem nxt_at {α : Type} {L : List α} {k : Nat} {x : α} (h : L[k]? = some x) : Nxt L (L.take k) x := ⟨k, rfl, h⟩
theorem take_next {α : Type} {L : List α} {k : Nat} {x : α} (h : L[k]? = some x) : L.take k ++ [x] = L.take (k + 1) := by
  obtain ⟨hlt, rfl⟩ := List.getElem?_eq_some_iff.1 h
  exact List.take_append_getElem hlt
theorem Same.fresh {K : Nat → Prop} {B : Nat} {A C : World} (h : Same (fun k => K k ∨ B ≤ k) A C) {k : Nat} {o : Obj} (hk : A.heap[k]? = some o) (hB : B ≤ k) : C.heap[k]? = some o := h.blk k o hk (.inr hB)
theorem Same.old {K : Nat → Prop} {B n : Nat} {A C : World} (h : Same (fun k => K k ∨ B ≤ k) A C) (hK : ∀ k, k < n → K k) (hn : n ≤ A.heap.size) : Below n A C := by
  refine ⟨h.os, h.tape, h.output, h.size, fun k hk => ?_⟩
  rw [Array.getElem?_eq_getElem (show k < A.heap.size by omega)]
  exact h.blk k _ (Array.getElem?_eq_getElem (show k < A.heap.size by omega)) (.inl (hK k hk))
/-- a new span's block behind a round -/
theorem SpAt.fresh {K : Nat → Prop} {W W' : World} {p : Ps} (h : Same (fun k => K k ∨ W.heap.size ≤ k) (W.alloc (.cells (pK p) 46)) W') : SpAt W' W.heap.size p := h.fresh (spAt_new W p) (Nat.le_refl _)

set_option maxRecDepth 100000 in
set_option maxHeartbeats 2000000 in
theorem inOrder_seq (gb n0 c : Nat) (A : Option Addr) (ps : List Ps) (w : World) (hgb : gb < w.heap.size) (hc : w.cell? ⟨gb, 0, none⟩ = some (.slice A ps.length c)) (hP : PLies w n0 A ps) (hn : n0 ≤ w.heap.size) (hsz : ps.length ≤ 1099511627776) :
    SeqC 50 #[.pointer (some ⟨gb, 0, none⟩)] (fun q : Int × Ps => #[.int .i64 q.1, .agg (pK q.2)]) (fun _ => False) (fun k => k < n0) (fun pre x _ => Nxt (prs ps) pre x) (fun xs => xs = prs ps) w := by
  intro l J Jx W hz hb hJ hJx hY h0
  have hcW := (hb.cell (p := ⟨gb, 0, none⟩) hgb).trans hc
  have hPW := Lib.hid (hP.below (hb.mono hn))
  have hzw := hb.size
  clear hc hP
  refine callsIn_of_wp Try.func50 rfl trivial ?_ rfl
  simp only [Try.ntmps50, List.size_toArray, List.length_cons, List.length_nil, Nat.reduceAdd, Nat.reduceSub, Array.replicate_succ, Array.replicate_zero, List.push_toArray, List.append_toArray, List.nil_append, List.cons_append]
  gi_wp2
  gi_loopw [3, 8] (fun a i wr => ∃ k : Nat, k ≤ ps.length ∧ i = .int .i64 k ∧ a = .int .i64 (aht ps k) ∧ Hid (J ((prs ps).take k) wr) ∧ Hid (PLies wr n0 A ps) ∧ n0 ≤ wr.heap.size) (fun _ i _ => ps.length - (intOf i).toNat)
  case atStart => exact ⟨0, by omega, rfl, by rw [aht_zero], h0, hPW, by omega⟩
  case round =>
    obtain ⟨k, hk, rfl, rfl, hJs, hPs, hnr⟩ := hrel
    by_cases hlt : k < ps.length
    · obtain ⟨g, o, rfl, hg, c1, c2, c3⟩ := hPs.out.at_ hlt
      have hat := prs_at hlt
      have hta := take_next hat
      have hts := aht_succ hlt
      have hst : Lets (fun _ => False) wr.heap.size wr (wr.alloc (.cells (pK ps[k]) 46)) := lets_alloc _ _
      have hbl := Lib.hid (below_lnew wr (.cells (pK ps[k]) 46))
      obtain ⟨fn, tmps, assign, body, hy, hR⟩ := hY _ _ wr (wr.alloc (.cells (pK ps[k]) 46)) hJs.out hst (nxt_at hat)
      have hfr := fun W' => SpAt.fresh (K := fun k => k < n0) (W := wr) (W' := W') (p := ps[k])
      clear hst
      have HTS := Lib.hid hts
      have HTA := Lib.hid hta
      clear hts hta hat
      generalize ps[k] = p at *
      generalize aht ps k = al at *
      obtain ⟨pf, pt, pa, pA, pc⟩ := p
      unfold pK at *
      dsimp only at hy c1 c2 c3
      gi_wp2
      refine hR.mono ?_
      rintro e W3 (⟨rfl, hJ3, hk3⟩ | ⟨rfl, hJx3⟩)
      · have hs3 := hfr _ hk3
        have d1 := hs3.to
        have HB3 := Lib.hid (hk3.old (n := n0) (fun _ h => h) (by simp; omega))
        have hz3 := hk3.size
        simp only [World.size_alloc] at hz3
        clear hs3 hk3 hfr
        gi_wp2
        go_roundw
        case rel => exact ⟨k + 1, by omega, by go_num, by rw [HTS.out], by rw [← HTA.out]; exact hJ3, (hPs.out.below (hbl.out.mono hnr)).below HB3.out, by omega⟩
        case measure => simp [intOf]; omega
      · gi_wp2
        refine bodyPost_ret (results_none rfl _ _ _) rfl ?_
        exact ⟨⟨_, rfl⟩, .inr ⟨_, hJx3⟩⟩
    · obtain rfl : k = ps.length := by omega
      gi_wp2
      go_end0
      refine ⟨⟨_, rfl⟩, .inl ⟨_, rfl, ?_⟩⟩
      have := hJs.out
      rwa [← prs_len, List.take_length] at this

set_option maxHeartbeats 1000000 in
theorem inOrder_any (A : Option Addr) (n c : Nat) (w : World) : Calls Try.prog 32 #[.slice A n c] w fun e w' => e = .returned (.func (.func 50) #[] #[.pointer (some ⟨w.heap.size, 0, none⟩)]) ∧ w.alloc (.cells #[.slice A n c] 23) = w' := by
  go_enter Try.func32, Try.ntmps32
  go_wp2
  go_ret
  exact ⟨rfl, rfl⟩
end Go.Proofs.Ytggofdahnbchjaa
