/-
  slices.Equal over steps and the document's Same, of any two rows of steps; slices.Values keeps its word.
-/
import Derived.Test.YtggofdahnbchjaaL7D
namespace Go.Proofs.Ytggofdahnbchjaa
open Go Go.RowKit

set_option maxRecDepth 100000 in
set_option maxHeartbeats 1000000 in
theorem eqLocs_any (A A2 : Option Addr) (c c2 : Nat) (l l2 : List Lc) (w : World) (hn : l.length ≤ 1099511627776) (h : LLies w w.heap.size A l) (h2 : LLies w w.heap.size A2 l2) :
    Calls Try.prog 65 #[.slice A l.length c, .slice A2 l2.length c2] w (BoolR (decide (l = l2)) w) := by
  by_cases hlen : l.length = l2.length
  · have hll : (l.length : Int) = l2.length := by omega
    have HLN := Lib.hid hlen
    clear hlen
    go_enter Try.func65, Try.ntmps65
    go_wp2
    go_loopw [5, 13] (fun i v wr => ∃ k : Nat, k ≤ l.length ∧ v = .int .i64 k ∧ Hid (l.take k = l2.take k) ∧ Hid (Below w.heap.size w wr)) (fun _ i _ => l.length - (intOf i).toNat)
    case atStart => exact ⟨0, by omega, rfl, rfl, Below.refl _ _⟩
    case round =>
      obtain ⟨k, hk, rfl, hT, hB⟩ := hrel
      by_cases hlt : k < l.length
      · have hlt2 : k < l2.length := by have := HLN.out; omega
        obtain ⟨g, o, rfl, hg, c1, c2⟩ := (h.below hB.out).at_ hlt
        obtain ⟨g', o', rfl, hg', c3, c4⟩ := (h2.below hB.out).at_ hlt2
        have HT2 := Lib.hid (fun (e : l[k] = l2[k]) => show l.take (k + 1) = l2.take (k + 1) by rw [← List.take_append_getElem hlt, ← List.take_append_getElem hlt2, hT.out, e])
        have HF := Lib.hid (fun (e : ¬ l[k] = l2[k]) => show decide (l = l2) = false from decide_eq_false (fun q => e (by subst q; rfl)))
        generalize l[k] = r at *
        generalize l2[k] = r2 at *
        have hneq := fun w => loc_neq r r2 w
        unfold cK at hneq
        by_cases he : r = r2
        · have HS := Lib.hid (HT2.out he)
          rw [decide_eq_true he] at hneq
          clear HT2 HF he
          go_wp2
          go_region
          go_wp2
          go_roundw
          case rel => exact ⟨k + 1, by omega, by go_num, HS, hB.out.drew⟩
          case measure => simp [intOf]; omega
        · have HS := Lib.hid (HF.out he)
          rw [decide_eq_false he] at hneq
          clear HT2 HF he
          go_wp2
          go_region
          go_wp2
          go_ret
          exact ⟨by rw [HS.out]; rfl, hB.out.drew⟩
      · obtain rfl : k = l.length := by omega
        have HS := Lib.hid (show decide (l = l2) = true from decide_eq_true (by have := hT.out; rwa [List.take_length, HLN.out, List.take_length] at this))
        go_wp2
        go_ret
        exact ⟨by rw [HS.out]; rfl, hB.out⟩
  · have hll : ¬ (l.length : Int) = l2.length := by omega
    have HS := Lib.hid (show decide (l = l2) = false from decide_eq_false (fun q => hlen (by rw [q])))
    clear hlen
    go_enter Try.func65, Try.ntmps65
    go_wp2
    go_ret
    exact ⟨by rw [HS.out]; rfl, Below.refl _ _⟩

set_option maxRecDepth 100000 in
set_option maxHeartbeats 1000000 in
theorem sameG_any (A A2 : Option Addr) (c c2 : Nat) (l l2 : List Lc) (w : World) (hn : l.length ≤ 1099511627776) (h : LLies w w.heap.size A l) (h2 : LLies w w.heap.size A2 l2) :
    Calls Try.prog 25 #[.slice A l.length c, .slice A2 l2.length c2] w (BoolR (decide (l = l2)) w) := by
  by_cases hlen : l.length = l2.length
  · have hll : (l.length : Int) = l2.length := by omega
    have HLN := Lib.hid hlen
    clear hlen
    go_enter Try.func25, Try.ntmps25
    go_wp2
    go_loopw [5] (fun i wr => ∃ k : Nat, k ≤ l.length ∧ i = .int .i64 k ∧ Hid (l.take k = l2.take k) ∧ Hid (Below w.heap.size w wr)) (fun i _ => l.length - (intOf i).toNat)
    case atStart => exact ⟨0, by omega, rfl, rfl, Below.refl _ _⟩
    case round =>
      obtain ⟨k, hk, rfl, hT, hB⟩ := hrel
      by_cases hlt : k < l.length
      · have hlt2 : k < l2.length := by have := HLN.out; omega
        obtain ⟨g, o, rfl, hg, c1, c2⟩ := (h.below hB.out).at_ hlt
        obtain ⟨g', o', rfl, hg', c3, c4⟩ := (h2.below hB.out).at_ hlt2
        have HT2 := Lib.hid (fun (e : l[k] = l2[k]) => show l.take (k + 1) = l2.take (k + 1) by rw [← List.take_append_getElem hlt, ← List.take_append_getElem hlt2, hT.out, e])
        have HF := Lib.hid (fun (e : ¬ l[k] = l2[k]) => show decide (l = l2) = false from decide_eq_false (fun q => e (by subst q; rfl)))
        generalize l[k] = r at *
        generalize l2[k] = r2 at *
        have hneq := fun w => loc_neq r r2 w
        unfold cK at hneq
        by_cases he : r = r2
        · have HS := Lib.hid (HT2.out he)
          rw [decide_eq_true he] at hneq
          clear HT2 HF he
          go_wp2
          go_region
          go_wp2
          go_roundw
          case rel => exact ⟨k + 1, by omega, by go_num, HS, hB.out.drew⟩
          case measure => simp [intOf]; omega
        · have HS := Lib.hid (HF.out he)
          rw [decide_eq_false he] at hneq
          clear HT2 HF he
          go_wp2
          go_region
          go_wp2
          go_ret
          exact ⟨by rw [HS.out]; rfl, hB.out.drew⟩
      · obtain rfl : k = l.length := by omega
        have HS := Lib.hid (show decide (l = l2) = true from decide_eq_true (by have := hT.out; rwa [List.take_length, HLN.out, List.take_length] at this))
        go_wp2
        go_ret
        exact ⟨by rw [HS.out]; rfl, hB.out⟩
  · have hll : ¬ (l.length : Int) = l2.length := by omega
    have HS := Lib.hid (show decide (l = l2) = false from decide_eq_false (fun q => hlen (by rw [q])))
    clear hlen
    go_enter Try.func25, Try.ntmps25
    go_wp2
    go_ret
    exact ⟨by rw [HS.out]; rfl, Below.refl _ _⟩

/-- an iterator over spans -/
def SpanSeq (n0 gf : Nat) (lb : Array Value) (qs : List Ps) (w : World) : Prop :=
  SeqC gf lb (fun p : Ps => #[.agg (pK p)]) (fun k => k = w.heap.size + 2) (fun k => k < n0 ∨ k = w.heap.size + 2) (fun pre x _ => Nxt qs pre x) (fun xs => xs = qs) w
attribute [local go_sem] Oper.semAt_some wideFn wideDepth
set_option maxRecDepth 100000 in
set_option maxHeartbeats 2000000 in
theorem values_seq (gb n0 c : Nat) (A : Option Addr) (ps : List Ps) (w : World) (hgb : gb < w.heap.size) (hc : w.cell? ⟨gb, 0, none⟩ = some (.slice A ps.length c)) (hP : PLies w n0 A ps) (hn : n0 ≤ w.heap.size) (hsz : ps.length ≤ 1099511627776) :
    SpanSeq n0 62 #[.pointer (some ⟨gb, 0, none⟩)] ps w := by
  intro l J Jx W hz hb hJ hJx hY h0
  have hcW := (hb.cell (p := ⟨gb, 0, none⟩) hgb).trans hc
  have hPW := Lib.hid (hP.below (hb.mono hn))
  have hzw := hb.size
  clear hc hP
  refine callsIn_of_wp Try.func62 rfl trivial ?_ rfl
  simp only [Try.ntmps62, List.size_toArray, List.length_cons, List.length_nil, Nat.reduceAdd, Nat.reduceSub, Array.replicate_succ, Array.replicate_zero, List.push_toArray, List.append_toArray, List.nil_append, List.cons_append]
  gi_wp2
  gi_loopw [7] (fun i wr => ∃ k : Nat, k ≤ ps.length ∧ i = .int .i64 k ∧ Hid (J (ps.take k) wr) ∧ Hid (PLies wr n0 A ps) ∧ n0 ≤ wr.heap.size) (fun i _ => ps.length - (intOf i).toNat)
  case atStart => exact ⟨0, by omega, rfl, h0, hPW, by omega⟩
  case round =>
    obtain ⟨k, hk, rfl, hJs, hPs, hnr⟩ := hrel
    by_cases hlt : k < ps.length
    · obtain ⟨g, o, rfl, hg, c1, c2, c3⟩ := hPs.out.at_ hlt
      have hat := List.getElem?_eq_getElem hlt
      have hta := take_next hat
      have hst : Lets (fun k => k = w.heap.size + 2) wr.heap.size wr (wr.alloc (.cells (pK ps[k]) 46)) := lets_alloc _ _
      have hbl := Lib.hid (below_lnew wr (.cells (pK ps[k]) 46))
      obtain ⟨fn, tmps, assign, body, hy, hR⟩ := hY _ _ wr (wr.alloc (.cells (pK ps[k]) 46)) hJs.out hst (nxt_at hat)
      clear hst
      have HTA := Lib.hid hta
      clear hta hat
      generalize ps[k] = p at *
      obtain ⟨pf, pt, pa, pA, pc⟩ := p
      unfold pK at *
      dsimp only at hy c1 c2 c3
      gi_wp2
      refine hR.mono ?_
      rintro e W3 (⟨rfl, hJ3, hk3⟩ | ⟨rfl, hJx3⟩)
      · have HB3 := Lib.hid (hk3.old (n := n0) (fun _ h => .inl h) (by simp; omega))
        have hz3 := hk3.size
        simp only [World.size_alloc] at hz3
        clear hk3
        gi_wp2
        go_roundw
        case rel => exact ⟨k + 1, by omega, by go_num, by rw [← HTA.out]; exact hJ3, (hPs.out.below (hbl.out.mono hnr)).below HB3.out, by omega⟩
        case measure => simp [intOf]; omega
      · gi_wp2
        refine bodyPost_ret (results_none rfl _ _ _) rfl ?_
        exact ⟨⟨_, rfl⟩, .inr ⟨_, hJx3⟩⟩
    · obtain rfl : k = ps.length := by omega
      gi_wp2
      go_end0
      refine ⟨⟨_, rfl⟩, .inl ⟨_, rfl, ?_⟩⟩
      have := hJs.out
      rwa [List.take_length] at this
set_option maxHeartbeats 1000000 in
theorem values_any (A : Option Addr) (n c : Nat) (w : World) : Calls Try.prog 46 #[.slice A n c] w fun e w' => e = .returned (.func (.func 62) #[] #[.pointer (some ⟨w.heap.size, 0, none⟩)]) ∧ w.alloc (.cells #[.slice A n c] 23) = w' := by
  go_enter Try.func46, Try.ntmps46
  go_wp2
  go_ret
  exact ⟨rfl, rfl⟩
end Go.Proofs.Ytggofdahnbchjaa
