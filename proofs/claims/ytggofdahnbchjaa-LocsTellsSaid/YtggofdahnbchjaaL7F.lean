/-
  outside: what is left of spans without some places, gone through; it keeps its word.
-/
import Derived.Test.YtggofdahnbchjaaL7E
import Derived.Lib.MinMax
namespace Go.Proofs.Ytggofdahnbchjaa
open Go Go.RowKit

def lowP (fr : Int) (p : Ps) : Ps := { p with t := min p.t fr }
def highP (to : Int) (p : Ps) : Ps := { p with f := max p.f to }
/-- what is left of a span -/
def cutP (fr to : Int) (p : Ps) : List Ps := (if p.f < min p.t fr then [lowP fr p] else []) ++ (if max p.f to < p.t then [highP to p] else [])
def pieces (fr to : Int) (ps : List Ps) : List Ps := ps.flatMap (cutP fr to)
theorem pieces_at {fr to : Int} {ps : List Ps} {k : Nat} (h : k < ps.length) : pieces fr to ps = pieces fr to (ps.take k) ++ (cutP fr to ps[k] ++ pieces fr to (ps.drop (k + 1))) := by
  unfold pieces
  rw [← List.flatMap_cons, ← List.flatMap_append, List.getElem_cons_drop, List.take_append_drop]
theorem pieces_succ {fr to : Int} {ps : List Ps} {k : Nat} (h : k < ps.length) : pieces fr to (ps.take (k + 1)) = pieces fr to (ps.take k) ++ cutP fr to ps[k] := by
  unfold pieces
  rw [← List.take_append_getElem h, List.flatMap_append]
  simp
theorem nxt_of {α : Type} {L pre r : List α} {x : α} (h : L = pre ++ x :: r) : Nxt L pre x := ⟨pre.length, by rw [h]; simp, by rw [h]; simp⟩

theorem outside_any (A : Option Addr) (n c : Nat) (fr to : Int) (w : World) : Calls Try.prog 47 #[.slice A n c, .int .i64 fr, .int .i64 to] w fun e w' =>
    e = .returned (.func (.func 63) #[] #[.pointer (some ⟨w.heap.size, 0, none⟩), .pointer (some ⟨w.heap.size + 1, 0, none⟩), .pointer (some ⟨w.heap.size + 1 + 1, 0, none⟩)]) ∧
      ((w.alloc (.cells #[.slice A n c] 23)).alloc (.cells #[.int .i64 fr] 3)).alloc (.cells #[.int .i64 to] 3) = w' := by
  go_enter Try.func47, Try.ntmps47
  go_wp2
  go_ret
  exact ⟨rfl, rfl⟩

attribute [local go_sem] Oper.semAt_some wideFn wideDepth
set_option maxRecDepth 100000 in
set_option maxHeartbeats 4000000 in
theorem outside_seq (gl gf gt n0 c : Nat) (A : Option Addr) (ps : List Ps) (fr to : Int) (w : World) (hgl : gl < n0) (hgf : gf < n0) (hgt : gt < n0) (hc : w.cell? ⟨gl, 0, none⟩ = some (.slice A ps.length c))
    (hcf : w.cell? ⟨gf, 0, none⟩ = some (.int .i64 fr)) (hct : w.cell? ⟨gt, 0, none⟩ = some (.int .i64 to)) (hP : PLies w n0 A ps) (hn : n0 ≤ w.heap.size) (hsz : ps.length ≤ 1099511627776) :
    SpanSeq n0 63 #[.pointer (some ⟨gl, 0, none⟩), .pointer (some ⟨gf, 0, none⟩), .pointer (some ⟨gt, 0, none⟩)] (pieces fr to ps) w := by
  intro l J Jx W hz hb hJ hJx hY h0
  have hcW := (hb.cell (p := ⟨gl, 0, none⟩) (by dsimp only; omega)).trans hc
  have hcF := (hb.cell (p := ⟨gf, 0, none⟩) (by dsimp only; omega)).trans hcf
  have hcT := (hb.cell (p := ⟨gt, 0, none⟩) (by dsimp only; omega)).trans hct
  have hPW := Lib.hid (hP.below (hb.mono hn))
  have hzw := hb.size
  clear hc hP hcf hct
  refine callsIn_of_wp Try.func63 rfl trivial ?_ rfl
  simp only [Try.ntmps63, List.size_toArray, List.length_cons, List.length_nil, Nat.reduceAdd, Nat.reduceSub, Array.replicate_succ, Array.replicate_zero, List.push_toArray, List.append_toArray, List.nil_append, List.cons_append]
  gi_wp2
  gi_loopw [11] (fun i wr => ∃ k : Nat, k ≤ ps.length ∧ i = .int .i64 k ∧ Hid (J (pieces fr to (ps.take k)) wr) ∧ Hid (Below n0 W wr)) (fun i _ => ps.length - (intOf i).toNat)
  case atStart => exact ⟨0, by omega, rfl, h0, Below.refl _ _⟩
  case round =>
    obtain ⟨k, hk, rfl, hJs, hBr⟩ := hrel
    have hnr : n0 ≤ wr.heap.size := by have := hBr.out.size; omega
    by_cases hlt : k < ps.length
    · obtain ⟨g, o, rfl, hg, c1, c2, c3⟩ := (hPW.out.below hBr.out).at_ hlt
      have cF := (hBr.out.cell (p := ⟨gf, 0, none⟩) hgf).trans hcF
      have cT := (hBr.out.cell (p := ⟨gt, 0, none⟩) hgt).trans hcT
      have hlf : gf < wr.heap.size := by omega
      have hlt' : gt < wr.heap.size := by omega
      have dF := fun o => (World.cell?_alloc_lt wr o ⟨gf, 0, none⟩ hlf).trans cF
      have dT := fun o o2 => (World.cell?_alloc_lt (wr.alloc o) o2 ⟨gt, 0, none⟩ (by simp; omega)).trans ((World.cell?_alloc_lt wr o ⟨gt, 0, none⟩ hlt').trans cT)
      have HAT := Lib.hid (pieces_at (fr := fr) (to := to) hlt)
      have HSU := Lib.hid (pieces_succ (fr := fr) (to := to) hlt)
      have HB1 := Lib.hid (((below_lnew wr (.cells (pK ps[k]) 46)).mono hnr).alloc (by simp; omega) (.cells (pK (lowP fr ps[k])) 46) |>.alloc (by simp; omega) (.cells (pK (highP to ps[k])) 46))
      have hst : Lets (fun k => k = w.heap.size + 2) wr.heap.size wr (((wr.alloc (.cells (pK ps[k]) 46)).alloc (.cells (pK (lowP fr ps[k])) 46)).alloc (.cells (pK (highP to ps[k])) 46)) :=
        ⟨rfl, rfl, rfl, by simp; omega, fun k o hk _ _ => by
          have := (Array.getElem?_eq_some_iff.1 hk).1
          exact (Below.heap_alloc _ _ k (by simp; omega)).trans ((Below.heap_alloc _ _ k (by simp; omega)).trans ((Below.heap_alloc _ _ k this).trans hk))⟩
      have HX := Lib.hid (spAt_new ((wr.alloc (.cells (pK ps[k]) 46)).alloc (.cells (pK (lowP fr ps[k])) 46)) (highP to ps[k]))
      simp only [World.size_alloc] at HX
      have HST := Lib.hid hst
      generalize hp : ps[k] = p at *
      obtain ⟨pf, pt, pa, pA, pc⟩ := p
      have HCP := Lib.hid (show cutP fr to ⟨pf, pt, pa, pA, pc⟩ = (if pf < min pt fr then [lowP fr ⟨pf, pt, pa, pA, pc⟩] else []) ++ (if max pf to < pt then [highP to ⟨pf, pt, pa, pA, pc⟩] else []) from rfl)
      rw [HCP.out] at HAT HSU
      clear HCP hst hp
      simp only [lowP, highP] at HAT HSU HB1 HX HST
      dsimp only at c1 c2 c3
      by_cases h1 : pf < min pt fr
      · rw [if_pos h1] at HAT HSU
        obtain ⟨fn, tmps, assign, body, hy, hR⟩ := hY _ ⟨pf, min pt fr, pa, pA, pc⟩ wr _ hJs.out HST.out (nxt_of (by rw [HAT.out]; simp only [List.singleton_append]; rfl))
        simp only [pK] at hy hR HST HB1 HX
        by_cases h2 : max pf to < pt
        · rw [if_pos h2] at HAT HSU
          gi_wp2
          refine hR.mono ?_
          rintro e W3 (⟨rfl, hJ3, hk3⟩ | ⟨rfl, hJx3⟩)
          · have hx3 : SpAt W3 (wr.heap.size + 1 + 1) ⟨max pf to, pt, pa, pA, pc⟩ := hk3.blk _ _ HX.out (.inr (by omega))
            have HB3 := Lib.hid (HB1.out.trans (hk3.old (n := n0) (fun _ h => .inl h) (by simp; omega)))
            have y0 := hx3.fr
            have y1 := hx3.to
            have y2 := hx3.at_
            obtain ⟨fn2, tmps2, assign2, body2, hy2, hR2⟩ := hY _ ⟨max pf to, pt, pa, pA, pc⟩ W3 W3 hJ3 (Lets.refl _) (nxt_of (by rw [HAT.out]; simp only [List.append_assoc, List.cons_append, List.nil_append]; rfl))
            simp only [pK] at hy2 hR2
            dsimp only at y0 y1 y2
            clear hk3 hx3 hR hy
            gi_wp2
            refine hR2.mono ?_
            rintro e W4 (⟨rfl, hJ4, hk4⟩ | ⟨rfl, hJx4⟩)
            · have HB4 := Lib.hid (HB3.out.trans (hk4.old (n := n0) (fun _ h => .inl h) (by have := HB3.out.size; omega)))
              clear hk4
              gi_wp2
              go_roundw
              case rel => exact ⟨k + 1, by omega, by go_num, by rw [HSU.out]; exact Lib.hid (by simpa only [List.append_assoc] using hJ4), hBr.out.trans HB4.out⟩
              case measure => simp [intOf]; omega
            · gi_wp2
              refine bodyPost_ret (results_none rfl _ _ _) rfl ?_
              exact ⟨⟨_, rfl⟩, .inr ⟨_, hJx4⟩⟩
          · gi_wp2
            refine bodyPost_ret (results_none rfl _ _ _) rfl ?_
            exact ⟨⟨_, rfl⟩, .inr ⟨_, hJx3⟩⟩
        · rw [if_neg h2] at HAT HSU
          gi_wp2
          refine hR.mono ?_
          rintro e W3 (⟨rfl, hJ3, hk3⟩ | ⟨rfl, hJx3⟩)
          · have hx3 : SpAt W3 (wr.heap.size + 1 + 1) ⟨max pf to, pt, pa, pA, pc⟩ := hk3.blk _ _ HX.out (.inr (by omega))
            have HB3 := Lib.hid (HB1.out.trans (hk3.old (n := n0) (fun _ h => .inl h) (by simp; omega)))
            have y0 := hx3.fr
            have y1 := hx3.to
            have y2 := hx3.at_
            dsimp only at y0 y1 y2
            clear hk3 hx3 hR hy
            gi_wp2
            go_roundw
            case rel => exact ⟨k + 1, by omega, by go_num, by rw [HSU.out]; exact Lib.hid (by simpa only [List.append_assoc, List.append_nil] using hJ3), hBr.out.trans HB3.out⟩
            case measure => simp [intOf]; omega
          · gi_wp2
            refine bodyPost_ret (results_none rfl _ _ _) rfl ?_
            exact ⟨⟨_, rfl⟩, .inr ⟨_, hJx3⟩⟩
      · rw [if_neg h1] at HAT HSU
        by_cases h2 : max pf to < pt
        · rw [if_pos h2] at HAT HSU
          obtain ⟨fn2, tmps2, assign2, body2, hy2, hR2⟩ := hY _ ⟨max pf to, pt, pa, pA, pc⟩ wr _ hJs.out HST.out (nxt_of (by rw [HAT.out]; simp only [List.cons_append, List.nil_append]; rfl))
          simp only [pK] at hy2 hR2 HST HB1 HX
          gi_wp2
          refine hR2.mono ?_
          rintro e W4 (⟨rfl, hJ4, hk4⟩ | ⟨rfl, hJx4⟩)
          · have HB4 := Lib.hid (HB1.out.trans (hk4.old (n := n0) (fun _ h => .inl h) (by simp; omega)))
            clear hk4
            gi_wp2
            go_roundw
            case rel => exact ⟨k + 1, by omega, by go_num, by rw [HSU.out]; exact Lib.hid (by simpa only [List.nil_append] using hJ4), hBr.out.trans HB4.out⟩
            case measure => simp [intOf]; omega
          · gi_wp2
            refine bodyPost_ret (results_none rfl _ _ _) rfl ?_
            exact ⟨⟨_, rfl⟩, .inr ⟨_, hJx4⟩⟩
        · rw [if_neg h2] at HAT HSU
          simp only [pK] at HST HB1 HX
          gi_wp2
          go_roundw
          case rel => exact ⟨k + 1, by omega, by go_num, by rw [HSU.out]; exact Lib.hid (by simpa only [List.append_nil] using hJ _ _ _ (HST.out.less (by have := hBr.out.size; omega)) hJs.out), hBr.out.trans HB1.out⟩
          case measure => simp [intOf]; omega
    · obtain rfl : k = ps.length := by omega
      gi_wp2
      go_end0
      refine ⟨⟨_, rfl⟩, .inl ⟨_, rfl, ?_⟩⟩
      have := hJs.out
      rwa [List.take_length] at this
end Go.Proofs.Ytggofdahnbchjaa
