/-
  joined: spans with neighbours that say the same made one, gone through; it keeps its word.
-/
import Derived.Test.YtggofdahnbchjaaL7F
namespace Go.Proofs.Ytggofdahnbchjaa
open Go Go.RowKit

/-- spans behind a first one, joined -/
def joinP : Ps → List Ps → List Ps
  | now, [] => [now]
  | now, p :: ps => if p.f = now.t ∧ p.a = now.a then joinP { now with t := p.t } ps else now :: joinP p ps
def joinQ : List Ps → List Ps
  | [] => []
  | p :: ps => joinP p ps
theorem joinP_hit {now p : Ps} {ps : List Ps} (h : p.f = now.t ∧ p.a = now.a) : joinP now (p :: ps) = joinP { now with t := p.t } ps := by rw [joinP, if_pos h]
theorem joinP_miss {now p : Ps} {ps : List Ps} (h : ¬ (p.f = now.t ∧ p.a = now.a)) : joinP now (p :: ps) = now :: joinP p ps := by rw [joinP, if_neg h]
theorem lets_set {E : Nat → Prop} {B : Nat} (A : World) (p : Addr) (v : Value) (h : E p.block) : Lets E B A (A.setCell p v) :=
  ⟨rfl, rfl, rfl, (KeepsOthers.setCell A p v).size, fun k _ hk hE _ => (Below.heap_setCell A p v k (fun e => by subst e; exact hE h)).trans hk⟩
theorem lets_below {E : Nat → Prop} {B : Nat} {A C : World} (h : Below A.heap.size A C) : Lets E B A C := ⟨h.os, h.tape, h.output, h.size, fun k _ hk _ _ => (h.block k (Array.getElem?_eq_some_iff.1 hk).1).trans hk⟩
theorem Lets.trans {E : Nat → Prop} {B : Nat} {A C D : World} (h : Lets E B A C) (k : Lets E B C D) : Lets E B A D := ⟨k.os.trans h.os, k.tape.trans h.tape, k.output.trans h.output, Nat.le_trans h.size k.size, fun i o hi hE hB => k.blk i o (h.blk i o hi hE hB) hE hB⟩
theorem joined_any (A : Option Addr) (n c : Nat) (w : World) : Calls Try.prog 48 #[.slice A n c] w fun e w' => e = .returned (.func (.func 64) #[] #[.pointer (some ⟨w.heap.size, 0, none⟩)]) ∧ w.alloc (.cells #[.slice A n c] 23) = w' := by
  go_enter Try.func48, Try.ntmps48
  go_wp2
  go_ret
  exact ⟨rfl, rfl⟩
theorem eqLocs_n (A A2 : Option Addr) (c c2 : Nat) (l l2 : List Lc) (b : Bool) (w : World) (hb : decide (l = l2) = b) (hn : l.length ≤ 1099511627776) (h : LLies w w.heap.size A l) (h2 : LLies w w.heap.size A2 l2) :
    Calls Try.prog 65 #[.slice A l.length c, .slice A2 l2.length c2] w (BoolR b w) := by rw [← hb]; exact eqLocs_any A A2 c c2 l l2 w hn h h2

attribute [local go_sem] Oper.semAt_some wideFn wideDepth
set_option maxRecDepth 100000 in
set_option maxHeartbeats 4000000 in
theorem joined_seq (gb n0 c : Nat) (A : Option Addr) (ps : List Ps) (w : World) (hgb : gb < n0) (hcap : ps.length ≤ c) (hc : w.cell? ⟨gb, 0, none⟩ = some (.slice A ps.length c)) (hP : SLies w n0 A ps) (hn : n0 ≤ w.heap.size) (hs : Sm ps) :
    SpanSeq n0 64 #[.pointer (some ⟨gb, 0, none⟩)] (joinQ ps) w := by
  intro l J Jx W hz hb hJ hJx hY h0
  have hcW := (hb.cell (p := ⟨gb, 0, none⟩) (by dsimp only; omega)).trans hc
  have hPW := Lib.hid (hP.below (hb.mono hn))
  have hzw := hb.size
  have hls := hs.1
  have HSM := Lib.hid hs
  clear hc hP hs
  cases ps with
  | nil =>
    refine callsIn_of_wp Try.func64 rfl trivial ?_ rfl
    simp only [Try.ntmps64, List.size_toArray, List.length_cons, List.length_nil, Nat.reduceAdd, Nat.reduceSub, Array.replicate_succ, Array.replicate_zero, List.push_toArray, List.append_toArray, List.nil_append, List.cons_append]
    gi_wp2
    refine bodyPost_ret (results_none rfl _ _ _) rfl ?_
    exact ⟨⟨_, rfl⟩, .inl h0⟩
  | cons p0 ps =>
    obtain ⟨g, o, rfl, hg, c1, c2, c3⟩ := hPW.out.1.at_ (j := 0) (by simp)
    have hTL := Lib.hid (show PLies W n0 (some ⟨g, o + 3, none⟩) ps from hPW.out.1.drop 1)
    simp only [List.getElem_cons_zero, Nat.zero_mul, Nat.add_zero] at c1 c2 c3
    have hlen : (p0 :: ps).length = ps.length + 1 := rfl
    rw [hlen] at hcW hcap hls
    have hM := Lib.hid hPW.out.2
    have hA := Lib.hid HSM.out.2
    clear hPW HSM hlen
    have hne : ¬ ((ps.length + 1 : Nat) : Int) = 0 := by omega
    have hX := Lib.hid (spAt_new W p0)
    have hb1 := Lib.hid ((below_lnew W (.cells (pK p0) 46)).mono (show n0 ≤ W.heap.size by omega))
    have hl1 : Lets (fun k => k = w.heap.size + 2) W.heap.size W (W.alloc (.cells (pK p0) 46)) := lets_alloc _ _
    have hJ1 := Lib.hid (hJ _ _ _ hl1 h0)
    clear hl1 h0
    have hQ : joinQ (p0 :: ps) = [] ++ joinP p0 ps := rfl
    rw [hQ] at *
    clear hQ
    have hz1 : (W.alloc (.cells (pK p0) 46)).heap.size = w.heap.size + 3 := by simp; omega
    have hlg : gb < W.heap.size := by omega
    have dS := fun o => (World.cell?_alloc_lt W o ⟨gb, 0, none⟩ hlg).trans hcW
    refine callsIn_of_wp Try.func64 rfl trivial ?_ rfl
    simp only [Try.ntmps64, List.size_toArray, List.length_cons, List.length_nil, Nat.reduceAdd, Nat.reduceSub, Array.replicate_succ, Array.replicate_zero, List.push_toArray, List.append_toArray, List.nil_append, List.cons_append]
    have hK1 := Lib.hid (And.intro hz1 hz)
    rw [hz] at hX
    have hzs := Lib.hid hz
    unfold pK at hX hb1 hJ1
    clear hz1
    by_cases hc1 : 1 = c
    · subst hc1
      obtain rfl : ps = [] := List.eq_nil_of_length_eq_zero (by omega)
      gi_wp2
      gi_loopw [15] (fun i wr => i = .int .i64 0 ∧ Hid (J [] wr) ∧ Hid (SpAt wr (w.heap.size + 2) p0)) (fun _ _ => 0)
      case atStart => exact ⟨rfl, hJ1, hX⟩
      case round =>
        obtain ⟨rfl, hJr, hXr⟩ := hrel
        obtain ⟨nf, nt, na, nA, nc⟩ := p0
        obtain ⟨fn, tmps, assign, body, hy, hR⟩ := hY [] ⟨nf, nt, na, nA, nc⟩ wr wr hJr.out (Lets.refl _) (nxt_of (r := []) rfl)
        have y0 := hXr.out.fr
        have y1 := hXr.out.to
        have y2 := hXr.out.at_
        unfold pK at hy
        dsimp only at hy y0 y1 y2
        gi_wp2
        refine hR.mono ?_
        rintro e W3 (⟨rfl, hJ3, hk3⟩ | ⟨rfl, hJx3⟩)
        · gi_wp2
          go_end0
          exact ⟨⟨_, rfl⟩, .inl ⟨_, rfl, hJ3⟩⟩
        · gi_wp2
          go_end0
          exact ⟨⟨_, rfl⟩, .inr ⟨_, hJx3⟩⟩
    have hc2 : ¬ (1 : Int) = c := by omega
    have hc3 : ¬ c = 1 := by omega
    gi_wp2
    gi_loopw [15] (fun i wr => ∃ (k : Nat) (now : Ps) (pre : List Ps), k ≤ ps.length ∧ i = .int .i64 k ∧ Hid (joinQ (p0 :: ps) = pre ++ joinP now (ps.drop k)) ∧ Hid (J pre wr) ∧ Hid (SpAt wr (w.heap.size + 2) now) ∧ Hid (Below n0 W wr) ∧ Hid (Mn W n0 now ∧ now.a.length ≤ 1099511627776)) (fun i _ => ps.length - (intOf i).toNat)
    case atStart => exact ⟨0, p0, [], by omega, rfl, rfl, hJ1, hX, hb1, hM.out p0 (by simp), hA.out p0 (by simp)⟩
    case round =>
      obtain ⟨k, ⟨nf, nt, na, nA, nc⟩, pre, hk, rfl, hE, hJr, hXr, hBr, hMr⟩ := hrel
      have hnr : w.heap.size + 3 ≤ wr.heap.size := hXr.out.lt
      by_cases hlt : k < ps.length
      · obtain ⟨g', o', e', hg', c1', c2', c3'⟩ := (hTL.out.below hBr.out).at_ hlt
        cases e'
        have hmem := List.getElem_mem hlt
        have hMp := Lib.hid (hM.out _ (List.mem_cons_of_mem _ hmem))
        have hAp := hA.out _ (List.mem_cons_of_mem _ hmem)
        have hdr := List.drop_eq_getElem_cons hlt
        rw [hdr] at hE
        clear hmem hdr
        have hX0 := Lib.hid (hXr.out.below (below_lnew wr (.cells (pK ps[k]) 46)) (by omega))
        have hS0 := Lib.hid (spAt_new wr ps[k])
        have hB0 := Lib.hid ((below_lnew wr (.cells (pK ps[k]) 46)).mono (show n0 ≤ wr.heap.size by omega))
        have hL0 : Lets (fun k => k = w.heap.size + 2) wr.heap.size wr (wr.alloc (.cells (pK ps[k]) 46)) := lets_alloc _ _
        generalize ps[k] = p at *
        obtain ⟨pf, pt, pa, pA, pc⟩ := p
        have x0 := hX0.out.fr
        have x1 := hX0.out.to
        have x2 := hX0.out.at_
        have xf := hX0.out.frozen
        unfold pK at hX0 hS0 hB0 hL0 x0 x1 x2 xf
        dsimp only at c1' c2' c3' x0 x1 x2
        have HL0 := Lib.hid hL0
        clear hL0
        by_cases h1 : pf = nt
        · subst h1
          have hMN := Lib.hid (((hMp.out.2.2).below (hBr.out.trans hB0.out)).more (show n0 ≤ (wr.heap.size + 1) by omega))
          have hMO := Lib.hid (((hMr.out.1.2.2).below (hBr.out.trans hB0.out)).more (show n0 ≤ (wr.heap.size + 1) by omega))
          by_cases h2 : pa = na
          · have hE2 := Lib.hid (show joinQ (p0 :: ps) = pre ++ joinP ⟨nf, pt, na, nA, nc⟩ (ps.drop (k + 1)) from by rw [hE.out, joinP_hit ⟨rfl, h2⟩])
            have HEQ := Lib.hid (fun w' hb1 hb2 => eqLocs_n pA nA pc nc pa na true w' (decide_eq_true h2) hAp hb1 hb2)
            clear h2
            gi_wp2_with (gi_at_call 65; refine (callsIn_wide.2 (HEQ.out _ (by simpa using hMN.out) (by simpa using hMO.out))).mono ?_; rintro e W3 ⟨rfl, hb3⟩; have hX3 := hX0.out.below hb3 (by simp; omega); have z3 := hX3.frozen; have z4 := hX3.to; have hS3 := hS0.out.below hb3 (by simp); have z5 := hS3.to; dsimp only at z5)
            have hB3 := Lib.hid (hB0.out.trans (hb3.mono (show n0 ≤ _ by simp; omega)))
            have hJ3 := Lib.hid (hJ _ _ _ ((HL0.out.less (by omega)).trans (lets_below hb3)) hJr.out)
            go_roundw
            case rel => exact ⟨k + 1, ⟨nf, pt, na, nA, nc⟩, pre, by omega, by go_num, hE2, hJ _ _ _ (lets_set _ _ _ rfl) hJ3.out, hX3.setT pt, (hBr.out.trans hB3.out).setCell (p := ⟨w.heap.size + 2, 1, none⟩) (by dsimp only; omega) _, hMr.out⟩
            case measure => simp [intOf]; omega
          · have hE2 := Lib.hid (show joinQ (p0 :: ps) = pre ++ ⟨nf, pf, na, nA, nc⟩ :: joinP ⟨pf, pt, pa, pA, pc⟩ (ps.drop (k + 1)) from by rw [hE.out, joinP_miss (fun q => h2 q.2)])
            have HEQ := Lib.hid (fun w' hb1 hb2 => eqLocs_n pA nA pc nc pa na false w' (decide_eq_false h2) hAp hb1 hb2)
            clear h2
            gi_wp2_with (gi_at_call 65; refine (callsIn_wide.2 (HEQ.out _ (by simpa using hMN.out) (by simpa using hMO.out))).mono ?_; rintro e W3 ⟨rfl, hb3⟩; have hX3 := hX0.out.below hb3 (by simp; omega); have z1 := hX3.fr; have z2 := hX3.to; have z3 := hX3.at_; have hS3 := hS0.out.below hb3 (by simp); obtain ⟨fn, tmps, assign, body, hy, hR⟩ := hY pre ⟨nf, pf, na, nA, nc⟩ wr W3 hJr.out (HL0.out.trans (lets_below hb3)) (nxt_of hE2.out); simp only [pK] at hy hR; dsimp only at z1 z2 z3)
            refine hR.mono ?_
            rintro e W4 (⟨rfl, hJ4, hk4⟩ | ⟨rfl, hJx4⟩)
            · have hX4 : SpAt W4 (w.heap.size + 2) ⟨nf, pf, na, nA, nc⟩ := hk4.blk _ _ hX3 (.inl (.inr rfl))
              have hS4 : SpAt W4 wr.heap.size ⟨pf, pt, pa, pA, pc⟩ := hk4.blk _ _ hS3 (.inr (Nat.le_refl _))
              have v0 := hS4.fr
              have v1 := hS4.to
              have v2 := hS4.at_
              have vf := hX4.frozen
              have u0 := hX4.fr
              have u1 := hX4.to
              have u2 := hX4.at_
              dsimp only at v0 v1 v2 u0 u1 u2
              have HB4 := Lib.hid ((hB0.out.trans (hb3.mono (show n0 ≤ _ by simp; omega))).trans (hk4.old (n := n0) (fun _ h => .inl h) (by have := (hB0.out.trans (hb3.mono (show n0 ≤ _ by simp; omega))).size; omega)))
              have HJ5 := Lib.hid (hJ _ _ _ (((lets_set (E := fun k => k = w.heap.size + 2) W4 ⟨w.heap.size + 2, 0, none⟩ (.int .i64 pf) (show w.heap.size + 2 = w.heap.size + 2 from rfl)).trans (lets_set (E := fun k => k = w.heap.size + 2) _ ⟨w.heap.size + 2, 1, none⟩ (.int .i64 pt) (show w.heap.size + 2 = w.heap.size + 2 from rfl))).trans (lets_set (E := fun k => k = w.heap.size + 2) _ ⟨w.heap.size + 2, 2, none⟩ (.slice pA pa.length pc) (show w.heap.size + 2 = w.heap.size + 2 from rfl))) hJ4)
              have HX5 := Lib.hid (hX4.setAll ⟨pf, pt, pa, pA, pc⟩)
              have HB5 := Lib.hid ((((hBr.out.trans HB4.out).setCell (p := ⟨w.heap.size + 2, 0, none⟩) (by dsimp only; omega) (.int .i64 pf)).setCell (p := ⟨w.heap.size + 2, 1, none⟩) (by dsimp only; omega) (.int .i64 pt)).setCell (p := ⟨w.heap.size + 2, 2, none⟩) (by dsimp only; omega) (.slice pA pa.length pc))
              gi_wp2
              go_roundw
              case rel => exact ⟨k + 1, ⟨pf, pt, pa, pA, pc⟩, pre ++ [⟨nf, pf, na, nA, nc⟩], by omega, by go_num, by rw [hE2.out, List.append_assoc, List.singleton_append]; exact Lib.hid rfl,
                HJ5, HX5,
                HB5,
                hMp.out, hAp⟩
              case measure => simp [intOf]; omega
            · gi_wp2
              refine bodyPost_ret (results_none rfl _ _ _) rfl ?_
              exact ⟨⟨_, rfl⟩, .inr ⟨_, hJx4⟩⟩
        · have hE2 := Lib.hid (show joinQ (p0 :: ps) = pre ++ ⟨nf, nt, na, nA, nc⟩ :: joinP ⟨pf, pt, pa, pA, pc⟩ (ps.drop (k + 1)) from by rw [hE.out, joinP_miss (fun q => h1 q.1)])
          obtain ⟨fn, tmps, assign, body, hy, hR⟩ := hY pre ⟨nf, nt, na, nA, nc⟩ wr _ hJr.out HL0.out (nxt_of hE2.out)
          simp only [pK] at hy hR
          gi_wp2
          refine hR.mono ?_
          rintro e W4 (⟨rfl, hJ4, hk4⟩ | ⟨rfl, hJx4⟩)
          · have hX4 : SpAt W4 (w.heap.size + 2) ⟨nf, nt, na, nA, nc⟩ := hk4.blk _ _ hX0.out (.inl (.inr rfl))
            have hS4 : SpAt W4 wr.heap.size ⟨pf, pt, pa, pA, pc⟩ := hk4.blk _ _ hS0.out (.inr (Nat.le_refl _))
            have v0 := hS4.fr
            have v1 := hS4.to
            have v2 := hS4.at_
            have vf := hX4.frozen
            have u0 := hX4.fr
            have u1 := hX4.to
            have u2 := hX4.at_
            dsimp only at v0 v1 v2 u0 u1 u2
            have HB4 := Lib.hid (hB0.out.trans (hk4.old (n := n0) (fun _ h => .inl h) (by have := hB0.out.size; omega)))
            have HJ5 := Lib.hid (hJ _ _ _ (((lets_set (E := fun k => k = w.heap.size + 2) W4 ⟨w.heap.size + 2, 0, none⟩ (.int .i64 pf) (show w.heap.size + 2 = w.heap.size + 2 from rfl)).trans (lets_set (E := fun k => k = w.heap.size + 2) _ ⟨w.heap.size + 2, 1, none⟩ (.int .i64 pt) (show w.heap.size + 2 = w.heap.size + 2 from rfl))).trans (lets_set (E := fun k => k = w.heap.size + 2) _ ⟨w.heap.size + 2, 2, none⟩ (.slice pA pa.length pc) (show w.heap.size + 2 = w.heap.size + 2 from rfl))) hJ4)
            have HX5 := Lib.hid (hX4.setAll ⟨pf, pt, pa, pA, pc⟩)
            have HB5 := Lib.hid ((((hBr.out.trans HB4.out).setCell (p := ⟨w.heap.size + 2, 0, none⟩) (by dsimp only; omega) (.int .i64 pf)).setCell (p := ⟨w.heap.size + 2, 1, none⟩) (by dsimp only; omega) (.int .i64 pt)).setCell (p := ⟨w.heap.size + 2, 2, none⟩) (by dsimp only; omega) (.slice pA pa.length pc))
            gi_wp2
            go_roundw
            case rel => exact ⟨k + 1, ⟨pf, pt, pa, pA, pc⟩, pre ++ [⟨nf, nt, na, nA, nc⟩], by omega, by go_num, by rw [hE2.out, List.append_assoc, List.singleton_append]; exact Lib.hid rfl,
                HJ5, HX5,
                HB5,
                hMp.out, hAp⟩
            case measure => simp [intOf]; omega
          · gi_wp2
            refine bodyPost_ret (results_none rfl _ _ _) rfl ?_
            exact ⟨⟨_, rfl⟩, .inr ⟨_, hJx4⟩⟩
      · obtain rfl : k = ps.length := by omega
        have hE2 := Lib.hid (show joinQ (p0 :: ps) = pre ++ [⟨nf, nt, na, nA, nc⟩] from by rw [hE.out, List.drop_length]; rfl)
        obtain ⟨fn, tmps, assign, body, hy, hR⟩ := hY pre ⟨nf, nt, na, nA, nc⟩ wr wr hJr.out (Lets.refl _) (nxt_of hE2.out)
        have y0 := hXr.out.fr
        have y1 := hXr.out.to
        have y2 := hXr.out.at_
        unfold pK at hy
        dsimp only at hy y0 y1 y2
        gi_wp2
        refine hR.mono ?_
        rintro e W3 (⟨rfl, hJ3, hk3⟩ | ⟨rfl, hJx3⟩)
        · gi_wp2
          go_end0
          exact ⟨⟨_, rfl⟩, .inl ⟨_, hE2.out.symm, hJ3⟩⟩
        · gi_wp2
          go_end0
          exact ⟨⟨_, rfl⟩, .inr ⟨_, hJx3⟩⟩
end Go.Proofs.Ytggofdahnbchjaa
