/-
  said: spans read one by one; it keeps its word.
-/
import Derived.Test.YtggofdahnbchjaaL7J
namespace Go.Proofs.Ytggofdahnbchjaa
open Go Go.RowKit

/-- so many spans from a place on: they, the place behind, where the last one ends -/
def runS (b : List UInt8) (k0 : Nat) : Nat → Option (List Sp × Nat × Int)
  | 0 => some ([], k0, 0)
  | j + 1 => (runS b k0 j).bind fun s => (rdS b s.2.1 s.2.2).map fun q => (s.1 ++ [q.1], q.2, q.1.t)
theorem runS_succ {b : List UInt8} {k0 j k n : Nat} {ls : List Sp} {last : Int} {x : Sp} (h : runS b k0 j = some (ls, k, last)) (hr : rdS b k last = some (x, n)) : runS b k0 (j + 1) = some (ls ++ [x], n, x.t) := by
  rw [runS, h]
  simp only [Option.bind_some]
  rw [hr]
  rfl
theorem runS_stop {b : List UInt8} {k0 j k : Nat} {ls : List Sp} {last : Int} (h : runS b k0 j = some (ls, k, last)) (hr : rdS b k last = none) : runS b k0 (j + 1) = none := by
  rw [runS, h]
  simp only [Option.bind_some]
  rw [hr]
  rfl
theorem runS_none {b : List UInt8} {k0 j m : Nat} (h : runS b k0 j = none) : runS b k0 (j + m) = none := by
  induction m with
  | zero => exact h
  | succ m ih => rw [← Nat.add_assoc, runS, ih]; rfl
theorem runS_has {b : List UInt8} {k0 : Nat} (hk : k0 ≤ b.length) : ∀ {j k : Nat} {ls : List Sp} {last : Int}, runS b k0 j = some (ls, k, last) → k0 ≤ k ∧ k ≤ b.length ∧ ls.length = j ∧ 0 ≤ last ∧ last ≤ j * 33554432 ∧ ∀ x ∈ ls, x.a.length ≤ 16 ∧ ∀ y ∈ x.a, y.Rng
  | 0, k, ls, last, h => by
    simp only [runS, Option.some.injEq, Prod.mk.injEq] at h
    obtain ⟨rfl, rfl, rfl⟩ := h
    exact ⟨Nat.le_refl _, hk, rfl, by omega, by omega, fun x hx => absurd hx (by simp)⟩
  | j + 1, k, ls, last, h => by
    rw [runS] at h
    cases h1 : runS b k0 j with
    | none => rw [h1] at h; cases h
    | some s =>
      obtain ⟨ls', k', last'⟩ := s
      rw [h1] at h
      simp only [Option.bind_some] at h
      cases h2 : rdS b k' last' with
      | none => rw [h2] at h; cases h
      | some q =>
        obtain ⟨x, n⟩ := q
        rw [h2] at h
        simp only [Option.map_some, Option.some.injEq, Prod.mk.injEq] at h
        obtain ⟨rfl, rfl, rfl⟩ := h
        obtain ⟨a1, a2, a3, a4, a5, a6⟩ := runS_has hk h1
        obtain ⟨b1, b2, b3, b4, b5, b6, b7, b8, _, _⟩ := rdS_has h2
        refine ⟨by omega, by omega, by simp [a3], by omega, by omega, fun y hy => ?_⟩
        rcases List.mem_append.1 hy with hy | hy
        · exact a6 y hy
        · rw [List.mem_singleton] at hy
          subst hy
          exact ⟨b7, b8⟩
def qsp (q : Ps × Nat) : Sp := q.1.sp
/-- q is read next behind pre -/
def NxS (b : List UInt8) (k0 M B : Nat) (pre : List (Ps × Nat)) (q : Ps × Nat) (W : World) : Prop :=
  ∃ k last, runS b k0 pre.length = some (pre.map qsp, k, last) ∧ pre.length < M ∧ rdS b k last = some (q.1.sp, q.2) ∧ LOwn W B (.slice q.1.A q.1.a.length q.1.c) q.1.a
/-- all is read, or no more can be -/
def SdS (b : List UInt8) (k0 M : Nat) (xs : List (Ps × Nat)) : Prop :=
  ∃ k last, runS b k0 xs.length = some (xs.map qsp, k, last) ∧ (xs.length = M ∨ (xs.length < M ∧ rdS b k last = none))

theorem said_any (A : Option Addr) (n c : Nat) (i m : Int) (w : World) : Calls Try.prog 41 #[.slice A n c, .int .i64 i, .int .i64 m] w fun e w' =>
    e = .returned (.func (.func 58) #[] #[.pointer (some ⟨w.heap.size + 1 + 1, 0, none⟩), .pointer (some ⟨w.heap.size, 0, none⟩), .pointer (some ⟨w.heap.size + 1, 0, none⟩)]) ∧
      ((w.alloc (.cells #[.slice A n c] 22)).alloc (.cells #[.int .i64 i] 3)).alloc (.cells #[.int .i64 m] 3) = w' := by
  go_enter Try.func41, Try.ntmps41
  go_wp2
  go_ret
  exact ⟨rfl, rfl⟩

attribute [local go_sem] Oper.semAt_some wideFn wideDepth
set_option maxRecDepth 100000 in
set_option maxHeartbeats 4000000 in
theorem said_seq (gm gb ga n0 c M k0 : Nat) (A : Option Addr) (b : List UInt8) (w : World) (hgm : gm < w.heap.size) (hgb : gb < w.heap.size) (hga : ga < w.heap.size) (hna : n0 ≤ ga) (hcm : w.cell? ⟨gm, 0, none⟩ = some (.int .i64 M)) (hcb : w.cell? ⟨gb, 0, none⟩ = some (.slice A b.length c))
    (hca : Boxed w ga 3 (.int .i64 k0)) (hP : Lies w n0 A b) (hn : n0 ≤ w.heap.size) (hM : M ≤ 4000) (hk0 : k0 ≤ b.length) (hsz : b.length ≤ 1099511627776) :
    SeqC 58 #[.pointer (some ⟨gm, 0, none⟩), .pointer (some ⟨gb, 0, none⟩), .pointer (some ⟨ga, 0, none⟩)] (fun q : Ps × Nat => #[.agg (pK q.1), .int .i64 q.2]) (fun k => k = ga) (fun k => k < n0 ∨ k = gb ∨ k = ga)
      (NxS b k0 M w.heap.size) (SdS b k0 M) w := by
  intro l J Jx W hz hb hJ hJx hY h0
  have hcM := (hb.cell (p := ⟨gm, 0, none⟩) hgm).trans hcm
  have hcB := (hb.cell (p := ⟨gb, 0, none⟩) hgb).trans hcb
  have hbB := hb.block gb hgb
  have hbA : Boxed W ga 3 (.int .i64 k0) := Boxed.below hca hb hga
  have hPW := Lib.hid (hP.below (hb.mono hn))
  have hzw := hb.size
  clear hcm hcb hca hP
  have hzh := Lib.hid hz
  clear hz
  refine callsIn_of_wp Try.func58 rfl trivial ?_ rfl
  simp only [Try.ntmps58, List.size_toArray, List.length_cons, List.length_nil, Nat.reduceAdd, Nat.reduceSub, Array.replicate_succ, Array.replicate_zero, List.push_toArray, List.append_toArray, List.nil_append, List.cons_append]
  have hMi : (M : Int) ≤ 4000 := by omega
  gi_wp2
  gi_loopw [5, 10] (fun a i wr => ∃ (j k : Nat) (last : Int) (pre : List (Ps × Nat)), j ≤ M ∧ i = .int .i64 j ∧ a = .int .i64 last ∧ Hid (runS b k0 j = some (pre.map qsp, k, last)) ∧ Hid (pre.length = j) ∧ Hid (J pre wr) ∧ Hid (Below n0 W wr) ∧ Hid (Boxed wr ga 3 (.int .i64 k)) ∧ Hid (wr.cell? ⟨gb, 0, none⟩ = some (.slice A b.length c)) ∧ w.heap.size ≤ wr.heap.size) (fun _ i _ => M - (intOf i).toNat)
  case atStart => exact ⟨0, k0, 0, [], by omega, rfl, rfl, rfl, rfl, h0, Below.refl _ _, hbA, hcB, hzw⟩
  case round =>
    obtain ⟨j, k, last, pre, hj, rfl, rfl, hR, hpl, hJr, hBr, hAr, hcr, hnr⟩ := hrel
    by_cases hlt : j < M
    · obtain ⟨q1, q2, q3, q4, q5, _⟩ := runS_has hk0 hR.out
      have hcb2 := hcr.out
      have hca2 := hAr.out.cell
      have HLI := Lib.hid ((hPW.out.below hBr.out).more (show n0 ≤ wr.heap.size by omega))
      have HRD := Lib.hid (read7_any A c b k last wr q2 hsz q4 (by omega) HLI.out)
      clear q1 q3
      cases hrd : rdS b k last with
      | none =>
        rw [hrd] at HRD
        have HSD := Lib.hid (show SdS b k0 M pre from ⟨k, last, by rw [hpl.out]; exact hR.out, .inr ⟨by rw [hpl.out]; exact hlt, hrd⟩⟩)
        clear hrd
        gi_wp2_with (gi_at_call 59; refine (callsIn_wide.2 HRD.out).mono ?_; rintro e w1 ⟨hb1, rfl⟩)
        refine bodyPost_ret (results_none rfl _ _ _) rfl ?_
        exact ⟨⟨_, rfl⟩, .inl ⟨_, HSD.out, hJ _ _ _ (lets_alloc _ _) (hJ _ _ _ (lets_below hb1) hJr.out)⟩⟩
      | some q =>
        obtain ⟨⟨xf, xt, xa⟩, n⟩ := q
        rw [hrd] at HRD
        have HRS := Lib.hid (runS_succ hR.out hrd)
        have HRB := Lib.hid (rdS_has hrd)
        have hga2 : ga < wr.heap.size := by omega
        have hgb2 : gb < wr.heap.size := by omega
        clear q4 q5
        gi_wp2_with (gi_at_call 59
                     refine (callsIn_wide.2 HRD.out).mono ?_
                     rintro e w1 ⟨hb1, A1, c1, rfl, ho1⟩
                     have hz1 := hb1.size
                     have hbn := below_lnew w1 (.cells (pK ⟨xf, xt, xa, A1, c1⟩) 46)
                     have HX := Lib.hid (spAt_new w1 ⟨xf, xt, xa, A1, c1⟩)
                     have HBW := Lib.hid (hb1.trans (hbn.mono hz1))
                     have hnx : NxS b k0 M w.heap.size pre (⟨xf, xt, xa, A1, c1⟩, n) _ := ⟨k, last, by rw [hpl.out]; exact hR.out, by rw [hpl.out]; exact hlt, hrd, (ho1.below hbn).base hnr⟩
                     obtain ⟨fn, tmps, assign, body, hy, hRR⟩ := hY pre (⟨xf, xt, xa, A1, c1⟩, n) wr _ hJr.out (lets_below HBW.out) hnx
                     simp only [pK] at hy HX HBW hRR
                     clear hbn hb1 ho1)
        refine hRR.mono ?_
        rintro e W3 (⟨rfl, hJ3, hk3⟩ | ⟨rfl, hJx3⟩)
        · have hs3 : SpAt W3 w1.heap.size ⟨xf, xt, xa, A1, c1⟩ := hk3.blk _ _ HX.out (.inr hz1)
          have d1 := hs3.to
          have ha3 : Boxed W3 ga 3 (.int .i64 k) := hk3.blk _ _ ((HBW.out.block ga hga2).trans hAr.out) (.inl (.inr (.inr rfl)))
          have hc3 : W3.cell? ⟨gb, 0, none⟩ = some (.slice A b.length c) := by
            have h1 := (HBW.out.cell (p := ⟨gb, 0, none⟩) hgb2).trans hcr.out
            obtain ⟨o, ho, _⟩ := cells_of_cell h1
            exact (World.cell?_of_block ((hk3.blk _ _ ho (.inl (.inr (.inl rfl)))).trans ho.symm)).trans h1
          have ac := ha3.cell
          have af := ha3.frozen
          have hz3 := hk3.size
          simp only [World.size_alloc] at hz3
          have HB3 := Lib.hid (hBr.out.trans ((HBW.out.mono (show n0 ≤ wr.heap.size by omega)).trans (hk3.old (n := n0) (fun _ h => .inl h) (by simp; omega))))
          have HJ3 := Lib.hid (hJ _ _ _ (lets_set (E := fun k => k = ga) W3 ⟨ga, 0, none⟩ (.int .i64 n) rfl) hJ3)
          have HA3 := Lib.hid (Boxed.set (.int .i64 n) ha3)
          have HPL := Lib.hid (show (pre ++ [((⟨xf, xt, xa, A1, c1⟩ : Ps), n)]).length = j + 1 by rw [List.length_append, hpl.out]; rfl)
          have HMP := Lib.hid (show (pre ++ [((⟨xf, xt, xa, A1, c1⟩ : Ps), n)]).map qsp = pre.map qsp ++ [⟨xf, xt, xa⟩] by rw [List.map_append]; rfl)
          have HC3 := Lib.hid (show (W3.setCell ⟨ga, 0, none⟩ (.int .i64 n)).cell? ⟨gb, 0, none⟩ = some (.slice A b.length c) from by
            by_cases e : gb = ga
            · exfalso
              subst e
              rw [ac] at hc3
              cases hc3
            · exact (World.cell?_of_block (Below.heap_setCell W3 ⟨ga, 0, none⟩ (.int .i64 n) gb (fun q => e q))).trans hc3)
          dsimp only at d1
          clear hs3 hk3 ha3 hc3 hJ3
          gi_wp2
          go_roundw
          case rel => exact ⟨j + 1, n, xt, pre ++ [(⟨xf, xt, xa, A1, c1⟩, n)], by omega, by go_num, rfl, by rw [HMP.out]; exact HRS, HPL, HJ3, HB3.out.setCell (p := ⟨ga, 0, none⟩) hna _, HA3, HC3, by simp; omega⟩
          case measure => simp [intOf]; omega
        · gi_wp2
          refine bodyPost_ret (results_none rfl _ _ _) rfl ?_
          exact ⟨⟨_, rfl⟩, .inr ⟨_, hJx3⟩⟩
    · obtain rfl : j = M := by omega
      gi_wp2
      go_end0
      exact ⟨⟨_, rfl⟩, .inl ⟨_, ⟨k, last, by rw [hpl.out]; exact hR.out, .inl hpl.out⟩, hJr.out⟩⟩
end Go.Proofs.Ytggofdahnbchjaa
