/-
  Merged for a claim: C5L.
-/
import Derived.Test.YtdnpoeegefkoiaaGreatFC5K
import Derived.Test.YtdnpoeegefkoiaaGreatFC5H
import Derived.Test.YtdnpoeegefkoiaaGreatFC4M
import Derived.Test.YtdnpoeegefkoiaaGreatFJ4
import Derived.RegionTactic
import Derived.Deep.RegionHeld3
namespace Go.Proofs.YtdnpoeegefkoiaaGreat
open Go Go.RowKit

def NewD (code : List UInt8) (start words : Int) (input : List Int) (w : World) (e : Ending) (w' : World) : Prop :=
  ∃ g p, e = .returned (.tuple #[.pointer (some ⟨g, 0, none⟩), .int .i64 0]) ∧ DIn w' (grow none_ w w') g (m0 code start words input) p ∧ Below w.heap.size w w'
set_option maxRecDepth 100000 in
set_option maxHeartbeats 400000 in
theorem dnew_bad (A A2 : Option Addr) (c k c2 n : Nat) (start words : Int) (w : World) (h : ¬ newOk n start words) :
    Calls Tryz.prog 9 #[.slice A n c, .int .i64 start, .int .i64 words, .slice A2 k c2] w (NewBad w) := by
  by_cases h1 : (n : Int) ≤ 1048576
  · by_cases h2 : 0 ≤ start
    · by_cases h3 : start ≤ n
      · by_cases h4 : 1 ≤ words
        · have h5 : ¬ words ≤ 65536 := fun h5 => h ⟨h1, h2, h3, h4, h5⟩
          clear h
          go_enter Tryz.func9, Tryz.ntmps9
          go_wp2_with fail
          go_ret2
          exact ⟨rfl, rfl⟩
        · clear h
          go_enter Tryz.func9, Tryz.ntmps9
          go_wp2_with fail
          go_ret2
          exact ⟨rfl, rfl⟩
      · clear h
        go_enter Tryz.func9, Tryz.ntmps9
        go_wp2_with fail
        go_ret2
        exact ⟨rfl, rfl⟩
    · clear h
      go_enter Tryz.func9, Tryz.ntmps9
      go_wp2_with fail
      go_ret2
      exact ⟨rfl, rfl⟩
  · clear h
    go_enter Tryz.func9, Tryz.ntmps9
    go_wp2_with fail
    go_ret2
    exact ⟨rfl, rfl⟩

/-- a machine that was just made -/
theorem dnew_in {w W : World} {g gr gw : Nat} {vc : Value} {code : List UInt8} {start : Int} {n : Nat} {B : Nat} (hself : W.heap[g]? = some (.cells #[vc, .int .i64 start, .slice (some ⟨gr, 0, none⟩) 16 16, .slice (some ⟨gw, 0, none⟩) n n, .slice none 0 0, .slice none 0 0, .int .u8 0, .int .i64 0] 42 (0, 0)))
    (hg : w.heap.size ≤ g) (hgr : w.heap.size ≤ gr) (hgw : w.heap.size ≤ gw) (e1 : gr ≠ g) (e2 : gw ≠ g) (e3 : gr ≠ gw) (hc : Own W B vc code) (hcB : ∀ k, vc.ownBlock = some k → w.heap.size ≤ k ∧ k ≠ g ∧ k ≠ gr ∧ k ≠ gw)
    (hr : W.heap[gr]? = some (zrow 16)) (hw : W.heap[gw]? = some (zrow n)) : ∃ p, DIn W (grow none_ w W) g ⟨code, start, List.replicate 16 0, List.replicate n 0, [], [], 0, 0⟩ p ∧ p.gr = gr := by
  have hlt : ∀ k o, W.heap[k]? = some o → k < W.heap.size := fun k o h => by
    rcases Nat.lt_or_ge k W.heap.size with h' | h'
    · exact h'
    · rw [Array.getElem?_eq_none h'] at h; cases h
  obtain ⟨A, c, rfl, h1, h2⟩ := own_lst (S := grow none_ w W) (no := fun k => k ≠ g ∧ k ≠ gr ∧ k ≠ gw) hc (fun k e => ⟨.inr ⟨(hcB k e).1, (hc.lt k e).2⟩, (hcB k e).2⟩)
  refine ⟨⟨A, c, gr, gw, .slice Option.none 0 0, .slice Option.none 0 0⟩, ⟨fun k hk => ?_, .inr ⟨hg, hlt _ _ hself⟩, ?_, by simp, h2, h1, .inr ⟨hgr, hlt _ _ hr⟩, .inr ⟨hgw, hlt _ _ hw⟩, e1, e2, e3, zrow_blk hr, zrow_blk hw, World.ownsRow_nil W 0 _ _, World.ownsRow_nil W 0 _ _, fun k e => (by cases e), fun k e => (by cases e)⟩, rfl⟩
  · rcases hk with h | h
    · exact absurd h (fun h => h)
    · exact h.2
  · rw [hself]
    simp [dC]
set_option maxRecDepth 100000 in
set_option maxHeartbeats 4000000 in
theorem dnew_good (A A2 : Option Addr) (c c2 : Nat) (code : List UInt8) (input : List Int) (start : Int) (n : Nat) (w : World) (hcode : Lies w w.heap.size A code) (hin : ILs w A2 input) (hc2 : A2 = none → c2 = 0) (hlen : input.length ≤ 1099511627776)
    (h1 : (code.length : Int) ≤ 1048576) (h2 : 0 ≤ start) (h3 : start ≤ code.length) (h4 : (1 : Int) ≤ n) (h5 : (n : Int) ≤ 65536) :
    Calls Tryz.prog 9 #[.slice A code.length c, .int .i64 start, .int .i64 n, .slice A2 input.length c2] w (NewD code start n input w) := by
  have HC := Lib.hid (fun (W : World) (hb : Below w.heap.size w W) => copyBytes_any A c code W (by omega) ((hcode.below hb).more hb.size))
  have HI := Lib.hid (fun (W : World) (hb : Below w.heap.size w W) => hin.below hb)
  have HLEN := Lib.hid hlen
  have HC2 := Lib.hid hc2
  have hmk := run_makeI n (by omega)
  have hmk16 : ∀ w : World, (Instr.makeSlice 24 (.int .i64 16) (.int .i64 16)).run Tryz.prog w = .ok (.slice (some ⟨w.heap.size, 0, none⟩) 16 16) (w.alloc (zrow 16)) := run_makeI 16 (by omega)
  have HQ0 := Lib.hid (Below.refl w.heap.size w).drew
  clear hcode hin hlen hc2
  unfold Made at HC
  go_enter Tryz.func9, Tryz.ntmps9
  go_wp2_with fail
  refine wp_region_held_drew (S := fun _ => True) (by kernel_rfl) (by exact trivial) (fun hHeld => ?_)
  generalize w.drew = W0 at *
  refine wpAnyH_take (i := 0) (v := ?_) rfl (by kernel_rfl) (by kernel_rfl) (by kernel_rfl) (fun _ _ _ h => h) (Or.inl ⟨by rfl, ?hyo0⟩) (by assumption) ?resto0
  case hyo0 => (intro W hSw; (try dsimp only at hSw); go_simp; try (with_reducible rfl))
  (try simp only [Act.put, List.setIfInBounds_toArray])
  refine wpAnyH_take (i := 2) (v := ?_) rfl (by kernel_rfl) (by kernel_rfl) (by kernel_rfl) (fun _ _ _ h => h) (Or.inl ⟨by rfl, ?hyo2⟩) (by assumption) ?resto2
  case hyo2 => (intro W hSw; (try dsimp only at hSw); go_simp; try (with_reducible rfl))
  (try simp only [Act.put])
  refine wpAnyH_take (i := 4) (v := ?_) rfl (by kernel_rfl) (by kernel_rfl) (by kernel_rfl) (fun _ _ _ h => h) (Or.inl ⟨by rfl, ?hyo4⟩) (by assumption) ?resto4
  case hyo4 => (intro W hSw; (try dsimp only at hSw); go_simp; try (with_reducible rfl))
  (try simp only [Act.put])
  have HZ0 := Lib.hid (Nat.le_refl W0.heap.size)
  refine wpAnyH_ready (rs := [1, 3, 5]) (by kernel_rfl) (by simp) ?_
  refine AllReadyH.cons rfl (fun K hK => ?_) (AllReadyH.cons rfl (fun K hK => ?_) (AllReadyH.cons rfl (fun K hK => ?_) AllReadyH.nil))
  · go_simp
    go_at_call 7
    refine (HC.out _ HQ0.out).mono ?_
    rintro e W1 ⟨v1, rfl, ho1, hb1⟩
    have HO1 := Lib.hid ho1
    have HOL1 := Lib.hid (fun j e => (show W0.heap.size ≤ j ∧ j < W1.heap.size from ho1.lt j e))
    obtain ⟨A1, z1, hv1, -⟩ := ho1.form
    subst hv1
    clear ho1
    go_wp2_with fail
    have HZ1 := Lib.hid hb1.size
    have HQ1 := Lib.hid (HQ0.out.trans (hb1.mono HQ0.out.size))
    clear hb1
    refine hK.out _ _ (by exact trivial) (fun hHeld => ?_)
    clear hK K
    (try simp only [Act.put, List.setIfInBounds_toArray, List.set_cons_zero, List.set_cons_succ])
    refine wpAnyH_ready (rs := [3, 5]) (by kernel_rfl) (by simp) ?_
    refine AllReadyH.cons rfl (fun K hK => ?_) (AllReadyH.cons rfl (fun K hK => ?_) AllReadyH.nil)
    · go_simp
      have hb2 := below_box W1 (zrow 16)
      have HM2 := Lib.hid (heap_alloc_new W1 (zrow 16))
      have HML2 := Lib.hid (show W1.heap.size < (W1.alloc (zrow 16)).heap.size by simp)
      generalize W1.alloc (zrow 16) = W2 at *
      have HO2 := Lib.hid (HO1.out.below hb2)
      have HZ2 := Lib.hid hb2.size
      have HQ2 := Lib.hid (HQ1.out.trans (hb2.mono HQ1.out.size))
      clear hb2
      refine hK.out _ _ (by exact trivial) (fun hHeld => ?_)
      clear hK K
      (try simp only [Act.put, List.setIfInBounds_toArray, List.set_cons_zero, List.set_cons_succ])
      refine wpAnyH_ready (rs := [5]) (by kernel_rfl) (by simp) ?_
      refine AllReadyH.cons rfl (fun K hK => ?_) AllReadyH.nil
      go_simp
      have hb3 := below_box W2 (zrow n)
      have HM3 := Lib.hid (heap_alloc_new W2 (zrow n))
      have HML3 := Lib.hid (show W2.heap.size < (W2.alloc (zrow n)).heap.size by simp)
      generalize W2.alloc (zrow n) = W3 at *
      have HM3R := Lib.hid ((hb3.block (W1.heap.size) (Nat.lt_of_lt_of_le HML2.out (by exact Nat.le_refl _))).trans HM2.out)
      have HO3 := Lib.hid (HO2.out.below hb3)
      have HZ3 := Lib.hid hb3.size
      have HQ3 := Lib.hid (HQ2.out.trans (hb3.mono HQ2.out.size))
      clear hb3
      refine hK.out _ _ (by exact trivial) (fun hHeld => ?_)
      clear hK K
      (try simp only [Act.put, List.setIfInBounds_toArray, List.set_cons_zero, List.set_cons_succ])
      refine wpAnyH_take (i := 6) (v := ?_) rfl (by kernel_rfl) (by kernel_rfl) (by kernel_rfl) (fun _ _ _ h => h) (Or.inl ⟨by rfl, ?hype3⟩) (by assumption) ?restpe3
      case hype3 => (intro W hSw; (try dsimp only at hSw); go_simp; try (with_reducible rfl))
      (try simp only [Act.put, List.setIfInBounds_toArray])
      refine wpAnyH_ready (rs := [7]) (by kernel_rfl) (by simp) ?_
      refine AllReadyH.cons rfl (fun K hK => ?_) AllReadyH.nil
      go_simp
      have hb4 := below_box W3 (.cells #[.slice A1 code.length z1, .int .i64 start, .slice (some ⟨W1.heap.size, 0, none⟩) 16 16, .slice (some ⟨W2.heap.size, 0, none⟩) n n, .slice none 0 0, .slice none 0 0, .int .u8 0, .int .i64 0] 42)
      have hQ := HQ3.out
      have hq0 := HQ0.out.size
      have hz1 := HZ1.out
      have hz2 := HZ2.out
      have hz3 := HZ3.out
      have hr := HML2.out
      have hw := HML3.out
      have hol := HOL1.out
      obtain ⟨p, hD, hp⟩ := dnew_in (w := w) (heap_alloc_new W3 (.cells #[.slice A1 code.length z1, .int .i64 start, .slice (some ⟨W1.heap.size, 0, none⟩) 16 16, .slice (some ⟨W2.heap.size, 0, none⟩) n n, .slice none 0 0, .slice none 0 0, .int .u8 0, .int .i64 0] 42)) hQ.size (by omega) (by omega) (by omega) (by omega) (by omega) (HO3.out.below hb4) (fun j e => by have := hol j e; refine ⟨by omega, by omega, by omega, by omega⟩) ((hb4.block _ (by omega)).trans HM3R.out) ((hb4.block _ (by omega)).trans HM3.out)
      have hb5 := hQ.trans (hb4.mono hQ.size)
      clear hb4 hQ hq0 hz1 hz2 hz3 hr hw hol
      have HD := Lib.hid hD
      have HP := Lib.hid hp
      have HB5 := Lib.hid hb5
      clear hD hp hb5
      refine hK.out _ _ (by exact trivial) (fun hHeld => ?_)
      clear hK K
      (try simp only [Act.put, List.setIfInBounds_toArray, List.set_cons_zero, List.set_cons_succ])
      refine wpAnyH_take (i := 8) (v := ?_) rfl (by kernel_rfl) (by kernel_rfl) (by kernel_rfl) (fun _ _ _ h => h) (Or.inl ⟨by rfl, ?hyre3⟩) (by assumption) ?restre3
      case hyre3 => (intro W hSw; (try dsimp only at hSw); go_simp; try (with_reducible rfl))
      (try simp only [Act.put, List.setIfInBounds_toArray])
      refine wpAnyH_done (by kernel_rfl) ?_ _
      go_simp
      clear hHeld
      generalize W3.alloc (.cells #[.slice A1 code.length z1, .int .i64 start, .slice (some ⟨W1.heap.size, 0, none⟩) 16 16, .slice (some ⟨W2.heap.size, 0, none⟩) n n, .slice none 0 0, .slice none 0 0, .int .u8 0, .int .i64 0] 42) = W9 at *
      generalize W3.heap.size = g at *
      have HE := Lib.hid (irow_new W9)
      have hb9 := below_box W9 (.cells #[] 2)
      have HD9 := Lib.hid (HD.out.below hb9)
      have HQ9 := Lib.hid (HB5.out.trans (hb9.mono HB5.out.size))
      have HS9 := Lib.hid (show (W9.alloc (.cells #[] 2)).heap.size = W9.heap.size + 1 by simp)
      have hl9 := HD.out.lt
      clear hb9
      go_wp2_with (at_builtin
                   refine app_any _ rfl (.tmp 41) (.tmp 42) rfl _ [] rfl HE.out A2 c2 input rfl HC2.out (HI.out _ HQ9.out) (by have := HLEN.out; simp; omega) ?_
                   intro v2 w2 h2 g2 o2
                   have HS2 := Lib.hid (show W9.heap.size + 1 ≤ w2.heap.size from by have := g2.size; rw [HS9.out] at this; exact this)
                   have HD2 := Lib.hid (HD9.out.same (fun k hS => g2.block k (HD9.out.lt k hS) (fun e => by have q := hl9 k hS; have e2 : k = W9.heap.size := Option.some.inj e; omega)) g2.size)
                   have HK2 := Lib.hid (HQ9.out.grown g2 (by have := HB5.out.size; have := HS9.out; omega) (fun j e => by have e2 : W9.heap.size = j := Option.some.inj e; have := HB5.out.size; omega))
                   have HO2 := Lib.hid (fun k (e : v2.ownBlock = some k) => show W9.heap.size ≤ k ∧ k < w2.heap.size from ⟨own_new o2 (Nat.le_refl _) (by rw [HS9.out]; omega) e, IRow.lt h2 k e⟩)
                   have H2 := Lib.hid h2
                   obtain ⟨A5, c5', e5, _⟩ := h2.ils
                   have HE5 := Lib.hid e5
                   obtain ⟨c0, c1, cR, c3, c4, c5, c6, c7⟩ := HD2.out.cells
                   have f4 := HD2.out.frozen 4
                   have fr := HD2.out.frozenR 15
                   have cr := HD2.out.reg (r := 15) (by omega)
                   have lg := HD2.out.lt _ HD2.out.mem
                   have lr := HD2.out.lt _ HD2.out.grS
                   have n1 := HD2.out.grg
                   rw [e5]
                   clear h2 g2 o2 e5 hl9 c0 c1 c3 c5 c6 c7)
      go_ret2
      have hst : ∀ k, v2.ownBlock = some k → still3 g p k := fun k e => by
        have q := (HO2.out k e).1
        have a1 := HD.out.lt _ HD.out.mem
        have a2 := HD.out.lt _ HD.out.grS
        have a3 := HD.out.lt _ HD.out.gwS
        exact ⟨by omega, by omega, by omega⟩
      have hsz := HB5.out.size
      have HF := ((HD2.out.more (S' := grow none_ w w2) (fun k hs => by rcases hs with q | q; exact .inl q; exact .inr ⟨q.1, by have := q.2; have := HS2.out; omega⟩) (grow_lt (fun k h => absurd h (fun h => h)) HK2.out.size)).setIn v2 input (by simpa using H2.out) (fun k e => ⟨.inr ⟨by have := (HO2.out k e).1; omega, (HO2.out k e).2⟩, hst k e⟩)).setReg (r := 15) (by omega) n
      rw [HE5.out] at HF
      refine ⟨g, _, rfl, HF.more (fun k hs => by rcases hs with q | q; exact .inl q; exact .inr ⟨q.1, by have := q.2; simpa [World.setCell] using this⟩) (grow_lt (fun k h => absurd h (fun h => h)) (by have := HK2.out.size; simpa [World.setCell] using this)), ?_⟩
      exact ((HK2.out.setCell (by have := HD.out.mem; rcases this with q | q; exact absurd q (fun h => h); exact q.1) _).setCell (by have := HD.out.grS; rcases this with q | q; exact absurd q (fun h => h); exact q.1) _)
    · go_simp
      have hb4 := below_box W1 (zrow n)
      have HM4 := Lib.hid (heap_alloc_new W1 (zrow n))
      have HML4 := Lib.hid (show W1.heap.size < (W1.alloc (zrow n)).heap.size by simp)
      generalize W1.alloc (zrow n) = W4 at *
      have HO4 := Lib.hid (HO1.out.below hb4)
      have HZ4 := Lib.hid hb4.size
      have HQ4 := Lib.hid (HQ1.out.trans (hb4.mono HQ1.out.size))
      clear hb4
      refine hK.out _ _ (by exact trivial) (fun hHeld => ?_)
      clear hK K
      (try simp only [Act.put, List.setIfInBounds_toArray, List.set_cons_zero, List.set_cons_succ])
      refine wpAnyH_ready (rs := [3]) (by kernel_rfl) (by simp) ?_
      refine AllReadyH.cons rfl (fun K hK => ?_) AllReadyH.nil
      go_simp
      have hb5 := below_box W4 (zrow 16)
      have HM5 := Lib.hid (heap_alloc_new W4 (zrow 16))
      have HML5 := Lib.hid (show W4.heap.size < (W4.alloc (zrow 16)).heap.size by simp)
      generalize W4.alloc (zrow 16) = W5 at *
      have HM5V := Lib.hid ((hb5.block (W1.heap.size) (Nat.lt_of_lt_of_le HML4.out (by exact Nat.le_refl _))).trans HM4.out)
      have HO5 := Lib.hid (HO4.out.below hb5)
      have HZ5 := Lib.hid hb5.size
      have HQ5 := Lib.hid (HQ4.out.trans (hb5.mono HQ4.out.size))
      clear hb5
      refine hK.out _ _ (by exact trivial) (fun hHeld => ?_)
      clear hK K
      (try simp only [Act.put, List.setIfInBounds_toArray, List.set_cons_zero, List.set_cons_succ])
      refine wpAnyH_take (i := 6) (v := ?_) rfl (by kernel_rfl) (by kernel_rfl) (by kernel_rfl) (fun _ _ _ h => h) (Or.inl ⟨by rfl, ?hype5⟩) (by assumption) ?restpe5
      case hype5 => (intro W hSw; (try dsimp only at hSw); go_simp; try (with_reducible rfl))
      (try simp only [Act.put, List.setIfInBounds_toArray])
      refine wpAnyH_ready (rs := [7]) (by kernel_rfl) (by simp) ?_
      refine AllReadyH.cons rfl (fun K hK => ?_) AllReadyH.nil
      go_simp
      have hb4 := below_box W5 (.cells #[.slice A1 code.length z1, .int .i64 start, .slice (some ⟨W4.heap.size, 0, none⟩) 16 16, .slice (some ⟨W1.heap.size, 0, none⟩) n n, .slice none 0 0, .slice none 0 0, .int .u8 0, .int .i64 0] 42)
      have hQ := HQ5.out
      have hq0 := HQ0.out.size
      have hz1 := HZ1.out
      have hz4 := HZ4.out
      have hz5 := HZ5.out
      have hr := HML5.out
      have hw := HML4.out
      have hol := HOL1.out
      obtain ⟨p, hD, hp⟩ := dnew_in (w := w) (heap_alloc_new W5 (.cells #[.slice A1 code.length z1, .int .i64 start, .slice (some ⟨W4.heap.size, 0, none⟩) 16 16, .slice (some ⟨W1.heap.size, 0, none⟩) n n, .slice none 0 0, .slice none 0 0, .int .u8 0, .int .i64 0] 42)) hQ.size (by omega) (by omega) (by omega) (by omega) (by omega) (HO5.out.below hb4) (fun j e => by have := hol j e; refine ⟨by omega, by omega, by omega, by omega⟩) ((hb4.block _ (by omega)).trans HM5.out) ((hb4.block _ (by omega)).trans HM5V.out)
      have hb5 := hQ.trans (hb4.mono hQ.size)
      clear hb4 hQ hq0 hz1 hz4 hz5 hr hw hol
      have HD := Lib.hid hD
      have HP := Lib.hid hp
      have HB5 := Lib.hid hb5
      clear hD hp hb5
      refine hK.out _ _ (by exact trivial) (fun hHeld => ?_)
      clear hK K
      (try simp only [Act.put, List.setIfInBounds_toArray, List.set_cons_zero, List.set_cons_succ])
      refine wpAnyH_take (i := 8) (v := ?_) rfl (by kernel_rfl) (by kernel_rfl) (by kernel_rfl) (fun _ _ _ h => h) (Or.inl ⟨by rfl, ?hyre5⟩) (by assumption) ?restre5
      case hyre5 => (intro W hSw; (try dsimp only at hSw); go_simp; try (with_reducible rfl))
      (try simp only [Act.put, List.setIfInBounds_toArray])
      refine wpAnyH_done (by kernel_rfl) ?_ _
      go_simp
      clear hHeld
      generalize W5.alloc (.cells #[.slice A1 code.length z1, .int .i64 start, .slice (some ⟨W4.heap.size, 0, none⟩) 16 16, .slice (some ⟨W1.heap.size, 0, none⟩) n n, .slice none 0 0, .slice none 0 0, .int .u8 0, .int .i64 0] 42) = W9 at *
      generalize W5.heap.size = g at *
      have HE := Lib.hid (irow_new W9)
      have hb9 := below_box W9 (.cells #[] 2)
      have HD9 := Lib.hid (HD.out.below hb9)
      have HQ9 := Lib.hid (HB5.out.trans (hb9.mono HB5.out.size))
      have HS9 := Lib.hid (show (W9.alloc (.cells #[] 2)).heap.size = W9.heap.size + 1 by simp)
      have hl9 := HD.out.lt
      clear hb9
      go_wp2_with (at_builtin
                   refine app_any _ rfl (.tmp 41) (.tmp 42) rfl _ [] rfl HE.out A2 c2 input rfl HC2.out (HI.out _ HQ9.out) (by have := HLEN.out; simp; omega) ?_
                   intro v2 w2 h2 g2 o2
                   have HS2 := Lib.hid (show W9.heap.size + 1 ≤ w2.heap.size from by have := g2.size; rw [HS9.out] at this; exact this)
                   have HD2 := Lib.hid (HD9.out.same (fun k hS => g2.block k (HD9.out.lt k hS) (fun e => by have q := hl9 k hS; have e2 : k = W9.heap.size := Option.some.inj e; omega)) g2.size)
                   have HK2 := Lib.hid (HQ9.out.grown g2 (by have := HB5.out.size; have := HS9.out; omega) (fun j e => by have e2 : W9.heap.size = j := Option.some.inj e; have := HB5.out.size; omega))
                   have HO2 := Lib.hid (fun k (e : v2.ownBlock = some k) => show W9.heap.size ≤ k ∧ k < w2.heap.size from ⟨own_new o2 (Nat.le_refl _) (by rw [HS9.out]; omega) e, IRow.lt h2 k e⟩)
                   have H2 := Lib.hid h2
                   obtain ⟨A5, c5', e5, _⟩ := h2.ils
                   have HE5 := Lib.hid e5
                   obtain ⟨c0, c1, cR, c3, c4, c5, c6, c7⟩ := HD2.out.cells
                   have f4 := HD2.out.frozen 4
                   have fr := HD2.out.frozenR 15
                   have cr := HD2.out.reg (r := 15) (by omega)
                   have lg := HD2.out.lt _ HD2.out.mem
                   have lr := HD2.out.lt _ HD2.out.grS
                   have n1 := HD2.out.grg
                   rw [e5]
                   clear h2 g2 o2 e5 hl9 c0 c1 c3 c5 c6 c7)
      go_ret2
      have hst : ∀ k, v2.ownBlock = some k → still3 g p k := fun k e => by
        have q := (HO2.out k e).1
        have a1 := HD.out.lt _ HD.out.mem
        have a2 := HD.out.lt _ HD.out.grS
        have a3 := HD.out.lt _ HD.out.gwS
        exact ⟨by omega, by omega, by omega⟩
      have hsz := HB5.out.size
      have HF := ((HD2.out.more (S' := grow none_ w w2) (fun k hs => by rcases hs with q | q; exact .inl q; exact .inr ⟨q.1, by have := q.2; have := HS2.out; omega⟩) (grow_lt (fun k h => absurd h (fun h => h)) HK2.out.size)).setIn v2 input (by simpa using H2.out) (fun k e => ⟨.inr ⟨by have := (HO2.out k e).1; omega, (HO2.out k e).2⟩, hst k e⟩)).setReg (r := 15) (by omega) n
      rw [HE5.out] at HF
      refine ⟨g, _, rfl, HF.more (fun k hs => by rcases hs with q | q; exact .inl q; exact .inr ⟨q.1, by have := q.2; simpa [World.setCell] using this⟩) (grow_lt (fun k h => absurd h (fun h => h)) (by have := HK2.out.size; simpa [World.setCell] using this)), ?_⟩
      exact ((HK2.out.setCell (by have := HD.out.mem; rcases this with q | q; exact absurd q (fun h => h); exact q.1) _).setCell (by have := HD.out.grS; rcases this with q | q; exact absurd q (fun h => h); exact q.1) _)
  · go_simp
    have hb6 := below_box W0 (zrow 16)
    have HM6 := Lib.hid (heap_alloc_new W0 (zrow 16))
    have HML6 := Lib.hid (show W0.heap.size < (W0.alloc (zrow 16)).heap.size by simp)
    generalize W0.alloc (zrow 16) = W6 at *
    have HZ6 := Lib.hid hb6.size
    have HQ6 := Lib.hid (HQ0.out.trans (hb6.mono HQ0.out.size))
    clear hb6
    refine hK.out _ _ (by exact trivial) (fun hHeld => ?_)
    clear hK K
    (try simp only [Act.put, List.setIfInBounds_toArray, List.set_cons_zero, List.set_cons_succ])
    refine wpAnyH_ready (rs := [1, 5]) (by kernel_rfl) (by simp) ?_
    refine AllReadyH.cons rfl (fun K hK => ?_) (AllReadyH.cons rfl (fun K hK => ?_) AllReadyH.nil)
    · go_simp
      go_at_call 7
      refine (HC.out _ HQ6.out).mono ?_
      rintro e W7 ⟨v7, rfl, ho7, hb7⟩
      have HO7 := Lib.hid ho7
      have HOL7 := Lib.hid (fun j e => (show W6.heap.size ≤ j ∧ j < W7.heap.size from ho7.lt j e))
      obtain ⟨A7, z7, hv7, -⟩ := ho7.form
      subst hv7
      clear ho7
      go_wp2_with fail
      have HM7R := Lib.hid ((hb7.block (W0.heap.size) (Nat.lt_of_lt_of_le HML6.out (by exact Nat.le_refl _))).trans HM6.out)
      have HZ7 := Lib.hid hb7.size
      have HQ7 := Lib.hid (HQ6.out.trans (hb7.mono HQ6.out.size))
      clear hb7
      refine hK.out _ _ (by exact trivial) (fun hHeld => ?_)
      clear hK K
      (try simp only [Act.put, List.setIfInBounds_toArray, List.set_cons_zero, List.set_cons_succ])
      refine wpAnyH_ready (rs := [5]) (by kernel_rfl) (by simp) ?_
      refine AllReadyH.cons rfl (fun K hK => ?_) AllReadyH.nil
      go_simp
      have hb8 := below_box W7 (zrow n)
      have HM8 := Lib.hid (heap_alloc_new W7 (zrow n))
      have HML8 := Lib.hid (show W7.heap.size < (W7.alloc (zrow n)).heap.size by simp)
      generalize W7.alloc (zrow n) = W8 at *
      have HM8R := Lib.hid ((hb8.block (W0.heap.size) (Nat.lt_of_lt_of_le HML6.out (by first | exact Nat.le_refl _ | (have := HZ7.out; omega)))).trans HM7R.out)
      have HO8 := Lib.hid (HO7.out.below hb8)
      have HZ8 := Lib.hid hb8.size
      have HQ8 := Lib.hid (HQ7.out.trans (hb8.mono HQ7.out.size))
      clear hb8
      refine hK.out _ _ (by exact trivial) (fun hHeld => ?_)
      clear hK K
      (try simp only [Act.put, List.setIfInBounds_toArray, List.set_cons_zero, List.set_cons_succ])
      refine wpAnyH_take (i := 6) (v := ?_) rfl (by kernel_rfl) (by kernel_rfl) (by kernel_rfl) (fun _ _ _ h => h) (Or.inl ⟨by rfl, ?hype8⟩) (by assumption) ?restpe8
      case hype8 => (intro W hSw; (try dsimp only at hSw); go_simp; try (with_reducible rfl))
      (try simp only [Act.put, List.setIfInBounds_toArray])
      refine wpAnyH_ready (rs := [7]) (by kernel_rfl) (by simp) ?_
      refine AllReadyH.cons rfl (fun K hK => ?_) AllReadyH.nil
      go_simp
      have hb4 := below_box W8 (.cells #[.slice A7 code.length z7, .int .i64 start, .slice (some ⟨W0.heap.size, 0, none⟩) 16 16, .slice (some ⟨W7.heap.size, 0, none⟩) n n, .slice none 0 0, .slice none 0 0, .int .u8 0, .int .i64 0] 42)
      have hQ := HQ8.out
      have hq0 := HQ0.out.size
      have hz6 := HZ6.out
      have hz7 := HZ7.out
      have hz8 := HZ8.out
      have hr := HML6.out
      have hw := HML8.out
      have hol := HOL7.out
      obtain ⟨p, hD, hp⟩ := dnew_in (w := w) (heap_alloc_new W8 (.cells #[.slice A7 code.length z7, .int .i64 start, .slice (some ⟨W0.heap.size, 0, none⟩) 16 16, .slice (some ⟨W7.heap.size, 0, none⟩) n n, .slice none 0 0, .slice none 0 0, .int .u8 0, .int .i64 0] 42)) hQ.size (by omega) (by omega) (by omega) (by omega) (by omega) (HO8.out.below hb4) (fun j e => by have := hol j e; refine ⟨by omega, by omega, by omega, by omega⟩) ((hb4.block _ (by omega)).trans HM8R.out) ((hb4.block _ (by omega)).trans HM8.out)
      have hb5 := hQ.trans (hb4.mono hQ.size)
      clear hb4 hQ hq0 hz6 hz7 hz8 hr hw hol
      have HD := Lib.hid hD
      have HP := Lib.hid hp
      have HB5 := Lib.hid hb5
      clear hD hp hb5
      refine hK.out _ _ (by exact trivial) (fun hHeld => ?_)
      clear hK K
      (try simp only [Act.put, List.setIfInBounds_toArray, List.set_cons_zero, List.set_cons_succ])
      refine wpAnyH_take (i := 8) (v := ?_) rfl (by kernel_rfl) (by kernel_rfl) (by kernel_rfl) (fun _ _ _ h => h) (Or.inl ⟨by rfl, ?hyre8⟩) (by assumption) ?restre8
      case hyre8 => (intro W hSw; (try dsimp only at hSw); go_simp; try (with_reducible rfl))
      (try simp only [Act.put, List.setIfInBounds_toArray])
      refine wpAnyH_done (by kernel_rfl) ?_ _
      go_simp
      clear hHeld
      generalize W8.alloc (.cells #[.slice A7 code.length z7, .int .i64 start, .slice (some ⟨W0.heap.size, 0, none⟩) 16 16, .slice (some ⟨W7.heap.size, 0, none⟩) n n, .slice none 0 0, .slice none 0 0, .int .u8 0, .int .i64 0] 42) = W9 at *
      generalize W8.heap.size = g at *
      have HE := Lib.hid (irow_new W9)
      have hb9 := below_box W9 (.cells #[] 2)
      have HD9 := Lib.hid (HD.out.below hb9)
      have HQ9 := Lib.hid (HB5.out.trans (hb9.mono HB5.out.size))
      have HS9 := Lib.hid (show (W9.alloc (.cells #[] 2)).heap.size = W9.heap.size + 1 by simp)
      have hl9 := HD.out.lt
      clear hb9
      go_wp2_with (at_builtin
                   refine app_any _ rfl (.tmp 41) (.tmp 42) rfl _ [] rfl HE.out A2 c2 input rfl HC2.out (HI.out _ HQ9.out) (by have := HLEN.out; simp; omega) ?_
                   intro v2 w2 h2 g2 o2
                   have HS2 := Lib.hid (show W9.heap.size + 1 ≤ w2.heap.size from by have := g2.size; rw [HS9.out] at this; exact this)
                   have HD2 := Lib.hid (HD9.out.same (fun k hS => g2.block k (HD9.out.lt k hS) (fun e => by have q := hl9 k hS; have e2 : k = W9.heap.size := Option.some.inj e; omega)) g2.size)
                   have HK2 := Lib.hid (HQ9.out.grown g2 (by have := HB5.out.size; have := HS9.out; omega) (fun j e => by have e2 : W9.heap.size = j := Option.some.inj e; have := HB5.out.size; omega))
                   have HO2 := Lib.hid (fun k (e : v2.ownBlock = some k) => show W9.heap.size ≤ k ∧ k < w2.heap.size from ⟨own_new o2 (Nat.le_refl _) (by rw [HS9.out]; omega) e, IRow.lt h2 k e⟩)
                   have H2 := Lib.hid h2
                   obtain ⟨A5, c5', e5, _⟩ := h2.ils
                   have HE5 := Lib.hid e5
                   obtain ⟨c0, c1, cR, c3, c4, c5, c6, c7⟩ := HD2.out.cells
                   have f4 := HD2.out.frozen 4
                   have fr := HD2.out.frozenR 15
                   have cr := HD2.out.reg (r := 15) (by omega)
                   have lg := HD2.out.lt _ HD2.out.mem
                   have lr := HD2.out.lt _ HD2.out.grS
                   have n1 := HD2.out.grg
                   rw [e5]
                   clear h2 g2 o2 e5 hl9 c0 c1 c3 c5 c6 c7)
      go_ret2
      have hst : ∀ k, v2.ownBlock = some k → still3 g p k := fun k e => by
        have q := (HO2.out k e).1
        have a1 := HD.out.lt _ HD.out.mem
        have a2 := HD.out.lt _ HD.out.grS
        have a3 := HD.out.lt _ HD.out.gwS
        exact ⟨by omega, by omega, by omega⟩
      have hsz := HB5.out.size
      have HF := ((HD2.out.more (S' := grow none_ w w2) (fun k hs => by rcases hs with q | q; exact .inl q; exact .inr ⟨q.1, by have := q.2; have := HS2.out; omega⟩) (grow_lt (fun k h => absurd h (fun h => h)) HK2.out.size)).setIn v2 input (by simpa using H2.out) (fun k e => ⟨.inr ⟨by have := (HO2.out k e).1; omega, (HO2.out k e).2⟩, hst k e⟩)).setReg (r := 15) (by omega) n
      rw [HE5.out] at HF
      refine ⟨g, _, rfl, HF.more (fun k hs => by rcases hs with q | q; exact .inl q; exact .inr ⟨q.1, by have := q.2; simpa [World.setCell] using this⟩) (grow_lt (fun k h => absurd h (fun h => h)) (by have := HK2.out.size; simpa [World.setCell] using this)), ?_⟩
      exact ((HK2.out.setCell (by have := HD.out.mem; rcases this with q | q; exact absurd q (fun h => h); exact q.1) _).setCell (by have := HD.out.grS; rcases this with q | q; exact absurd q (fun h => h); exact q.1) _)
    · go_simp
      have hb9 := below_box W6 (zrow n)
      have HM9 := Lib.hid (heap_alloc_new W6 (zrow n))
      have HML9 := Lib.hid (show W6.heap.size < (W6.alloc (zrow n)).heap.size by simp)
      generalize W6.alloc (zrow n) = W9 at *
      have HM9R := Lib.hid ((hb9.block (W0.heap.size) (Nat.lt_of_lt_of_le HML6.out (by exact Nat.le_refl _))).trans HM6.out)
      have HZ9 := Lib.hid hb9.size
      have HQ9 := Lib.hid (HQ6.out.trans (hb9.mono HQ6.out.size))
      clear hb9
      refine hK.out _ _ (by exact trivial) (fun hHeld => ?_)
      clear hK K
      (try simp only [Act.put, List.setIfInBounds_toArray, List.set_cons_zero, List.set_cons_succ])
      refine wpAnyH_ready (rs := [1]) (by kernel_rfl) (by simp) ?_
      refine AllReadyH.cons rfl (fun K hK => ?_) AllReadyH.nil
      go_simp
      go_at_call 7
      refine (HC.out _ HQ9.out).mono ?_
      rintro e W10 ⟨v10, rfl, ho10, hb10⟩
      have HO10 := Lib.hid ho10
      have HOL10 := Lib.hid (fun j e => (show W9.heap.size ≤ j ∧ j < W10.heap.size from ho10.lt j e))
      obtain ⟨A10, z10, hv10, -⟩ := ho10.form
      subst hv10
      clear ho10
      go_wp2_with fail
      have HM10R := Lib.hid ((hb10.block (W0.heap.size) (Nat.lt_of_lt_of_le HML6.out (by first | exact Nat.le_refl _ | (have := HZ9.out; omega)))).trans HM9R.out)
      have HM10V := Lib.hid ((hb10.block (W6.heap.size) (Nat.lt_of_lt_of_le HML9.out (by exact Nat.le_refl _))).trans HM9.out)
      have HZ10 := Lib.hid hb10.size
      have HQ10 := Lib.hid (HQ9.out.trans (hb10.mono HQ9.out.size))
      clear hb10
      refine hK.out _ _ (by exact trivial) (fun hHeld => ?_)
      clear hK K
      (try simp only [Act.put, List.setIfInBounds_toArray, List.set_cons_zero, List.set_cons_succ])
      refine wpAnyH_take (i := 6) (v := ?_) rfl (by kernel_rfl) (by kernel_rfl) (by kernel_rfl) (fun _ _ _ h => h) (Or.inl ⟨by rfl, ?hype10⟩) (by assumption) ?restpe10
      case hype10 => (intro W hSw; (try dsimp only at hSw); go_simp; try (with_reducible rfl))
      (try simp only [Act.put, List.setIfInBounds_toArray])
      refine wpAnyH_ready (rs := [7]) (by kernel_rfl) (by simp) ?_
      refine AllReadyH.cons rfl (fun K hK => ?_) AllReadyH.nil
      go_simp
      have hb4 := below_box W10 (.cells #[.slice A10 code.length z10, .int .i64 start, .slice (some ⟨W0.heap.size, 0, none⟩) 16 16, .slice (some ⟨W6.heap.size, 0, none⟩) n n, .slice none 0 0, .slice none 0 0, .int .u8 0, .int .i64 0] 42)
      have hQ := HQ10.out
      have hq0 := HQ0.out.size
      have hz6 := HZ6.out
      have hz9 := HZ9.out
      have hz10 := HZ10.out
      have hr := HML6.out
      have hw := HML9.out
      have hol := HOL10.out
      obtain ⟨p, hD, hp⟩ := dnew_in (w := w) (heap_alloc_new W10 (.cells #[.slice A10 code.length z10, .int .i64 start, .slice (some ⟨W0.heap.size, 0, none⟩) 16 16, .slice (some ⟨W6.heap.size, 0, none⟩) n n, .slice none 0 0, .slice none 0 0, .int .u8 0, .int .i64 0] 42)) hQ.size (by omega) (by omega) (by omega) (by omega) (by omega) (HO10.out.below hb4) (fun j e => by have := hol j e; refine ⟨by omega, by omega, by omega, by omega⟩) ((hb4.block _ (by omega)).trans HM10R.out) ((hb4.block _ (by omega)).trans HM10V.out)
      have hb5 := hQ.trans (hb4.mono hQ.size)
      clear hb4 hQ hq0 hz6 hz9 hz10 hr hw hol
      have HD := Lib.hid hD
      have HP := Lib.hid hp
      have HB5 := Lib.hid hb5
      clear hD hp hb5
      refine hK.out _ _ (by exact trivial) (fun hHeld => ?_)
      clear hK K
      (try simp only [Act.put, List.setIfInBounds_toArray, List.set_cons_zero, List.set_cons_succ])
      refine wpAnyH_take (i := 8) (v := ?_) rfl (by kernel_rfl) (by kernel_rfl) (by kernel_rfl) (fun _ _ _ h => h) (Or.inl ⟨by rfl, ?hyre10⟩) (by assumption) ?restre10
      case hyre10 => (intro W hSw; (try dsimp only at hSw); go_simp; try (with_reducible rfl))
      (try simp only [Act.put, List.setIfInBounds_toArray])
      refine wpAnyH_done (by kernel_rfl) ?_ _
      go_simp
      clear hHeld
      generalize W10.alloc (.cells #[.slice A10 code.length z10, .int .i64 start, .slice (some ⟨W0.heap.size, 0, none⟩) 16 16, .slice (some ⟨W6.heap.size, 0, none⟩) n n, .slice none 0 0, .slice none 0 0, .int .u8 0, .int .i64 0] 42) = W9 at *
      generalize W10.heap.size = g at *
      have HE := Lib.hid (irow_new W9)
      have hb9 := below_box W9 (.cells #[] 2)
      have HD9 := Lib.hid (HD.out.below hb9)
      have HQ9 := Lib.hid (HB5.out.trans (hb9.mono HB5.out.size))
      have HS9 := Lib.hid (show (W9.alloc (.cells #[] 2)).heap.size = W9.heap.size + 1 by simp)
      have hl9 := HD.out.lt
      clear hb9
      go_wp2_with (at_builtin
                   refine app_any _ rfl (.tmp 41) (.tmp 42) rfl _ [] rfl HE.out A2 c2 input rfl HC2.out (HI.out _ HQ9.out) (by have := HLEN.out; simp; omega) ?_
                   intro v2 w2 h2 g2 o2
                   have HS2 := Lib.hid (show W9.heap.size + 1 ≤ w2.heap.size from by have := g2.size; rw [HS9.out] at this; exact this)
                   have HD2 := Lib.hid (HD9.out.same (fun k hS => g2.block k (HD9.out.lt k hS) (fun e => by have q := hl9 k hS; have e2 : k = W9.heap.size := Option.some.inj e; omega)) g2.size)
                   have HK2 := Lib.hid (HQ9.out.grown g2 (by have := HB5.out.size; have := HS9.out; omega) (fun j e => by have e2 : W9.heap.size = j := Option.some.inj e; have := HB5.out.size; omega))
                   have HO2 := Lib.hid (fun k (e : v2.ownBlock = some k) => show W9.heap.size ≤ k ∧ k < w2.heap.size from ⟨own_new o2 (Nat.le_refl _) (by rw [HS9.out]; omega) e, IRow.lt h2 k e⟩)
                   have H2 := Lib.hid h2
                   obtain ⟨A5, c5', e5, _⟩ := h2.ils
                   have HE5 := Lib.hid e5
                   obtain ⟨c0, c1, cR, c3, c4, c5, c6, c7⟩ := HD2.out.cells
                   have f4 := HD2.out.frozen 4
                   have fr := HD2.out.frozenR 15
                   have cr := HD2.out.reg (r := 15) (by omega)
                   have lg := HD2.out.lt _ HD2.out.mem
                   have lr := HD2.out.lt _ HD2.out.grS
                   have n1 := HD2.out.grg
                   rw [e5]
                   clear h2 g2 o2 e5 hl9 c0 c1 c3 c5 c6 c7)
      go_ret2
      have hst : ∀ k, v2.ownBlock = some k → still3 g p k := fun k e => by
        have q := (HO2.out k e).1
        have a1 := HD.out.lt _ HD.out.mem
        have a2 := HD.out.lt _ HD.out.grS
        have a3 := HD.out.lt _ HD.out.gwS
        exact ⟨by omega, by omega, by omega⟩
      have hsz := HB5.out.size
      have HF := ((HD2.out.more (S' := grow none_ w w2) (fun k hs => by rcases hs with q | q; exact .inl q; exact .inr ⟨q.1, by have := q.2; have := HS2.out; omega⟩) (grow_lt (fun k h => absurd h (fun h => h)) HK2.out.size)).setIn v2 input (by simpa using H2.out) (fun k e => ⟨.inr ⟨by have := (HO2.out k e).1; omega, (HO2.out k e).2⟩, hst k e⟩)).setReg (r := 15) (by omega) n
      rw [HE5.out] at HF
      refine ⟨g, _, rfl, HF.more (fun k hs => by rcases hs with q | q; exact .inl q; exact .inr ⟨q.1, by have := q.2; simpa [World.setCell] using this⟩) (grow_lt (fun k h => absurd h (fun h => h)) (by have := HK2.out.size; simpa [World.setCell] using this)), ?_⟩
      exact ((HK2.out.setCell (by have := HD.out.mem; rcases this with q | q; exact absurd q (fun h => h); exact q.1) _).setCell (by have := HD.out.grS; rcases this with q | q; exact absurd q (fun h => h); exact q.1) _)
  · go_simp
    have hb11 := below_box W0 (zrow n)
    have HM11 := Lib.hid (heap_alloc_new W0 (zrow n))
    have HML11 := Lib.hid (show W0.heap.size < (W0.alloc (zrow n)).heap.size by simp)
    generalize W0.alloc (zrow n) = W11 at *
    have HZ11 := Lib.hid hb11.size
    have HQ11 := Lib.hid (HQ0.out.trans (hb11.mono HQ0.out.size))
    clear hb11
    refine hK.out _ _ (by exact trivial) (fun hHeld => ?_)
    clear hK K
    (try simp only [Act.put, List.setIfInBounds_toArray, List.set_cons_zero, List.set_cons_succ])
    refine wpAnyH_ready (rs := [1, 3]) (by kernel_rfl) (by simp) ?_
    refine AllReadyH.cons rfl (fun K hK => ?_) (AllReadyH.cons rfl (fun K hK => ?_) AllReadyH.nil)
    · go_simp
      go_at_call 7
      refine (HC.out _ HQ11.out).mono ?_
      rintro e W12 ⟨v12, rfl, ho12, hb12⟩
      have HO12 := Lib.hid ho12
      have HOL12 := Lib.hid (fun j e => (show W11.heap.size ≤ j ∧ j < W12.heap.size from ho12.lt j e))
      obtain ⟨A12, z12, hv12, -⟩ := ho12.form
      subst hv12
      clear ho12
      go_wp2_with fail
      have HM12V := Lib.hid ((hb12.block (W0.heap.size) (Nat.lt_of_lt_of_le HML11.out (by exact Nat.le_refl _))).trans HM11.out)
      have HZ12 := Lib.hid hb12.size
      have HQ12 := Lib.hid (HQ11.out.trans (hb12.mono HQ11.out.size))
      clear hb12
      refine hK.out _ _ (by exact trivial) (fun hHeld => ?_)
      clear hK K
      (try simp only [Act.put, List.setIfInBounds_toArray, List.set_cons_zero, List.set_cons_succ])
      refine wpAnyH_ready (rs := [3]) (by kernel_rfl) (by simp) ?_
      refine AllReadyH.cons rfl (fun K hK => ?_) AllReadyH.nil
      go_simp
      have hb13 := below_box W12 (zrow 16)
      have HM13 := Lib.hid (heap_alloc_new W12 (zrow 16))
      have HML13 := Lib.hid (show W12.heap.size < (W12.alloc (zrow 16)).heap.size by simp)
      generalize W12.alloc (zrow 16) = W13 at *
      have HM13V := Lib.hid ((hb13.block (W0.heap.size) (Nat.lt_of_lt_of_le HML11.out (by first | exact Nat.le_refl _ | (have := HZ12.out; omega)))).trans HM12V.out)
      have HO13 := Lib.hid (HO12.out.below hb13)
      have HZ13 := Lib.hid hb13.size
      have HQ13 := Lib.hid (HQ12.out.trans (hb13.mono HQ12.out.size))
      clear hb13
      refine hK.out _ _ (by exact trivial) (fun hHeld => ?_)
      clear hK K
      (try simp only [Act.put, List.setIfInBounds_toArray, List.set_cons_zero, List.set_cons_succ])
      refine wpAnyH_take (i := 6) (v := ?_) rfl (by kernel_rfl) (by kernel_rfl) (by kernel_rfl) (fun _ _ _ h => h) (Or.inl ⟨by rfl, ?hype13⟩) (by assumption) ?restpe13
      case hype13 => (intro W hSw; (try dsimp only at hSw); go_simp; try (with_reducible rfl))
      (try simp only [Act.put, List.setIfInBounds_toArray])
      refine wpAnyH_ready (rs := [7]) (by kernel_rfl) (by simp) ?_
      refine AllReadyH.cons rfl (fun K hK => ?_) AllReadyH.nil
      go_simp
      have hb4 := below_box W13 (.cells #[.slice A12 code.length z12, .int .i64 start, .slice (some ⟨W12.heap.size, 0, none⟩) 16 16, .slice (some ⟨W0.heap.size, 0, none⟩) n n, .slice none 0 0, .slice none 0 0, .int .u8 0, .int .i64 0] 42)
      have hQ := HQ13.out
      have hq0 := HQ0.out.size
      have hz11 := HZ11.out
      have hz12 := HZ12.out
      have hz13 := HZ13.out
      have hr := HML13.out
      have hw := HML11.out
      have hol := HOL12.out
      obtain ⟨p, hD, hp⟩ := dnew_in (w := w) (heap_alloc_new W13 (.cells #[.slice A12 code.length z12, .int .i64 start, .slice (some ⟨W12.heap.size, 0, none⟩) 16 16, .slice (some ⟨W0.heap.size, 0, none⟩) n n, .slice none 0 0, .slice none 0 0, .int .u8 0, .int .i64 0] 42)) hQ.size (by omega) (by omega) (by omega) (by omega) (by omega) (HO13.out.below hb4) (fun j e => by have := hol j e; refine ⟨by omega, by omega, by omega, by omega⟩) ((hb4.block _ (by omega)).trans HM13.out) ((hb4.block _ (by omega)).trans HM13V.out)
      have hb5 := hQ.trans (hb4.mono hQ.size)
      clear hb4 hQ hq0 hz11 hz12 hz13 hr hw hol
      have HD := Lib.hid hD
      have HP := Lib.hid hp
      have HB5 := Lib.hid hb5
      clear hD hp hb5
      refine hK.out _ _ (by exact trivial) (fun hHeld => ?_)
      clear hK K
      (try simp only [Act.put, List.setIfInBounds_toArray, List.set_cons_zero, List.set_cons_succ])
      refine wpAnyH_take (i := 8) (v := ?_) rfl (by kernel_rfl) (by kernel_rfl) (by kernel_rfl) (fun _ _ _ h => h) (Or.inl ⟨by rfl, ?hyre13⟩) (by assumption) ?restre13
      case hyre13 => (intro W hSw; (try dsimp only at hSw); go_simp; try (with_reducible rfl))
      (try simp only [Act.put, List.setIfInBounds_toArray])
      refine wpAnyH_done (by kernel_rfl) ?_ _
      go_simp
      clear hHeld
      generalize W13.alloc (.cells #[.slice A12 code.length z12, .int .i64 start, .slice (some ⟨W12.heap.size, 0, none⟩) 16 16, .slice (some ⟨W0.heap.size, 0, none⟩) n n, .slice none 0 0, .slice none 0 0, .int .u8 0, .int .i64 0] 42) = W9 at *
      generalize W13.heap.size = g at *
      have HE := Lib.hid (irow_new W9)
      have hb9 := below_box W9 (.cells #[] 2)
      have HD9 := Lib.hid (HD.out.below hb9)
      have HQ9 := Lib.hid (HB5.out.trans (hb9.mono HB5.out.size))
      have HS9 := Lib.hid (show (W9.alloc (.cells #[] 2)).heap.size = W9.heap.size + 1 by simp)
      have hl9 := HD.out.lt
      clear hb9
      go_wp2_with (at_builtin
                   refine app_any _ rfl (.tmp 41) (.tmp 42) rfl _ [] rfl HE.out A2 c2 input rfl HC2.out (HI.out _ HQ9.out) (by have := HLEN.out; simp; omega) ?_
                   intro v2 w2 h2 g2 o2
                   have HS2 := Lib.hid (show W9.heap.size + 1 ≤ w2.heap.size from by have := g2.size; rw [HS9.out] at this; exact this)
                   have HD2 := Lib.hid (HD9.out.same (fun k hS => g2.block k (HD9.out.lt k hS) (fun e => by have q := hl9 k hS; have e2 : k = W9.heap.size := Option.some.inj e; omega)) g2.size)
                   have HK2 := Lib.hid (HQ9.out.grown g2 (by have := HB5.out.size; have := HS9.out; omega) (fun j e => by have e2 : W9.heap.size = j := Option.some.inj e; have := HB5.out.size; omega))
                   have HO2 := Lib.hid (fun k (e : v2.ownBlock = some k) => show W9.heap.size ≤ k ∧ k < w2.heap.size from ⟨own_new o2 (Nat.le_refl _) (by rw [HS9.out]; omega) e, IRow.lt h2 k e⟩)
                   have H2 := Lib.hid h2
                   obtain ⟨A5, c5', e5, _⟩ := h2.ils
                   have HE5 := Lib.hid e5
                   obtain ⟨c0, c1, cR, c3, c4, c5, c6, c7⟩ := HD2.out.cells
                   have f4 := HD2.out.frozen 4
                   have fr := HD2.out.frozenR 15
                   have cr := HD2.out.reg (r := 15) (by omega)
                   have lg := HD2.out.lt _ HD2.out.mem
                   have lr := HD2.out.lt _ HD2.out.grS
                   have n1 := HD2.out.grg
                   rw [e5]
                   clear h2 g2 o2 e5 hl9 c0 c1 c3 c5 c6 c7)
      go_ret2
      have hst : ∀ k, v2.ownBlock = some k → still3 g p k := fun k e => by
        have q := (HO2.out k e).1
        have a1 := HD.out.lt _ HD.out.mem
        have a2 := HD.out.lt _ HD.out.grS
        have a3 := HD.out.lt _ HD.out.gwS
        exact ⟨by omega, by omega, by omega⟩
      have hsz := HB5.out.size
      have HF := ((HD2.out.more (S' := grow none_ w w2) (fun k hs => by rcases hs with q | q; exact .inl q; exact .inr ⟨q.1, by have := q.2; have := HS2.out; omega⟩) (grow_lt (fun k h => absurd h (fun h => h)) HK2.out.size)).setIn v2 input (by simpa using H2.out) (fun k e => ⟨.inr ⟨by have := (HO2.out k e).1; omega, (HO2.out k e).2⟩, hst k e⟩)).setReg (r := 15) (by omega) n
      rw [HE5.out] at HF
      refine ⟨g, _, rfl, HF.more (fun k hs => by rcases hs with q | q; exact .inl q; exact .inr ⟨q.1, by have := q.2; simpa [World.setCell] using this⟩) (grow_lt (fun k h => absurd h (fun h => h)) (by have := HK2.out.size; simpa [World.setCell] using this)), ?_⟩
      exact ((HK2.out.setCell (by have := HD.out.mem; rcases this with q | q; exact absurd q (fun h => h); exact q.1) _).setCell (by have := HD.out.grS; rcases this with q | q; exact absurd q (fun h => h); exact q.1) _)
    · go_simp
      have hb14 := below_box W11 (zrow 16)
      have HM14 := Lib.hid (heap_alloc_new W11 (zrow 16))
      have HML14 := Lib.hid (show W11.heap.size < (W11.alloc (zrow 16)).heap.size by simp)
      generalize W11.alloc (zrow 16) = W14 at *
      have HM14V := Lib.hid ((hb14.block (W0.heap.size) (Nat.lt_of_lt_of_le HML11.out (by exact Nat.le_refl _))).trans HM11.out)
      have HZ14 := Lib.hid hb14.size
      have HQ14 := Lib.hid (HQ11.out.trans (hb14.mono HQ11.out.size))
      clear hb14
      refine hK.out _ _ (by exact trivial) (fun hHeld => ?_)
      clear hK K
      (try simp only [Act.put, List.setIfInBounds_toArray, List.set_cons_zero, List.set_cons_succ])
      refine wpAnyH_ready (rs := [1]) (by kernel_rfl) (by simp) ?_
      refine AllReadyH.cons rfl (fun K hK => ?_) AllReadyH.nil
      go_simp
      go_at_call 7
      refine (HC.out _ HQ14.out).mono ?_
      rintro e W15 ⟨v15, rfl, ho15, hb15⟩
      have HO15 := Lib.hid ho15
      have HOL15 := Lib.hid (fun j e => (show W14.heap.size ≤ j ∧ j < W15.heap.size from ho15.lt j e))
      obtain ⟨A15, z15, hv15, -⟩ := ho15.form
      subst hv15
      clear ho15
      go_wp2_with fail
      have HM15R := Lib.hid ((hb15.block (W11.heap.size) (Nat.lt_of_lt_of_le HML14.out (by exact Nat.le_refl _))).trans HM14.out)
      have HM15V := Lib.hid ((hb15.block (W0.heap.size) (Nat.lt_of_lt_of_le HML11.out (by first | exact Nat.le_refl _ | (have := HZ14.out; omega)))).trans HM14V.out)
      have HZ15 := Lib.hid hb15.size
      have HQ15 := Lib.hid (HQ14.out.trans (hb15.mono HQ14.out.size))
      clear hb15
      refine hK.out _ _ (by exact trivial) (fun hHeld => ?_)
      clear hK K
      (try simp only [Act.put, List.setIfInBounds_toArray, List.set_cons_zero, List.set_cons_succ])
      refine wpAnyH_take (i := 6) (v := ?_) rfl (by kernel_rfl) (by kernel_rfl) (by kernel_rfl) (fun _ _ _ h => h) (Or.inl ⟨by rfl, ?hype15⟩) (by assumption) ?restpe15
      case hype15 => (intro W hSw; (try dsimp only at hSw); go_simp; try (with_reducible rfl))
      (try simp only [Act.put, List.setIfInBounds_toArray])
      refine wpAnyH_ready (rs := [7]) (by kernel_rfl) (by simp) ?_
      refine AllReadyH.cons rfl (fun K hK => ?_) AllReadyH.nil
      go_simp
      have hb4 := below_box W15 (.cells #[.slice A15 code.length z15, .int .i64 start, .slice (some ⟨W11.heap.size, 0, none⟩) 16 16, .slice (some ⟨W0.heap.size, 0, none⟩) n n, .slice none 0 0, .slice none 0 0, .int .u8 0, .int .i64 0] 42)
      have hQ := HQ15.out
      have hq0 := HQ0.out.size
      have hz11 := HZ11.out
      have hz14 := HZ14.out
      have hz15 := HZ15.out
      have hr := HML14.out
      have hw := HML11.out
      have hol := HOL15.out
      obtain ⟨p, hD, hp⟩ := dnew_in (w := w) (heap_alloc_new W15 (.cells #[.slice A15 code.length z15, .int .i64 start, .slice (some ⟨W11.heap.size, 0, none⟩) 16 16, .slice (some ⟨W0.heap.size, 0, none⟩) n n, .slice none 0 0, .slice none 0 0, .int .u8 0, .int .i64 0] 42)) hQ.size (by omega) (by omega) (by omega) (by omega) (by omega) (HO15.out.below hb4) (fun j e => by have := hol j e; refine ⟨by omega, by omega, by omega, by omega⟩) ((hb4.block _ (by omega)).trans HM15R.out) ((hb4.block _ (by omega)).trans HM15V.out)
      have hb5 := hQ.trans (hb4.mono hQ.size)
      clear hb4 hQ hq0 hz11 hz14 hz15 hr hw hol
      have HD := Lib.hid hD
      have HP := Lib.hid hp
      have HB5 := Lib.hid hb5
      clear hD hp hb5
      refine hK.out _ _ (by exact trivial) (fun hHeld => ?_)
      clear hK K
      (try simp only [Act.put, List.setIfInBounds_toArray, List.set_cons_zero, List.set_cons_succ])
      refine wpAnyH_take (i := 8) (v := ?_) rfl (by kernel_rfl) (by kernel_rfl) (by kernel_rfl) (fun _ _ _ h => h) (Or.inl ⟨by rfl, ?hyre15⟩) (by assumption) ?restre15
      case hyre15 => (intro W hSw; (try dsimp only at hSw); go_simp; try (with_reducible rfl))
      (try simp only [Act.put, List.setIfInBounds_toArray])
      refine wpAnyH_done (by kernel_rfl) ?_ _
      go_simp
      clear hHeld
      generalize W15.alloc (.cells #[.slice A15 code.length z15, .int .i64 start, .slice (some ⟨W11.heap.size, 0, none⟩) 16 16, .slice (some ⟨W0.heap.size, 0, none⟩) n n, .slice none 0 0, .slice none 0 0, .int .u8 0, .int .i64 0] 42) = W9 at *
      generalize W15.heap.size = g at *
      have HE := Lib.hid (irow_new W9)
      have hb9 := below_box W9 (.cells #[] 2)
      have HD9 := Lib.hid (HD.out.below hb9)
      have HQ9 := Lib.hid (HB5.out.trans (hb9.mono HB5.out.size))
      have HS9 := Lib.hid (show (W9.alloc (.cells #[] 2)).heap.size = W9.heap.size + 1 by simp)
      have hl9 := HD.out.lt
      clear hb9
      go_wp2_with (at_builtin
                   refine app_any _ rfl (.tmp 41) (.tmp 42) rfl _ [] rfl HE.out A2 c2 input rfl HC2.out (HI.out _ HQ9.out) (by have := HLEN.out; simp; omega) ?_
                   intro v2 w2 h2 g2 o2
                   have HS2 := Lib.hid (show W9.heap.size + 1 ≤ w2.heap.size from by have := g2.size; rw [HS9.out] at this; exact this)
                   have HD2 := Lib.hid (HD9.out.same (fun k hS => g2.block k (HD9.out.lt k hS) (fun e => by have q := hl9 k hS; have e2 : k = W9.heap.size := Option.some.inj e; omega)) g2.size)
                   have HK2 := Lib.hid (HQ9.out.grown g2 (by have := HB5.out.size; have := HS9.out; omega) (fun j e => by have e2 : W9.heap.size = j := Option.some.inj e; have := HB5.out.size; omega))
                   have HO2 := Lib.hid (fun k (e : v2.ownBlock = some k) => show W9.heap.size ≤ k ∧ k < w2.heap.size from ⟨own_new o2 (Nat.le_refl _) (by rw [HS9.out]; omega) e, IRow.lt h2 k e⟩)
                   have H2 := Lib.hid h2
                   obtain ⟨A5, c5', e5, _⟩ := h2.ils
                   have HE5 := Lib.hid e5
                   obtain ⟨c0, c1, cR, c3, c4, c5, c6, c7⟩ := HD2.out.cells
                   have f4 := HD2.out.frozen 4
                   have fr := HD2.out.frozenR 15
                   have cr := HD2.out.reg (r := 15) (by omega)
                   have lg := HD2.out.lt _ HD2.out.mem
                   have lr := HD2.out.lt _ HD2.out.grS
                   have n1 := HD2.out.grg
                   rw [e5]
                   clear h2 g2 o2 e5 hl9 c0 c1 c3 c5 c6 c7)
      go_ret2
      have hst : ∀ k, v2.ownBlock = some k → still3 g p k := fun k e => by
        have q := (HO2.out k e).1
        have a1 := HD.out.lt _ HD.out.mem
        have a2 := HD.out.lt _ HD.out.grS
        have a3 := HD.out.lt _ HD.out.gwS
        exact ⟨by omega, by omega, by omega⟩
      have hsz := HB5.out.size
      have HF := ((HD2.out.more (S' := grow none_ w w2) (fun k hs => by rcases hs with q | q; exact .inl q; exact .inr ⟨q.1, by have := q.2; have := HS2.out; omega⟩) (grow_lt (fun k h => absurd h (fun h => h)) HK2.out.size)).setIn v2 input (by simpa using H2.out) (fun k e => ⟨.inr ⟨by have := (HO2.out k e).1; omega, (HO2.out k e).2⟩, hst k e⟩)).setReg (r := 15) (by omega) n
      rw [HE5.out] at HF
      refine ⟨g, _, rfl, HF.more (fun k hs => by rcases hs with q | q; exact .inl q; exact .inr ⟨q.1, by have := q.2; simpa [World.setCell] using this⟩) (grow_lt (fun k h => absurd h (fun h => h)) (by have := HK2.out.size; simpa [World.setCell] using this)), ?_⟩
      exact ((HK2.out.setCell (by have := HD.out.mem; rcases this with q | q; exact absurd q (fun h => h); exact q.1) _).setCell (by have := HD.out.grS; rcases this with q | q; exact absurd q (fun h => h); exact q.1) _)
end Go.Proofs.YtdnpoeegefkoiaaGreat
