/-
  Contract of lines.Write.
-/
import Derived.Test.YtfpgmaegpiiagaaL5E
namespace Go.Proofs.Ytfpgmaegpiiagaa
open Go.RowKit

def wrB (l : List Rw) : List UInt8 := if rightB l = true then progB l else []
def wrE (l : List Rw) : Int := if rightB l = true then 0 else 1
def WriteR (l : List Rw) (w : World) (e : Ending) (w' : World) : Prop := ∃ v, e = .returned (.tuple #[v, .int .i64 (wrE l)]) ∧ Own w' w.heap.size v (wrB l) ∧ Below w.heap.size w w'

def put2 (w : World) (g : Nat) (r : Rw) : World := (w.setCell ⟨g, 0, none⟩ (.int .i64 r.pc)).setCell ⟨g, 1, none⟩ (.int .i64 r.pt)
theorem put2_at {w : World} {g : Nat} {q : Rw} (h : RowAt w g q) (r : Rw) : RowAt (put2 w g r) g r := by
  unfold RowAt rK put2 at *
  simp [World.setCell, Array.getElem?_modify, h]
theorem grown_set1 (w : World) (g j : Nat) (v : Value) : w.grownBy (w.setCell ⟨g, j, none⟩ v) (some g) :=
  ⟨rfl, rfl, rfl, by simp [World.setCell], fun k _ hk => Below.heap_setCell w ⟨g, j, none⟩ v k (fun e => hk (by rw [e]))⟩
theorem put2_grown (w : World) (g : Nat) (r : Rw) : w.grownBy (put2 w g r) (some g) := (grown_set1 w g 0 _).trans (grown_set1 _ g 1 _)
theorem RowAt.kept {w w' : World} {g : Nat} {r : Rw} {row : Option Nat} (h : RowAt w g r) (hg : w.grownBy w' row) (hne : row ≠ some g) : RowAt w' g r := (hg.block g h.lt (fun e => hne e.symm)).trans h
theorem RowAt.frozen {w : World} {g : Nat} {r : Rw} (h : RowAt w g r) (j : Nat) : w.frozen? ⟨g, j, none⟩ = false := by
  unfold RowAt at h
  simp [World.frozen?, h]

/-- ahead of a row -/
structure Ahead (l : List Rw) (k : Nat) (q : Rw) (bs : List UInt8) : Prop where
  prog : bs ++ progF q (l.drop k) = progB l
  ok : ∃ a, okL a (l.drop k) = true ∧ q.pc ≤ a + 1
  pc0 : 0 ≤ q.pc
  pc1 : q.pc ≤ 16777216
  pt0 : 0 ≤ q.pt
  pt1 : q.pt < 1000
  len : bs.length ≤ 9 * k
theorem ahead_start {l : List Rw} (h : rightB l = true) : Ahead l 0 r0 [] := by
  simp only [rightB, Bool.and_eq_true, decide_eq_true_eq] at h
  exact ⟨rfl, ⟨-1, h.2, by decide⟩, by decide, by decide, by decide, by decide, by simp⟩
theorem Ahead.row {l : List Rw} {k : Nat} {q : Rw} {bs : List UInt8} (h : Ahead l k q bs) (hk : k < l.length) : 0 ≤ l[k].pc - q.pc ∧ l[k].pc < 16777216 ∧ 0 ≤ l[k].pt ∧ l[k].pt < 1000 ∧ Ahead l (k + 1) l[k] (bs ++ stepsB (l[k].pc - q.pc) (l[k].pt - q.pt)) := by
  obtain ⟨a, ha, hq⟩ := h.ok
  have hp := h.prog
  rw [List.drop_eq_getElem_cons hk] at ha hp
  obtain ⟨⟨h1, h2, h3, h4⟩, h5⟩ := okR_of ha
  have g1 := h.pc0
  have g2 := h.pt0
  have g3 := h.pt1
  have s := stepsB_len (d := l[k].pc - q.pc) (e := l[k].pt - q.pt) (by omega) (by omega) (by omega) (by omega)
  have hl := h.len
  refine ⟨by omega, h2, h3, h4, ⟨by rw [List.append_assoc]; exact hp, ⟨l[k].pc, h5, by omega⟩, by omega, by omega, h3, h4, by rw [List.length_append]; omega⟩⟩
theorem Ahead.last {l : List Rw} {q : Rw} {bs : List UInt8} (h : Ahead l l.length q bs) : bs ++ [0] = progB l := by
  have := h.prog
  rwa [List.drop_length] at this

set_option maxRecDepth 100000 in
set_option maxHeartbeats 1000000 in
theorem write_any (A : Option Addr) (c : Nat) (l : List Rw) (w : World) (hn : l.length ≤ 1000000) (h : RLies w w.heap.size A l) :
    Calls Try.prog 9 #[.slice A l.length c] w (WriteR l w) := by
  have HP := Lib.hid (right_any A c l w (by omega) h)
  unfold RightR at HP
  by_cases hr : rightB l = true
  · have HA := Lib.hid (ahead_start hr)
    have HR := Lib.hid (show wrE l = 0 ∧ wrB l = progB l by unfold wrE wrB; rw [if_pos hr, if_pos hr]; exact ⟨rfl, rfl⟩)
    rw [hr] at HP
    clear hr
    go_enter Try.func9, Try.ntmps9
    go_wp2_with (go_at_call 12; refine HP.out.mono ?_; rintro e w1 ⟨rfl, hb1⟩; have HB1 := Lib.hid hb1; have hz1 := hb1.size; clear hb1)
    have hrow := Lib.hid (rowAt_new w1 r0)
    have hbn := Lib.hid (HB1.out.alloc hz1 (.cells (rK r0) 42))
    have hl1 := Lib.hid (h.below hbn.out)
    have hsz := Lib.hid (show w1.heap.size + 1 ≤ (w1.alloc (.cells (rK r0) 42)).heap.size by simp)
    unfold rK r0 at hrow hbn hl1 hsz
    simp only at hrow hbn hl1 hsz
    generalize w1.alloc (.cells #[.int .i64 0, .int .i64 0] 42) = w2 at *
    generalize hgn : w1.heap.size = gn at *
    go_loopw [4, 13] (fun v i wr => ∃ (k : Nat) (q : Rw) (bs : List UInt8), k ≤ l.length ∧ i = .int .i64 k ∧ Hid (Own wr (gn + 1) v bs) ∧ Hid (RowAt wr gn q) ∧ Hid (Below w.heap.size w wr) ∧ Hid (Ahead l k q bs)) (fun _ i _ => l.length - (intOf i).toNat)
    case atStart => exact ⟨0, r0, [], by omega, rfl, Own.nil _ _, hrow, hbn, HA⟩
    case round =>
      obtain ⟨k, q, bs, hk, rfl, hv, hq, hB, hA⟩ := hrel
      clear HA hrow hbn hl1
      by_cases hlt : k < l.length
      · obtain ⟨g, o, rfl, hg, c1, c2⟩ := (h.below hB.out).at_ hlt
        obtain ⟨d0, d1, d2, d3, hA2⟩ := hA.out.row hlt
        have q0 := hA.out.pc0
        have q1 := hA.out.pc1
        have q2 := hA.out.pt0
        have q3 := hA.out.pt1
        have hbl := hA.out.len
        have HA2 := Lib.hid hA2
        clear hA hA2
        generalize l[k] = r at *
        have hsb := stepsB_len (d := r.pc - q.pc) (e := r.pt - q.pt) d0 (by omega) (by omega) (by omega)
        have HS := Lib.hid (fun w => steps_any (r.pc - q.pc) (r.pt - q.pt) w d0 (by omega) (by omega) (by omega))
        generalize stepsB (r.pc - q.pc) (r.pt - q.pt) = sb at *
        have e0 := hq.out.pc
        have e1 := hq.out.pt
        have hgl := hq.out.lt
        have hz := hB.out.size
        have hvl := Lib.hid hv.out.lt
        have hr1 := Lib.hid (rowAt_new wr r)
        unfold rK at hr1
        have hq1 := Lib.hid (hq.out.below (below_new wr (.cells #[.int .i64 r.pc, .int .i64 r.pt] 42)) hgl)
        have hB1 := Lib.hid (hB.out.trans ((below_new wr (.cells #[.int .i64 r.pc, .int .i64 r.pt] 42)).mono hz))
        go_wp2_with (first
          | (go_at_call 23
             refine (HS.out _).mono ?_
             rintro e w3 ⟨v3, rfl, ho3, hb3⟩
             obtain ⟨A3, c3, rfl, _, hc3, hL3⟩ := ho3.form
             have hv3 := Lib.hid ((hv.out.alloc _).below hb3)
             have hr3 := Lib.hid (hr1.out.below hb3 (by simp))
             have hq3 := Lib.hid (hq1.out.below hb3 (by simp; omega))
             have hB3 := Lib.hid (hB1.out.trans (hb3.mono hB1.out.size))
             have hz3 := Lib.hid hb3.size
             clear ho3 hb3 e0 e1)
          | (at_builtin
             refine app_slice _ rfl (.tmp 17) (.tmp 28) rfl (gn + 1) _ bs rfl hv3.out A3 c3 _ sb rfl hc3 hL3 (by omega) (by have := hz3.out; simp at this; omega) ?_
             intro v4 w4 ho4 hg4
             have hq4 := Lib.hid (hq3.out.kept hg4 (fun e => by have := hvl.out _ e; omega))
             have hr4 := Lib.hid (hr3.out.kept hg4 (fun e => by have := hvl.out _ e; omega))
             have hB4 := Lib.hid (hB3.out.grown hg4 hB3.out.size (fun j e => by have := hvl.out _ e; omega))
             have f0 := hq4.out.frozen 0
             have f1 := hq4.out.frozen 1
             have s0 := hq4.out.pc
             have s1 := hq4.out.pt
             have t0 := hr4.out.pc
             have t1 := hr4.out.pt
             clear hg4 hc3 hL3))
        go_roundw
        case rel =>
          exact ⟨k + 1, r, bs ++ sb, by omega, by go_num, ho4.kept (put2_grown w4 gn r) (by
            cases hq : v4.ownBlock with
            | none => exact .inl rfl
            | some j => exact .inr (fun e => by cases e; have := (ho4.lt gn hq).1; omega)), put2_at hq4.out r, hB4.out.grown (put2_grown w4 gn r) hB4.out.size (fun j e => by cases e; exact hz1), HA2⟩
        case measure => simp [intOf]; omega
      · obtain rfl : k = l.length := by omega
        have HL := Lib.hid hA.out.last
        have hbl := hA.out.len
        clear hA
        go_wp2_with (at_builtin
                     refine app_slice _ rfl (.tmp 32) (.tmp 33) rfl (gn + 1) _ bs rfl (hv.out.alloc _) (some ⟨wr.heap.size, 0, none⟩) 1 _ [0] rfl (by simp) (one_lies wr 0 _ rfl) (by simp; omega) (by have := hq.out.lt; simp; omega) ?_
                     intro v4 w4 ho4 hg4
                     have hB4 := Lib.hid (below_grown (hB.out.alloc hB.out.size _) hg4 ((hv.out.alloc _).base (show w.heap.size ≤ gn + 1 by omega)) (by have := hB.out.size; simp; omega))
                     clear hg4)
        go_ret2
        rw [WriteR, HR.out.1, HR.out.2]
        rw [HL.out] at ho4
        exact ⟨v4, rfl, ho4.base (by omega), hB4.out⟩
  · have HR := Lib.hid (show wrE l = 1 ∧ wrB l = [] by unfold wrE wrB; rw [if_neg hr, if_neg hr]; exact ⟨rfl, rfl⟩)
    rw [Bool.not_eq_true] at hr
    rw [hr] at HP
    clear hr
    go_enter Try.func9, Try.ntmps9
    go_wp2_with (go_at_call 12; refine HP.out.mono ?_; rintro e w1 ⟨rfl, hb1⟩; have HB1 := Lib.hid hb1; have hz1 := hb1.size; clear hb1)
    go_ret2
    rw [WriteR, HR.out.1, HR.out.2]
    exact ⟨_, rfl, Own.nil _ _, HB1.out⟩
end Go.Proofs.Ytfpgmaegpiiagaa
