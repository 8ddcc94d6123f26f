/-
  Contract of lines.Pcs.
-/
import Derived.Test.YtfpgmaegpiiagaaL5K
namespace Go.Proofs.Ytfpgmaegpiiagaa
open Go.RowKit

/-- the pcs of all rows of a point -/
def pcsOf (x : Int) (l : List Rw) : List Int := (l.filter (fun r => decide (r.pt = x))).map (·.pc)
theorem pcs_found {x : Int} : ∀ {l : List Rw} {i : Nat} (hi : i < l.length), decide (l[i].pt = x) = true → (∀ j (hj : j < i), decide ((l[j]'(by omega)).pt = x) = false) → pcsOf x l = l[i].pc :: pcsOf x (l.drop (i + 1))
  | [], i, hi, _, _ => absurd hi (by simp)
  | r :: l, 0, _, hp, _ => by
    have hp' : r.pt = x := by simpa using hp
    simp [pcsOf, hp']
  | r :: l, i + 1, hi, hp, hno => by
    have h0 := hno 0 (by omega)
    have h0' : ¬ r.pt = x := by simpa using h0
    have := pcs_found (l := l) (i := i) (by simpa using hi) (by simpa using hp) (fun j hj => by simpa using hno (j + 1) (by omega))
    simp only [List.getElem_cons_succ, List.drop_succ_cons]
    rw [← this]
    simp [pcsOf, h0']
theorem pcs_none {x : Int} {l : List Rw} (hno : ∀ j (hj : j < l.length), decide (l[j].pt = x) = false) : pcsOf x l = [] := by
  unfold pcsOf
  have : l.filter (fun r => decide (r.pt = x)) = [] := by
    rw [List.filter_eq_nil_iff]
    intro r hr
    obtain ⟨j, hj, rfl⟩ := List.getElem_of_mem hr
    have := hno j hj
    simpa using this
  rw [this]; rfl
theorem pcs_len (x : Int) (l : List Rw) : (pcsOf x l).length ≤ l.length := by
  unfold pcsOf
  rw [List.length_map]
  exact List.length_filter_le _ _

def lenV : Value → Nat | .slice _ n _ => n | _ => 0
def oneV : Value → Nat | .bool true => 1 | _ => 0
def PcsR (l : List Rw) (x : Int) (w : World) (e : Ending) (w' : World) : Prop := ∃ v, e = .returned v ∧ NOwn w' w.heap.size v (pcsOf x l) ∧ Below w.heap.size w w'

/-- what is found, either way -/
def FindU (x : Int) (A0 : Option Addr) (l : List Rw) (w : World) (e : Ending) (w' : World) : Prop :=
  Below w.heap.size w w' ∧ ∃ (r : Rw) (A : Option Addr) (R : List Rw) (c : Nat) (t : Bool), e = .returned (.tuple #[rv r, .slice A R.length c, .bool t]) ∧ R.length ≤ c ∧ R.length ≤ l.length ∧ (∀ w0 B, RLies w0 B A0 l → RLies w0 B A R) ∧
    ((t = true ∧ pcsOf x l = r.pc :: pcsOf x R ∧ R.length < l.length) ∨ (t = false ∧ pcsOf x l = [] ∧ R = []))
theorem findU_of {x : Int} {A0 : Option Addr} {l : List Rw} {w w' : World} {e : Ending} (h : FindR (fun r => decide (r.pt = x)) A0 l w e w') : FindU x A0 l w e w' := by
  obtain ⟨hb, ⟨i, hi, A, c, rfl, hc, hl, hp, hno⟩ | ⟨rfl, hno⟩⟩ := h
  · refine ⟨hb, l[i], A, l.drop (i + 1), c, true, ?_, by simp; omega, by simp, hl, .inl ⟨rfl, pcs_found hi hp hno, by simp; omega⟩⟩
    rw [List.length_drop]
  · exact ⟨hb, r0, none, [], 0, false, rfl, by simp, by simp, fun _ _ _ => RLies.nil _ _ _, .inr ⟨rfl, pcs_none hno, rfl⟩⟩
/-- ahead of a round -/
structure Going (x : Int) (l : List Rw) (W wr : World) (v : Value) (ps : List Int) (g : Nat) (r : Rw) (A : Option Addr) (R : List Rw) (t : Bool) : Prop where
  own : NOwn wr W.heap.size v ps
  row : RowAt wr g r
  lies : RLies W W.heap.size A R
  few : R.length ≤ l.length
  yes : t = true → pcsOf x l = ps ++ r.pc :: pcsOf x R
  no : t = false → pcsOf x l = ps
  apart : v.ownBlock ≠ some g
  at_ : W.heap.size ≤ g
  plen : ps.length ≤ l.length

set_option maxRecDepth 100000 in
set_option maxHeartbeats 1000000 in
theorem pcs_any (A : Option Addr) (c : Nat) (l : List Rw) (x : Int) (w : World) (hn : l.length ≤ 1099511627776) (hc : l.length ≤ c) (h : RLies w w.heap.size A l) :
    Calls Try.prog 21 #[.slice A l.length c, .int .i64 x] w (PcsR l x w) := by
  have hb0 := below_new w (.cells #[.int .i64 x] 3)
  have hx0 : (w.alloc (.cells #[.int .i64 x] 3)).cell? ⟨w.heap.size, 0, none⟩ = some (.int .i64 x) := by
    have := heap_alloc_new w (.cells #[.int .i64 x] 3)
    simp only [World.cell?, this]
    rfl
  have hW := h.next hb0
  have hgb : w.heap.size < (w.alloc (.cells #[.int .i64 x] 3)).heap.size := by simp
  go_enter Try.func21, Try.ntmps21
  go_wp2_with fail
  clear h
  generalize w.alloc (.cells #[.int .i64 x] 3) = W at *
  have HB0 := Lib.hid hb0
  have hT : Tells 31 #[.pointer (some ⟨w.heap.size, 0, none⟩)] (fun r => decide (r.pt = x)) W.heap.size W :=
    fun r w2 hb => pcs1_any r w.heap.size x w2 ((hb.cell (p := ⟨w.heap.size, 0, none⟩) hgb).trans hx0)
  have HT := Lib.hid (fun (A : Option Addr) (c : Nat) (R : List Rw) (hc : R.length ≤ c) (hR : R.length ≤ l.length) (hl : RLies W W.heap.size A R) (w2 : World) (hb : Below W.heap.size W w2) =>
    (find_any 31 #[.pointer (some ⟨w.heap.size, 0, none⟩)] (fun r => decide (r.pt = x)) A c R w2 (by omega) hc ((hl.below hb).more hb.size) enter_pcs (fun r w3 hb3 => hT r w3 (hb.trans (hb3.mono hb.size)))).mono fun _ _ => findU_of)
  have HW := Lib.hid hW
  clear hb0 hx0 hT hW
  generalize hgbe : w.heap.size = gb at *
  refine (HT.out A c l hc (Nat.le_refl _) HW.out W (Below.refl _ _)).mono ?_
  rintro e w1 ⟨hb1, r, A2, R, c2, t, rfl, hc2, hR, hl2, hcase⟩
  have hrow := rowAt_new w1 r
  have hbn := hb1.trans ((below_new w1 (.cells (rK r) 42)).mono hb1.size)
  have HG := Lib.hid (show Going x l W (w1.alloc (.cells (rK r) 42)) (.slice none 0 0) [] w1.heap.size r A2 R t from
    ⟨NOwn.nil _ _, hrow, hl2 _ _ HW.out, hR, (fun e => by
        rcases hcase with ⟨_, q, _⟩ | ⟨q, _, _⟩
        · exact q
        · rw [q] at e; cases e), (fun e => by
        rcases hcase with ⟨q, _, _⟩ | ⟨_, q, _⟩
        · rw [q] at e; cases e
        · exact q), by simp [Value.ownBlock], hb1.size, by simp⟩)
  have HBN := Lib.hid hbn
  clear hrow hbn hcase hl2
  unfold rK at HG HBN
  unfold rv rK
  go_wp2_with fail
  generalize w1.alloc (.cells #[.int .i64 r.pc, .int .i64 r.pt] 42) = w2 at *
  generalize w1.heap.size = g1 at *
  go_loopw [6, 7, 8, 9] (fun v p s b wr => ∃ (ps : List Int) (g : Nat) (r : Rw) (A : Option Addr) (c : Nat) (R : List Rw) (t : Bool), p = .pointer (some ⟨g, 0, none⟩) ∧ s = .slice A R.length c ∧ b = .bool t ∧ R.length ≤ c ∧ Hid (Below W.heap.size W wr) ∧ Hid (Going x l W wr v ps g r A R t)) (fun _ _ s b _ => lenV s + oneV b)
  case atStart => exact ⟨[], g1, r, A2, c2, R, t, rfl, rfl, rfl, hc2, HBN, HG⟩
  case round =>
    obtain ⟨ps, g, r, A3, c3, R, t, rfl, rfl, rfl, hc3, hB, hG⟩ := hrel
    clear HBN HG
    cases t
    · have HE := Lib.hid (hG.out.no rfl)
      have hO := Lib.hid hG.out.own
      have hz := Lib.hid HB0.out.size
      clear hG
      go_wp2_with fail
      go_ret
      refine ⟨_, rfl, ?_, ?_⟩
      · rw [HE.out, hgbe]; exact hO.out.base (by have := hz.out; omega)
      · rw [hgbe]; exact HB0.out.trans (hB.out.mono (by have := hz.out; omega))
    · have HY := Lib.hid (hG.out.yes rfl)
      have hO := Lib.hid hG.out.own
      have hgl := hG.out.row.lt
      have c0 := hG.out.row.pc
      have hpl := hG.out.plen
      have hnb := below_new wr (.cells #[.int .i64 r.pc] 3)
      have hx1 := Lib.hid (show (wr.alloc (.cells #[.int .i64 r.pc] 3)).cell? ⟨wr.heap.size, 0, none⟩ = some (.int .i64 r.pc) from by
        have := heap_alloc_new wr (.cells #[.int .i64 r.pc] 3)
        simp only [World.cell?, this]
        rfl)
      have hO1 := Lib.hid (hO.out.below hnb)
      have hR1 := Lib.hid (hG.out.row.below hnb hgl)
      have hB1 := Lib.hid (hB.out.trans (hnb.mono hB.out.size))
      have hapart := Lib.hid hG.out.apart
      have hfew := hG.out.few
      have hlies := Lib.hid hG.out.lies
      clear hnb hG
      go_wp2_with (at_builtin
                   refine app_n _ rfl (.tmp 26) (.tmp 29) rfl W.heap.size _ ps rfl hO1.out wr.heap.size 1 r.pc rfl hx1.out (by omega) (by have := hB.out.size; simp; omega) ?_
                   intro v3 w3 ho3 hg3
                   have hR3 := Lib.hid (hR1.out.kept hg3 hapart.out)
                   have hB3 := Lib.hid (below_ngrown hB1.out hg3 hO1.out (by have := hB.out.size; simp; omega))
                   have hg3l := hR3.out.lt
                   have d0 := hR3.out.pc
                   have d1 := hR3.out.pt
                   clear hg3)
      have hnb4 := below_new w3 (.cells (rK r) 42)
      have hB4 := Lib.hid (hB3.out.trans (hnb4.mono hB3.out.size))
      have hO4 := Lib.hid (ho3.below hnb4)
      have hR4 := Lib.hid (rowAt_new w3 r)
      have hvl := Lib.hid (fun k e => (ho3.lt k e).2)
      unfold rK at hB4 hO4 hR4
      refine (HT.out A3 c3 R hc3 hfew hlies.out _ hB4.out).mono ?_
      rintro e w5 ⟨hb5, r', A5, R', c5, t', rfl, hc5, hR5, hl5, hcase⟩
      have hO5 := Lib.hid (hO4.out.below hb5)
      have hR5' := Lib.hid (hR4.out.below hb5 (by simp))
      have hB5 := Lib.hid (hB4.out.trans (hb5.mono hB4.out.size))
      have f0 := hR5'.out.frozen 0
      have f1 := hR5'.out.frozen 1
      have e0 := hR5'.out.pc
      have e1 := hR5'.out.pt
      have hB6 := Lib.hid (hB5.out.grown (put2_grown w5 w3.heap.size r') hB5.out.size (fun j e => by cases e; exact hB3.out.size))
      have hR6 := Lib.hid (put2_at hR5'.out r')
      have hO6 := Lib.hid (hO5.out.kept (fun j e => (put2_grown w5 w3.heap.size r').block j (by have := (hO5.out.lt j e).2; omega) (fun e' => by cases e'; have := hvl.out _ e; omega)))
      have HC := Lib.hid hcase
      have HL5 := Lib.hid hl5
      clear hcase hl5 hb5
      unfold rv rK
      unfold put2 at hB6 hR6 hO6
      go_wp2_with fail
      go_roundw
      case rel =>
        refine ⟨ps ++ [r.pc], w3.heap.size, r', A5, c5, R', t', rfl, rfl, rfl, hc5, hB6, Lib.hid ⟨hO6.out, hR6.out, HL5.out _ _ hlies.out, by omega, fun e => ?_, fun e => ?_, fun e => by have := hvl.out _ e; omega, hB3.out.size, ?_⟩⟩
        · rcases HC.out with ⟨_, q, _⟩ | ⟨q, _, _⟩
          · rw [HY.out, q]; simp
          · rw [q] at e; cases e
        · rcases HC.out with ⟨q, _, _⟩ | ⟨_, q, _⟩
          · rw [q] at e; cases e
          · rw [HY.out, q]
        · have := congrArg List.length HY.out
          have := pcs_len x l
          simp at *
          omega
      case measure =>
        rcases HC.out with ⟨q, _, q3⟩ | ⟨q, _, q3⟩
        · rw [q]; simp only [lenV, oneV]; omega
        · rw [q, q3]; simp [lenV, oneV]
end Go.Proofs.Ytfpgmaegpiiagaa
