/-
  Merged for a claim: KP, R0B, T0D.
-/
import Derived.Test.YtbkfkdiadeaooaaGreatHJ0
import Derived.Laws.CopyOwn
import Derived.Test.YtbkfkdiadeaooaaGreatHJ7
import Derived.Test.YtbkfkdiadeaooaaGreatHT0C
import Derived.Test.YtbkfkdiadeaooaaGreatHJ23
import Derived.Test.YtbkfkdiadeaooaaGreatHJ24
namespace Go.Proofs.YtbkfkdiadeaooaaGreat
open Go.RowKit

section
variable {ops : Array Oper} {rest : List Oper} {o : Oper} {a : Act} {Q : Exit → Act → World → Prop}

theorem u8_size : (Tryz.prog.info? 5).map (·.size) = some 1 := by kernel_rfl

theorem grown_setRow (w : World) (g : Nat) (cs : Array Value) : w.grownBy (w.setRow g cs) (some g) :=
  ⟨rfl, rfl, rfl, by simp, fun k _ hk => setRow_other w g k _ (fun e => hk (by rw [e]))⟩

set_option maxRecDepth 10000 in
theorem copy_blk (w : World) (hgd : o.guard = none) (d s : Operand) (ho : o.op = .call { callee := .builtin .copy, args := #[d, s], argTypes := #[22, 22] })
    (g off : Nat) (L : List UInt8) (hb : Blk w g L) (dLen dCap : Nat) (hd : a.eval d = .slice (some ⟨g, off, none⟩) dLen dCap)
    (A : Option Addr) (c C : Nat) (l2 : List UInt8) (hs : a.eval s = .slice A l2.length c) (hl : Lies w C A l2) (m : Nat) (hm : Nat.min l2.length dLen = m) (hfit : off + m ≤ L.length)
    (h : ∀ w', Blk w' g (L.take off ++ l2.take m ++ L.drop (off + m)) → w.grownBy w' (some g) → wpList Tryz.prog ops Q rest (a.put o.dst (goInt m)) w') :
    wpList Tryz.prog ops Q (o :: rest) a w := by
  have hml : m ≤ l2.length := by rw [← hm]; exact Nat.min_le_left _ _
  refine wpList_plain hgd fun K hK' => ?_
  by_cases h0 : m = 0
  · have hrun := run_copy_none (P := Tryz.prog) w 22 22 o.type 5 (some ⟨g, off, none⟩) A dLen dCap l2.length c Tryz.underlying22 u8_size (by rw [hm, h0])
    unfold Oper.wp
    simp [execOp, ho, resolve, invoke, builtin, hd, hs, hrun, Result.andThen]
    have := h w (by subst h0; simpa using hb) (World.grownBy.refl _ _)
    rw [h0] at this
    exact hK' _ _ this
  · obtain ⟨sg, so, rfl, _, _⟩ := hl (by omega)
    have hrun := run_copy_row (P := Tryz.prog) w 22 22 o.type 5 g off dLen dCap ⟨sg, so, none⟩ l2.length c _ 5 ((l2.take m).map b8) Tryz.underlying22 u8_size hb
      (by rw [hm]; simp; omega) (by
        intro j v hv
        have hj : j < m := by have := (List.getElem?_eq_some_iff.1 hv).1; simp at this; omega
        obtain ⟨g', o', e, _, hc⟩ := hl.at_ (show j < l2.length by omega)
        cases e
        rw [show (⟨sg, so, none⟩ : Addr).add j = ⟨sg, so + j, none⟩ from add_zero_off sg so j, hc]
        simpa [hj, b8, show j < l2.length by omega] using hv) (by simp; omega) (b8_one _)
    have hlen : ((l2.take m).map b8).length = m := by simp; omega
    have hset := setRow_heap w g _ ((((L.map b8).toArray).toList.take off ++ (l2.take m).map b8 ++ ((L.map b8).toArray).toList.drop (off + ((l2.take m).map b8).length)).toArray) _ _ hb
    unfold Oper.wp
    simp only [execOp, ho, resolve, invoke, builtin, Sem.run_bind, Sem.run_pure, Result.andThen_ok, List.map_toArray, List.map_cons, List.map_nil, hd, hs, hrun, hlen]
    rw [hlen] at hset
    refine hK' _ _ (h _ ?_ (grown_setRow w g _))
    unfold Blk
    rw [hset]
    congr 2
    simp [List.map_take, List.map_drop]

set_option maxRecDepth 10000 in
/-- append of bytes that fit -/
theorem app_fit (w : World) (hgd : o.guard = none) (s x : Operand) (ho : o.op = .call { callee := .builtin .append, args := #[s, x], argTypes := #[22, 22] })
    (g n cp : Nat) (L : List UInt8) (hb : Blk w g L) (hs : a.eval s = .slice (some ⟨g, 0, none⟩) n cp)
    (sg so c C : Nat) (l2 : List UInt8) (hx : a.eval x = .slice (some ⟨sg, so, none⟩) l2.length c) (hl : Lies w C (some ⟨sg, so, none⟩) l2)
    (hfit : n + l2.length ≤ cp) (hcp : cp ≤ L.length)
    (h : ∀ w', Blk w' g (L.take n ++ l2 ++ L.drop (n + l2.length)) → w.grownBy w' (some g) → wpList Tryz.prog ops Q rest (a.put o.dst (.slice (some ⟨g, 0, none⟩) (n + l2.length) cp)) w') :
    wpList Tryz.prog ops Q (o :: rest) a w := by
  obtain ⟨i0, hi0, hz0, hz1, hz2⟩ := info_parts u8_info
  have hnews : ∀ j u, (l2.map b8)[j]? = some u → w.cell? ((⟨sg, so, none⟩ : Addr).add j) = some u := by
    intro j u hu
    have hj : j < l2.length := by have := (List.getElem?_eq_some_iff.1 hu).1; simpa using this
    obtain ⟨g', o', e, _, hc⟩ := hl.at_ hj
    cases e
    rw [show (⟨sg, so, none⟩ : Addr).add j = ⟨sg, so + j, none⟩ from add_zero_off sg so j, hc]
    simpa [hj, b8] using hu
  have hr := run_append_room (P := Tryz.prog) w 22 o.type 5 i0 Tryz.underlying22 hi0 g n cp _ hb ⟨sg, so, none⟩ l2.length c (l2.map b8) (by simp [hz1]) hnews (b8_one _) hfit (by simp [hz1]; omega)
  have hset := setRow_heap w g _ (((L.map b8).toArray.toList.take (n * i0.size) ++ l2.map b8 ++ (L.map b8).toArray.toList.drop (n * i0.size + (l2.map b8).length)).toArray) _ _ hb
  refine wpList_plain hgd fun K hK' => ?_
  unfold Oper.wp execOp
  simp only [ho, resolve, invoke, builtin, Sem.run_bind, Sem.run_pure, Result.andThen_ok, List.map_toArray, List.map_cons, List.map_nil, hs, hx, hr]
  refine hK' _ _ (h _ ?_ (grown_setRow w g _))
  unfold Blk
  rw [hset]
  congr 2
  simp [hz1, List.map_take, List.map_drop]
end

end Go.Proofs.YtbkfkdiadeaooaaGreat

namespace Go.Proofs.YtbkfkdiadeaooaaGreat
open Go.RowKit

def t8 : List UInt8 := [8, 7, 6, 5, 4, 3, 2, 1]
/-- l, the first j of the eight, and noughts -/
def part8 (l : List UInt8) (j : Nat) : List UInt8 := l ++ t8.take j ++ List.replicate (8 - j) 0
theorem part8_zero (l : List UInt8) : l ++ List.replicate 8 0 = part8 l 0 := by simp [part8]
theorem part8_last (l : List UInt8) : part8 l 8 = l ++ t8 := by simp [part8, t8]
theorem part8_len (l : List UInt8) (j : Nat) (h : j ≤ 8) : (part8 l j).length = l.length + 8 := by simp [part8, t8]; omega
theorem part8_step (l : List UInt8) (j : Nat) (h : j < 8) : (part8 l j).take (l.length + j) ++ [UInt8.ofNat (8 - j)] ++ (part8 l j).drop (l.length + j + 1) = part8 l (j + 1) := by
  have e : (t8.take j).length = j := by simp [t8]; omega
  have h1 : (l ++ t8.take j).length = l.length + j := by simp [e]
  unfold part8
  rw [show 8 - j = (8 - (j + 1)) + 1 by omega, List.replicate_succ, ← h1, List.take_left, ← List.drop_drop, List.drop_left, List.drop_one, List.tail_cons]
  have h2 : t8.take (j + 1) = t8.take j ++ [UInt8.ofNat (8 - j)] := by
    have : j = 0 ∨ j = 1 ∨ j = 2 ∨ j = 3 ∨ j = 4 ∨ j = 5 ∨ j = 6 ∨ j = 7 := by omega
    rcases this with rfl | rfl | rfl | rfl | rfl | rfl | rfl | rfl <;> rfl
  rw [h2, List.append_assoc l (t8.take j) [_]]
  simp only [List.append_assoc, show 8 - (j + 1) + 1 = 8 - j by omega]

def RoomyR (w : World) (l : List UInt8) (e : Ending) (w' : World) : Prop :=
  e = .returned (.slice (some ⟨w.heap.size, 0, none⟩) l.length (l.length + 8)) ∧ Blk w' w.heap.size (l ++ t8) ∧ Below w.heap.size w w'

theorem eight_lies (w : World) (m : Nat) (h : m ≤ 8) : Lies (w.alloc (.cells #[.int .u8 (m : Int)] 5)) (w.alloc (.cells #[.int .u8 (m : Int)] 5)).heap.size (some ⟨w.heap.size, 0, none⟩) [UInt8.ofNat m] :=
  lies_lit w 5 _ _ (by
    have h0 : ((UInt8.ofNat m).toNat : Int) = (m : Int) := by simp; omega
    simp only [List.map_cons, List.map_nil, b8, h0])
theorem slice_eq {A : Option Addr} {n m c : Nat} (h : n = m) : Value.slice A n c = .slice A m c := by rw [h]
theorem u8_eq {a b : Int} (h : a = b) : Value.int .u8 a = .int .u8 b := by rw [h]

set_option maxRecDepth 100000 in
set_option maxHeartbeats 1000000 in
theorem roomy_any (A : Option Addr) (c : Nat) (l : List UInt8) (w : World) (hn : l.length ≤ 1099511627776) (h : Lies w w.heap.size A l) :
    Calls Tryz.prog 5 #[.slice A l.length c] w (RoomyR w l) := by
  go_enter Tryz.func5, Tryz.ntmps5
  go_wp2_with (first
    | (at_make
       refine make_bytes _ rfl (.tmp 6) (.tmp 9) rfl l.length (l.length + 8) _ _ rfl rfl rfl (by omega) (by omega) (by omega) ?_
       intro w1 hk1 hb1 hs1)
    | (with_reducible refine copy_blk _ rfl (.tmp 11) (.tmp 12) rfl w.heap.size 0 _ hk1 l.length (l.length + 8) rfl A c w.heap.size l rfl (h.below hb1) l.length (Nat.min_self _) (by simp) ?_
       intro w2 hk2 hg2))
  have hk3 : Blk w2 w.heap.size (part8 l (8 - 8)) := by
    have := hk2
    rw [← part8_zero]
    simpa using this
  have hb2 : Below w.heap.size w w2 := hb1.grown hg2 (by omega) (fun k e => by cases e; exact Nat.le_refl _)
  clear hk2 hg2
  go_loopw [3, 4] (fun v i wr => ∃ m : Nat, m ≤ 8 ∧ i = .int .u8 m ∧ v = .slice (some ⟨w.heap.size, 0, none⟩) (l.length + (8 - m)) (l.length + 8) ∧ Hid (Blk wr w.heap.size (part8 l (8 - m))) ∧ Hid (Below w.heap.size w wr)) (fun _ i _ => (intOf i).toNat)
  case atStart => exact ⟨8, by omega, rfl, slice_eq (by omega), hk3, hb2⟩
  case round =>
    obtain ⟨m, hm, rfl, rfl, hk, hb⟩ := hrel
    have hz := hb.out.size
    clear hk3 hb1 hb2 hs1
    by_cases hlt : 0 < m
    · have HS := Lib.hid (part8_step l (8 - m) (by omega))
      go_wp2_with (first
        | (at_builtin
           refine app_fit _ rfl (.tmp 18) (.tmp 20) rfl w.heap.size (l.length + (8 - m)) (l.length + 8) _ (hk.out.alloc _) rfl wr.heap.size 0 1 _ [UInt8.ofNat m] rfl (eight_lies wr m hm) (by simp; omega) (by rw [part8_len _ _ (by omega)]; omega) ?_
           intro w3 hk3 hg3
           have hb3 := (hb.out.alloc hz (.cells #[.int .u8 (m : Int)] 5)).grown hg3 (by simp; omega) (fun k e => by cases e; exact Nat.le_refl _)
           have hk4 : Blk w3 w.heap.size (part8 l (8 - (m - 1))) := by
             have h8 := HS.out
             rw [show 8 - (8 - m) = m by omega, show 8 - m + 1 = 8 - (m - 1) by omega] at h8
             rw [← h8]
             exact hk3
           clear hk3 hg3))
      go_roundw
      case rel => exact ⟨m - 1, by omega, u8_eq (by omega), slice_eq (by omega), hk4, hb3⟩
      case measure => simp [intOf]; omega
    · obtain rfl : m = 0 := by omega
      have hk4 := hk.out
      simp only [Nat.sub_zero, part8_last] at hk4
      clear hk
      go_wp2
      go_ret
      exact ⟨rfl, hk4, hb⟩

set_option maxRecDepth 100000 in
set_option maxHeartbeats 1000000 in
theorem kept_any (g : Nat) (A : Option Addr) (c B : Nat) (l : List UInt8) (w : World) (hn : l.length ≤ 1099511627776) (hk : Blk w g (l ++ t8)) (h : Lies w B A l) :
    Calls Tryz.prog 10 #[.slice (some ⟨g, 0, none⟩) l.length (l.length + 8), .slice A l.length c] w fun e w' => e = .returned (.bool true) ∧ w = w' := by
  have HK := Lib.hid hk
  clear hk
  go_enter Tryz.func10, Tryz.ntmps10
  go_wp2
  go_loop [27] (fun i => ∃ k : Nat, k ≤ l.length + 8 ∧ i = .int .i64 k) (fun i => l.length + 8 - (intOf i).toNat)
  case atStart => exact ⟨0, by omega, rfl⟩
  case round =>
    obtain ⟨k, hk, rfl⟩ := hrel
    by_cases hlt : k < l.length
    · have d1 := HK.out.cell (j := k) (by simp; omega)
      rw [List.getElem_append_left hlt] at d1
      obtain ⟨g', o, rfl, hg, hc⟩ := h.at_ hlt
      have b : ((l[k].toNat : Int) != (l[k].toNat : Int)) = false := by simp
      have hk3 : (k : Int) < (l.length : Int) + 8 := by omega
      have hk2 : k < l.length + 8 := by omega
      go_wp2
      go_round
      case rel => exact ⟨k + 1, by omega, by go_num⟩
      case measure => simp [intOf]; omega
    · by_cases hlt2 : k < l.length + 8
      · have d1 := HK.out.cell (j := k) (by simp [t8]; omega)
        rw [List.getElem_append_right (by omega)] at d1
        have hv : ((t8[k - l.length]'(by simp [t8]; omega)).toNat : Int) = 8 + (l.length : Int) - k := by
          obtain ⟨j, hj⟩ : ∃ j, k - l.length = j := ⟨_, rfl⟩
          simp only [hj]
          have : j = 0 ∨ j = 1 ∨ j = 2 ∨ j = 3 ∨ j = 4 ∨ j = 5 ∨ j = 6 ∨ j = 7 := by omega
          rw [show 8 + (l.length : Int) - k = 8 - (j : Int) by omega]
          rcases this with rfl | rfl | rfl | rfl | rfl | rfl | rfl | rfl <;> rfl
        rw [hv] at d1
        clear hv
        have b : ((8 + (l.length : Int) - (k : Int)) != (8 + (l.length : Int) - (k : Int))) = false := by simp
        have hk3 : (k : Int) < (l.length : Int) + 8 := by omega
        go_wp2
        go_round
        case rel => exact ⟨k + 1, by omega, by go_num⟩
        case measure => simp [intOf]; omega
      · have hk3 : ¬ (k : Int) < (l.length : Int) + 8 := by omega
        go_wp2
        go_ret
        exact ⟨rfl, rfl⟩

end Go.Proofs.YtbkfkdiadeaooaaGreat

namespace Go.Proofs.YtbkfkdiadeaooaaGreat
open Go Go.RowKit

/-- both readers read the same -/
theorem dget_gt {b : List UInt8} {i : Int} {w w' : World} {e : Ending} (h : GetD9 b i w e w') : GetR9 b i w e w' := by
  obtain ⟨e1, e2⟩ := gd_gt (b := b) i
  unfold GetD9 at h
  unfold GetR9
  by_cases q : gtE b i = 0
  · rw [e1, (e2 q).1, (e2 q).2] at h
    exact h
  · rw [e1, if_neg q, if_neg q, if_neg q] at h
    rw [if_neg q, if_neg q, if_neg q]
    exact h
theorem dget9_any (A : Option Addr) (c : Nat) (b : List UInt8) (i : Int) (w : World) (hc : b.length ≤ c) (hbn : b.length ≤ 1099511627776) (h : Lies w w.heap.size A b) :
    Calls Tryz.prog 7 #[.slice A b.length c, .int .i64 i] w (GetR9 b i w) := (dget_any A c b i w hc hbn h).mono fun _ _ h => dget_gt h
theorem sm_got {b : List UInt8} {i : Int} (hb : b.length ≤ 1099511627776) {ps : List Pp} {qs : List Pq} (hp : ps.map Pp.d = if gtE b i = 0 then (gtL b i).1 else []) (hq : qs.map Pq.d = if gtE b i = 0 then (gtQ b i).1 else []) :
    (ps.length ≤ 1099511627776 ∧ ∀ p ∈ ps, SmP p ∧ p.vs.length ≤ 1099511627776 ∧ p.ss.length ≤ 1099511627776 ∧ ∀ v ∈ p.vs, v.d.fs.length ≤ 1099511627776) ∧ qs.length ≤ 1099511627776 ∧ ∀ q ∈ qs, q.d.sc.length ≤ 1099511627776 := by
  by_cases q : gtE b i = 0
  · obtain ⟨e1, e2⟩ := gd_gt (b := b) i
    rw [if_pos q] at hp hq
    rw [← (e2 q).1] at hp
    rw [← (e2 q).2] at hq
    obtain ⟨⟨h1, h2⟩, h3, h4⟩ := dgot_sm hb hp hq
    exact ⟨⟨by omega, fun p hp => ⟨(h3 p hp).1, (h3 p hp).2.2.1, (h3 p hp).2.2.2.1, fun v hv => ((h3 p hp).2.2.2.2 v hv).2.2.1⟩⟩, by omega, h4⟩
  · rw [if_neg q] at hp hq
    have e1 : ps = [] := by simpa using hp
    have e2 : qs = [] := by simpa using hq
    subst e1 e2
    exact ⟨⟨by simp, fun p hp => absurd hp (by simp)⟩, by simp, fun p hp => absurd hp (by simp)⟩
def GetX (L : List Plc) (Q : List Pnt) (N E : Int) (w : World) (e : Ending) (w' : World) : Prop :=
  ∃ v1 v2, e = .returned (.tuple #[v1, v2, .int .i64 N, .int .i64 E]) ∧ PO w' w.heap.size v1 L ∧ QO w' w.heap.size v2 Q ∧ Below w.heap.size w w'
theorem getX_any {b : List UInt8} {i : Int} (hb : b.length ≤ 1099511627776) : ∃ (L : List Plc) (Q : List Pnt) (N E : Int),
    (∀ A c w, b.length ≤ c → Lies w w.heap.size A b → Calls Tryz.prog 6 #[.slice A b.length c, .int .i64 i] w (GetX L Q N E w)) ∧
    (∀ A c w, b.length ≤ c → Lies w w.heap.size A b → Calls Tryz.prog 7 #[.slice A b.length c, .int .i64 i] w (GetX L Q N E w)) ∧
    (∀ (ps : List Pp) (qs : List Pq), ps.map Pp.d = L → qs.map Pq.d = Q → (ps.length ≤ 1099511627776 ∧ ∀ p ∈ ps, SmP p ∧ p.vs.length ≤ 1099511627776 ∧ p.ss.length ≤ 1099511627776 ∧ ∀ v ∈ p.vs, v.d.fs.length ≤ 1099511627776) ∧ qs.length ≤ 1099511627776 ∧ ∀ q ∈ qs, q.d.sc.length ≤ 1099511627776) :=
  ⟨_, _, _, _, fun A c w hc h => get9_any A c b i w hc hb h, fun A c w hc h => dget9_any A c b i w hc hb h, fun _ _ h1 h2 => sm_got hb h1 h2⟩
theorem kept9_n (g : Nat) (A : Option Addr) (c B : Nat) (l : List UInt8) (w : World) (hn : l.length ≤ 1099511627776) (hk : Blk w g (l ++ t8)) (h : Lies w B A l) :
    Calls Tryz.prog 10 #[.slice (some ⟨g, 0, none⟩) l.length (l.length + 8), .slice A l.length c] w fun e w' => e = .returned (.bool true) ∧ w = w' := kept_any g A c B l w hn hk h

set_option maxRecDepth 100000 in
set_option maxHeartbeats 4000000 in
theorem scopesGets_any (A : Option Addr) (c : Nat) (b : List UInt8) (i : Int) (w : World) (hc : b.length ≤ c) (h : Lies w w.heap.size A b) :
    Calls Tryz.prog 3 #[.slice A b.length c, .int .i64 i] w (BoolR true w) := by
  by_cases hbig : 8192 < b.length
  · have hb2 : (8192 : Int) < b.length := by omega
    go_enter Tryz.func3, Tryz.ntmps3
    go_wp2_with fail
    refine (works9_any _).mono ?_
    rintro e w' ⟨rfl, hb⟩
    go_wp2
    go_ret
    exact ⟨rfl, hb⟩
  · have hb2 : (b.length : Int) ≤ 8192 := by omega
    have HL := Lib.hid h
    have HC := Lib.hid hc
    obtain ⟨L, Q, N, E, hg1, hg2, hsm0⟩ := getX_any (b := b) (i := i) (by omega)
    have HG1 := Lib.hid hg1
    have HG2 := Lib.hid hg2
    have HS0 := Lib.hid hsm0
    clear h hc hg1 hg2 hsm0
    go_enter Tryz.func3, Tryz.ntmps3
    go_wp2_with fail
    refine (roomy_any A c b _ (by omega) HL.out).mono ?_
    rintro e w1 ⟨rfl, hk1, hb1⟩
    have HK1 := Lib.hid hk1
    have HB1 := Lib.hid hb1
    have HI1 := Lib.hid (hk1.lies (List.prefix_append b t8) hk1.lt)
    have g01 := hk1.lt
    clear hk1 hb1
    go_wp2_with fail
    refine (HG1.out _ _ w1 (Nat.le_add_right _ _) HI1.out).mono ?_
    rintro e w2 ⟨v2, y2, rfl, ho2, hq2, hb2'⟩
    have HB2 := Lib.hid (HB1.out.trans (hb2'.mono HB1.out.size))
    have HK2 := Lib.hid (HK1.out.below hb2' g01)
    have HO2 := Lib.hid ho2
    have HQ2 := Lib.hid hq2
    have g12 := hb2'.size
    clear ho2 hq2 hb2'
    go_wp2_with fail
    refine (HG2.out A c w2 HC.out ((HL.out.below HB2.out).more HB2.out.size)).mono ?_
    rintro e w3 ⟨v3, y3, rfl, ho3, hq3, hb3⟩
    have HB3 := Lib.hid (HB2.out.trans (hb3.mono HB2.out.size))
    have HK3 := Lib.hid (HK2.out.below hb3 (by omega))
    have g23 := hb3.size
    obtain ⟨A2, c2, ps, rfl, e2, _, _, hM2⟩ := (HO2.out.below hb3).form
    obtain ⟨A3, c3, qs, rfl, e3, _, _, hM3⟩ := ho3.form
    obtain ⟨A4, c4, xs, rfl, e4, _, _, hM4⟩ := (HQ2.out.below hb3).form
    obtain ⟨A5, c5, ys, rfl, e5, _, _, hM5⟩ := hq3.form
    have hsm := HS0.out ps xs e2 e4
    have HSM := Lib.hid (same9_any A2 A3 c2 c3 ps qs w3 (by rw [e2, e3]) hsm.1.1 hsm.1.2 hM2 hM3)
    have HSP := Lib.hid (fun w4 (hb : Below w3.heap.size w3 w4) => samePoints_any A4 A5 c4 c5 xs ys w4 (by rw [e4, e5]) hsm.2.1 hsm.2.2 (hM4.next hb) (hM5.next hb))
    clear ho3 hq3 hb3 hM2 hM3 hM4 hM5 HO2 HQ2 e2 e3 e4 e5 hsm
    go_wp2_with fail
    refine HSM.out.mono ?_
    rintro e w4 ⟨rfl, hb4⟩
    have HB4 := Lib.hid (HB3.out.trans (hb4.mono HB3.out.size))
    have HK4 := Lib.hid (HK3.out.below hb4 (by omega))
    have HP4 := Lib.hid (HSP.out w4 hb4)
    have g34 := hb4.size
    clear hb4 HSP
    go_wp2_with fail
    refine HP4.out.mono ?_
    rintro e w5 ⟨rfl, hb5⟩
    have HB5 := Lib.hid (HB4.out.trans (hb5.mono HB4.out.size))
    have HK5 := Lib.hid (HK4.out.below hb5 (by omega))
    clear hb5
    go_wp2_with fail
    refine (kept9_n w.heap.size A c w.heap.size b w5 (by omega) HK5.out (HL.out.below HB5.out)).mono ?_
    rintro e w' ⟨rfl, rfl⟩
    go_wp2_with fail
    refine (works9_any _).mono ?_
    rintro e w7 ⟨rfl, hb7⟩
    go_wp2_with fail
    go_ret
    exact ⟨rfl, HB5.out.trans (hb7.mono HB5.out.size)⟩
end Go.Proofs.YtbkfkdiadeaooaaGreat
