/-
  Merged for a claim: C4M.
-/
import Derived.Test.YtdnpoeegefkoiaaGreatFC4L
import Derived.Laws.MakeOwn
namespace Go.Proofs.YtdnpoeegefkoiaaGreat
open Go Go.RowKit

set_option maxRecDepth 100000 in
/-- bytes taken down anew -/
theorem cloneB_some (A : Addr) (c : Nat) (l : List UInt8) (w : World) (h : Lies w w.heap.size (some A) l) (hl : l.length ≤ 1099511627776) : Calls Tryz.prog 23 #[.slice (some A) l.length c] w (Made w l) := by
  have hb0 := below_box w (.cells #[] 5)
  have h1 := Lib.hid ((h.below hb0).more hb0.size)
  have h2 := Lib.hid (show Own (w.alloc (.cells #[] 5)) w.heap.size (.slice (some ⟨w.heap.size, 0, none⟩) 0 0) [] from by
    have := Own.of (blk_lit w [] #[] rfl) (Nat.le_refl _) 0 (by simp) (by simp [maxLen])
    simpa using this)
  clear h
  have hn := fun w : World => Lib.run_eql_slice_nil (P := Tryz.prog) w 23 5 (some A) l.length c 0 0 Tryz.underlying23
  simp only [Option.isNone] at hn
  have HB0 := Lib.hid hb0
  clear hb0
  go_enter Tryz.func23, Tryz.ntmps23
  go_wp2_with (at_builtin; refine app_slice _ rfl (.tmp 5) (.tmp 6) rfl w.heap.size _ [] rfl h2.out (some A) c _ l rfl (by simp) h1.out (by simp; omega) (by simp) ?_; intro v1 w1 h3 h4)
  go_ret
  exact ⟨v1, rfl, by simpa using h3, below_grown HB0.out h4 h2.out (by simp)⟩
set_option maxRecDepth 100000 in
theorem cloneB_none (c : Nat) (w : World) : Calls Tryz.prog 23 #[.slice none 0 c] w (Made w []) := by
  have hn := fun w : World => Lib.run_eql_slice_nil (P := Tryz.prog) w 23 5 none 0 c 0 0 Tryz.underlying23
  simp only [Option.isNone] at hn
  go_enter Tryz.func23, Tryz.ntmps23
  go_wp2
  go_ret
  exact ⟨_, rfl, Own.nil _ _, Below.refl _ _⟩
theorem cloneB (A : Option Addr) (c : Nat) (l : List UInt8) (w : World) (h : Lies w w.heap.size A l) (hl : l.length ≤ 1099511627776) : Calls Tryz.prog 23 #[.slice A l.length c] w (Made w l) := by
  cases A with
  | some A => exact cloneB_some A c l w h hl
  | none =>
    have : l = [] := by
      cases l with
      | nil => rfl
      | cons x l => obtain ⟨_, _, e, _⟩ := h (by simp); cases e
    subst this
    exact cloneB_none c w

def m0 (code : List UInt8) (start words : Int) (input : List Int) : Mc := ⟨code, start, List.replicate 15 0 ++ [words], List.replicate words.toNat 0, input, [], 0, 0⟩
def newOk (n : Nat) (start words : Int) : Prop := (n : Int) ≤ 1048576 ∧ 0 ≤ start ∧ start ≤ n ∧ 1 ≤ words ∧ words ≤ 65536
instance (n : Nat) (start words : Int) : Decidable (newOk n start words) := by unfold newOk; infer_instance
def NewBad (w : World) (e : Ending) (w' : World) : Prop := e = .returned (.tuple #[.pointer none, .int .i64 1]) ∧ w = w'
def NewR (code : List UInt8) (start words : Int) (input : List Int) (w : World) (e : Ending) (w' : World) : Prop :=
  ∃ g p, e = .returned (.tuple #[.pointer (some ⟨g, 0, none⟩), .int .i64 0]) ∧ MIn w' (grow none_ w w') g (m0 code start words input) p ∧ Below w.heap.size w w'

set_option maxRecDepth 100000 in
set_option maxHeartbeats 400000 in
theorem new_bad (A A2 : Option Addr) (c k c2 n : Nat) (start words : Int) (w : World) (h : ¬ newOk n start words) :
    Calls Tryz.prog 8 #[.slice A n c, .int .i64 start, .int .i64 words, .slice A2 k c2] w (NewBad w) := by
  by_cases h1 : (n : Int) ≤ 1048576
  · by_cases h2 : 0 ≤ start
    · by_cases h3 : start ≤ n
      · by_cases h4 : 1 ≤ words
        · have h5 : ¬ words ≤ 65536 := fun h5 => h ⟨h1, h2, h3, h4, h5⟩
          clear h
          go_enter Tryz.func8, Tryz.ntmps8
          go_wp2_with fail
          go_ret2
          exact ⟨rfl, rfl⟩
        · clear h
          go_enter Tryz.func8, Tryz.ntmps8
          go_wp2_with fail
          go_ret2
          exact ⟨rfl, rfl⟩
      · clear h
        go_enter Tryz.func8, Tryz.ntmps8
        go_wp2_with fail
        go_ret2
        exact ⟨rfl, rfl⟩
    · clear h
      go_enter Tryz.func8, Tryz.ntmps8
      go_wp2_with fail
      go_ret2
      exact ⟨rfl, rfl⟩
  · clear h
    go_enter Tryz.func8, Tryz.ntmps8
    go_wp2_with fail
    go_ret2
    exact ⟨rfl, rfl⟩

/-- a new row of noughts -/
def zrow (n : Nat) : Obj := .cells ((List.replicate n 0).map iV).toArray 2
set_option maxRecDepth 10000 in
theorem run_makeI (n : Nat) (hn : n ≤ 1099511627776) (w : World) : (Instr.makeSlice 24 (.int .i64 n) (.int .i64 n)).run Tryz.prog w = .ok (.slice (some ⟨w.heap.size, 0, none⟩) n n) (w.alloc (zrow n)) := by
  obtain ⟨i0, hi0, hz0, hz1, hz2⟩ := info_parts i64_info
  have hrun := run_make (P := Tryz.prog) w 24 2 i0 _ Tryz.underlying24 hi0 hz0 .i64 .i64 n n (by omega) (by omega) (by rw [hz2]; omega) (by omega)
  simp only [Int.toNat_natCast] at hrun
  rw [hrun, hz1, Nat.mul_one, zrow]
  congr 3
  apply Array.ext'
  show (madeCells #[.int .i64 0] n).toList = _
  rw [toList_madeCells_one]
  simp [iV]
theorem zrow_blk {w : World} {g n : Nat} (h : w.heap[g]? = some (zrow n)) : IBlk w g (List.replicate n 0) := h
def mcells (vc : Value) (start : Int) (words : Int) (gw n : Nat) (vi : Value) : Array Value := #[vc, .int .i64 start, .int .i64 0, .int .i64 0, .int .i64 0, .int .i64 0, .int .i64 0, .int .i64 0, .int .i64 0, .int .i64 0, .int .i64 0, .int .i64 0, .int .i64 0, .int .i64 0, .int .i64 0, .int .i64 0, .int .i64 0, .int .i64 words,
  .slice (some ⟨gw, 0, none⟩) n n, vi, .slice none 0 0, .int .u8 0, .int .i64 0]
theorem own_lst {w : World} {B : Nat} {v : Value} {l : List UInt8} {S no : Nat → Prop} (h : Own w B v l) (hS : ∀ k, v.ownBlock = some k → S k ∧ no k) : ∃ A c, v = .slice A l.length c ∧ l.length ≤ c ∧ LSt w S no A l := by
  rcases h with ⟨rfl, rfl⟩ | ⟨g, r, rfl, hB, hm, hb⟩
  · exact ⟨none, 0, rfl, Nat.le_refl _, fun h => absurd h (by simp)⟩
  · refine ⟨_, _, rfl, Nat.le_add_right _ _, fun _ => ⟨g, 0, rfl, (hS g rfl).1, (hS g rfl).2, fun j hj => ?_⟩⟩
    rw [Nat.zero_add, hb.cell (by simp; omega)]
    simp [List.getElem_append_left hj]
theorem row_ist {w : World} {v : Value} {l : List Int} {S no : Nat → Prop} (h : IRow w v l) (hS : ∀ k, v.ownBlock = some k → S k ∧ no k) : ∃ A c, v = .slice A l.length c ∧ l.length ≤ c ∧ ISt w S no A l := by
  have h' := h
  rcases h.2 with ⟨rfl, h0⟩ | ⟨g, cap, cur, rfl, hg, hh, hn, _, hsz, ht⟩
  · exact ⟨none, 0, by rw [h0], by omega, fun hl => by omega⟩
  · refine ⟨_, cap, rfl, hn, fun _ => ⟨g, 0, rfl, (hS g rfl).1, (hS g rfl).2, fun j hj => ?_⟩⟩
    have := World.ownsRow.cellAt h' j (by simpa using hj)
    rw [Nat.zero_add, this]
    simp [iV, hj]
/-- a machine that was just made -/
theorem new_in {w W : World} {g gw : Nat} {vc vi : Value} {code : List UInt8} {start : Int} {n : Nat} {input : List Int} {B : Nat} (hself : W.heap[g]? = some (.cells (mcells vc start n gw n vi) 59 (0, 0))) (hg : w.heap.size ≤ g) (hgw : w.heap.size ≤ gw) (hne : gw ≠ g)
    (hc : Own W B vc code) (hcB : ∀ k, vc.ownBlock = some k → w.heap.size ≤ k ∧ k ≠ g ∧ k ≠ gw) (hi : IRow W vi input) (hiB : ∀ k, vi.ownBlock = some k → w.heap.size ≤ k ∧ k ≠ g ∧ k ≠ gw) (hw : IBlk W gw (List.replicate n 0)) :
    ∃ p, MIn W (grow none_ w W) g (m0 code start n input) p := by
  have hlt : ∀ k o, W.heap[k]? = some o → k < W.heap.size := fun k o h => by
    rcases Nat.lt_or_ge k W.heap.size with h' | h'
    · exact h'
    · rw [Array.getElem?_eq_none h'] at h; cases h
  obtain ⟨A, c, rfl, h1, h2⟩ := own_lst (S := grow none_ w W) (no := fun k => k ≠ g ∧ k ≠ gw ∧ (Value.slice none 0 0).ownBlock ≠ some k) hc (fun k e => ⟨.inr ⟨(hcB k e).1, (hc.lt k e).2⟩, (hcB k e).2.1, (hcB k e).2.2, by simp [Value.ownBlock]⟩)
  obtain ⟨A2, c2, rfl, h3, h4⟩ := row_ist (S := grow none_ w W) (no := fun k => k ≠ g ∧ k ≠ gw ∧ (Value.slice none 0 0).ownBlock ≠ some k) hi (fun k e => ⟨.inr ⟨(hiB k e).1, hi.lt k e⟩, (hiB k e).2.1, (hiB k e).2.2, by simp [Value.ownBlock]⟩)
  refine ⟨⟨A, c, gw, A2, c2, .slice none 0 0⟩, ⟨fun k hk => ?_, .inr ⟨hg, hlt _ _ hself⟩, ?_, rfl, h2, h1, .inr ⟨hgw, hlt _ _ hw⟩, hne, ?_, h4, h3, World.ownsRow_nil W 0 _ _, fun k e => by cases e⟩⟩
  · rcases hk with h | h
    · exact absurd h (fun h => h)
    · exact h.2
  · rw [hself]
    congr 2
    simp [mC, m0, mcells, iV]
  · simpa [m0] using hw

set_option maxRecDepth 100000 in
set_option maxHeartbeats 1000000 in
theorem new_good (A A2 : Option Addr) (c c2 : Nat) (code : List UInt8) (input : List Int) (start : Int) (n : Nat) (w : World) (hcode : Lies w w.heap.size A code) (hin : ILs w A2 input) (hlen : input.length ≤ 1099511627776)
    (h1 : (code.length : Int) ≤ 1048576) (h2 : 0 ≤ start) (h3 : start ≤ code.length) (h4 : (1 : Int) ≤ n) (h5 : (n : Int) ≤ 65536) :
    Calls Tryz.prog 8 #[.slice A code.length c, .int .i64 start, .int .i64 n, .slice A2 input.length c2] w (NewR code start n input w) := by
  have HC := Lib.hid (fun (W : World) (hb : Below w.heap.size w W) => cloneB A c code W ((hcode.below hb).more hb.size) (by omega))
  have HI := Lib.hid (fun (W : World) (hb : Below w.heap.size w W) => cloneI A2 c2 input W (hin.below hb) hlen)
  have hmk := run_makeI n (by omega)
  have HB := Lib.hid (Below.refl w.heap.size w)
  clear hcode hin hlen
  unfold Made at HC
  unfold MadeI at HI
  go_enter Tryz.func8, Tryz.ntmps8
  go_wp2_with fail
  go_region_held3 (fun W => True) (trivial) (first
    | (go_at_call 23; refine (HC.out _ (by first | exact HB.out.drew | exact (below_box w (zrow n)).drew)).mono ?_; rintro e w1 ⟨v1, rfl, ho1, hb1⟩; obtain ⟨A1, c1, rfl, -⟩ := ho1.form; have HB1 : Below w.heap.size w w1 := (by first | exact HB.out.drew.trans hb1 | exact ((below_box w (zrow n)).drew).trans (hb1.mono (by simp))))
    | (go_at_call 24; refine (HI.out _ (by first | exact HB1 | exact HB1.alloc HB1.size _)).mono ?_; rintro e w3 ⟨v3, rfl, ho3, hb3, hk3⟩; obtain ⟨A3, c3, rfl⟩ := ho3.form))
  all_goals
    go_wp2_with fail
    go_ret2
    have hz1 := HB1.size
    have hz3 := hb3.size
  · simp only [World.size_alloc] at hz3
    obtain ⟨p, hM⟩ := new_in (w := w) (B := w.drew.heap.size) (start := start) (n := n) (code := code) (input := input) (heap_alloc_new w3 (.cells (mcells (.slice A1 code.length c1) start n w1.heap.size n (.slice A3 input.length c3)) 59)) (by omega) hz1 (by omega)
      (((ho1.alloc (zrow n)).below hb3).alloc _) (fun k e => by have := ho1.lt k e; have h' : w.heap.size ≤ k := this.1; omega) (ho3.below (below_box w3 _)) (fun k e => by have h' := hk3 k e; simp at h'; have := ho3.lt k e; omega)
      (zrow_blk ((Below.heap_alloc w3 _ _ (by omega)).trans ((hb3.block _ (by simp)).trans (heap_alloc_new w1 _))))
    exact ⟨w3.heap.size, p, rfl, hM, (HB1.trans ((below_box w1 (zrow n)).mono hz1 |>.trans (hb3.mono (by simp; omega)))).alloc (by omega) _⟩
  · obtain ⟨p, hM⟩ := new_in (w := w) (B := w.drew.heap.size) (start := start) (n := n) (code := code) (input := input) (show ((w3.alloc (zrow n)).alloc (.cells (mcells (.slice A1 code.length c1) start n w3.heap.size n (.slice A3 input.length c3)) 59)).heap[w3.heap.size + 1]? = _ from by have := heap_alloc_new (w3.alloc (zrow n)) (.cells (mcells (.slice A1 code.length c1) start n w3.heap.size n (.slice A3 input.length c3)) 59); rwa [World.size_alloc] at this) (by omega) (show w.heap.size ≤ w3.heap.size by omega) (by omega)
      (((ho1.below hb3).alloc (zrow n)).alloc _) (fun k e => by have := ho1.lt k e; have h' : w.heap.size ≤ k := this.1; omega) (ho3.below (below_box2 w3 _ _)) (fun k e => by have h' := hk3 k e; have := ho3.lt k e; omega)
      (zrow_blk ((Below.heap_alloc (w3.alloc (zrow n)) _ _ (by simp)).trans (heap_alloc_new w3 _)))
    exact ⟨w3.heap.size + 1, p, rfl, hM, ((HB1.trans (hb3.mono hz1)).alloc (by omega) _).alloc (by simp; omega) _⟩
  · have hzw : (w.alloc (zrow n)).heap.size ≤ w1.heap.size := hb1.size
    simp only [World.size_alloc] at hzw
    obtain ⟨p, hM⟩ := new_in (w := w) (B := (w.alloc (zrow n)).drew.heap.size) (start := start) (n := n) (code := code) (input := input) (heap_alloc_new w3 (.cells (mcells (.slice A1 code.length c1) start n w.heap.size n (.slice A3 input.length c3)) 59)) (by omega) (Nat.le_refl _) (by omega)
      ((ho1.below hb3).alloc _) (fun k e => by have := ho1.lt k e; have h' : (w.alloc (zrow n)).heap.size ≤ k := this.1; simp only [World.size_alloc] at h'; omega) (ho3.below (below_box w3 _)) (fun k e => by have h' := hk3 k e; have := ho3.lt k e; omega)
      (zrow_blk ((Below.heap_alloc w3 _ _ (by omega)).trans ((hb3.block _ (by omega)).trans ((hb1.block _ (show w.heap.size < (w.alloc (zrow n)).heap.size by simp)).trans (heap_alloc_new w _)))))
    exact ⟨w3.heap.size, p, rfl, hM, (HB1.trans (hb3.mono hz1)).alloc (by omega) _⟩

end Go.Proofs.YtdnpoeegefkoiaaGreat
