/-
  Contracts of the closures of lines.At and lines.Pcs, slices.IndexFunc and lines.find.
-/
import Derived.Test.YtfpgmaegpiiagaaL5F
import Derived.Test.YtfpgmaegpiiagaaKR
import Derived.Laws.EntriesVeiled
import Derived.Deep.WholeRow
namespace Go.Proofs.Ytfpgmaegpiiagaa
open Go.RowKit

theorem run_enter5 {f : FuncId} {fn : Func} (hf : Try.prog.funcs[f]? = some fn) (hn : (fn.name == "runtime.NumGoroutine") = false) (hb : fn.body.isNone = false) (args : Array Value) (w : World) : (callFunc f args).run Try.prog w = .ok (.enter f args) w := by
  have hn' : ¬ fn.name = "runtime.NumGoroutine" := by simpa using hn
  have hb' : ¬ fn.body = none := fun h => by rw [h] at hb; cases hb
  simp [callFunc, hf, hn', hb', go_sem]
theorem enter_at (args : Array Value) (w : World) : (callFunc 30 args).run Try.prog w = .ok (.enter 30 args) w := run_enter5 Try.func30 (by kernel_rfl) (by kernel_rfl) args w
theorem enter_pcs (args : Array Value) (w : World) : (callFunc 31 args).run Try.prog w = .ok (.enter 31 args) w := run_enter5 Try.func31 (by kernel_rfl) (by kernel_rfl) args w

set_option maxRecDepth 100000 in
set_option maxHeartbeats 400000 in
theorem at1_any (r : Rw) (g : Nat) (x : Int) (w : World) (hg : w.cell? ⟨g, 0, none⟩ = some (.int .i64 x)) :
    Calls Try.prog 30 #[rv r, .pointer (some ⟨g, 0, none⟩)] w fun e w' => e = .returned (.bool (decide (r.pc = x))) ∧ Below w.heap.size w w' := by
  unfold rv rK
  have hgl := World.block_lt_of_cell? w _ hg
  simp only at hgl
  go_enter Try.func30, Try.ntmps30
  go_wp2
  go_ret
  exact ⟨congrArg (fun b => Ending.returned (.bool b)) (show (r.pc == x) = decide (r.pc = x) by rw [Bool.eq_iff_iff]; simp), below_new _ _⟩
set_option maxRecDepth 100000 in
set_option maxHeartbeats 400000 in
theorem pcs1_any (r : Rw) (g : Nat) (x : Int) (w : World) (hg : w.cell? ⟨g, 0, none⟩ = some (.int .i64 x)) :
    Calls Try.prog 31 #[rv r, .pointer (some ⟨g, 0, none⟩)] w fun e w' => e = .returned (.bool (decide (r.pt = x))) ∧ Below w.heap.size w w' := by
  unfold rv rK
  have hgl := World.block_lt_of_cell? w _ hg
  simp only at hgl
  go_enter Try.func31, Try.ntmps31
  go_wp2
  go_ret
  exact ⟨congrArg (fun b => Ending.returned (.bool b)) (show (r.pt == x) = decide (r.pt = x) by rw [Bool.eq_iff_iff]; simp), below_new _ _⟩

/-- a function that is handed: what it tells of a row -/
def Tells (F : Nat) (caps : Array Value) (P : Rw → Bool) (B : Nat) (w : World) : Prop :=
  ∀ (r : Rw) (w2 : World), Below B w w2 → Calls Try.prog F (#[rv r] ++ caps) w2 fun e w' => e = .returned (.bool (P r)) ∧ Below w2.heap.size w2 w'
def IndexR (P : Rw → Bool) (l : List Rw) (w : World) (e : Ending) (w' : World) : Prop :=
  Below w.heap.size w w' ∧ ((∃ (i : Nat) (hi : i < l.length), e = .returned (.int .i64 i) ∧ P l[i] = true ∧ ∀ j (hj : j < i), P (l[j]'(by omega)) = false) ∨ (e = .returned (.int .i64 (-1)) ∧ ∀ j (hj : j < l.length), P l[j] = false))

set_option maxRecDepth 100000 in
set_option maxHeartbeats 1000000 in
theorem index_any (F : Nat) (caps : Array Value) (P : Rw → Bool) (A : Option Addr) (c : Nat) (l : List Rw) (w : World) (hn : l.length ≤ 1099511627776) (h : RLies w w.heap.size A l)
    (hE : ∀ args w, (callFunc F args).run Try.prog w = .ok (.enter F args) w) (hF : Tells F caps P w.heap.size w) :
    Calls Try.prog 41 #[.slice A l.length c, .func (.func F) #[] caps] w (IndexR P l w) := by
  have HF := Lib.hid hF
  clear hF
  go_enter Try.func41, Try.ntmps41
  go_wp2_with fail
  go_loopw [8] (fun i wr => ∃ k : Nat, k ≤ l.length ∧ i = .int .i64 k ∧ Hid (Below w.heap.size w wr) ∧ Hid (∀ j (hj : j < l.length), j < k → P l[j] = false)) (fun i _ => l.length - (intOf i).toNat)
  case atStart => exact ⟨0, by omega, rfl, Below.refl _ _, fun j _ hj => by omega⟩
  case round =>
    obtain ⟨k, hk, rfl, hB, hno⟩ := hrel
    by_cases hlt : k < l.length
    · obtain ⟨g, o, rfl, hg, c0, c1⟩ := (h.below hB.out).at_ hlt
      have hT := HF.out l[k] wr hB.out
      have HY := Lib.hid (fun (hp : P l[k] = true) => show ∃ (i : Nat) (hi : i < l.length), Ending.returned (.int .i64 (k : Int)) = .returned (.int .i64 i) ∧ P l[i] = true ∧ ∀ j (hj : j < i), P (l[j]'(by omega)) = false from ⟨k, hlt, rfl, hp, fun j hj => hno.out j (by omega) hj⟩)
      have HN := Lib.hid (fun (hp : P l[k] = false) j (hj : j < l.length) (hjk : j < k + 1) => show P l[j] = false from by
        by_cases e : j = k
        · subst e; exact hp
        · exact hno.out j hj (by omega))
      clear hno
      generalize l[k] = r at *
      unfold rv rK at hT
      have HT := Lib.hid hT
      clear hT
      cases hp : P r
      · have HN2 := Lib.hid (HN.out hp)
        clear HN HY
        rw [hp] at HT
        clear hp
        go_wp2_with fail
        refine HT.out.mono ?_
        rintro e w2 ⟨rfl, hb2⟩
        have hB2 := Lib.hid (hB.out.trans (hb2.mono hB.out.size))
        clear HT hb2
        go_wp2_with fail
        go_roundw
        case rel => exact ⟨k + 1, by omega, by go_num, hB2, fun j hj hjk => HN2.out j hj hjk⟩
        case measure => simp [intOf]; omega
      · have HY2 := Lib.hid (HY.out hp)
        clear HN HY
        rw [hp] at HT
        clear hp
        go_wp2_with fail
        refine HT.out.mono ?_
        rintro e w2 ⟨rfl, hb2⟩
        have hB2 := Lib.hid (hB.out.trans (hb2.mono hB.out.size))
        clear HT hb2
        go_wp2_with fail
        go_ret
        exact ⟨hB2.out, .inl HY2.out⟩
    · obtain rfl : k = l.length := by omega
      go_wp2_with fail
      go_ret
      exact ⟨hB.out, .inr ⟨rfl, fun j hj => hno.out j hj hj⟩⟩

/-- what is found -/
def FindR (P : Rw → Bool) (A0 : Option Addr) (l : List Rw) (w : World) (e : Ending) (w' : World) : Prop :=
  Below w.heap.size w w' ∧ ((∃ (i : Nat) (hi : i < l.length) (A : Option Addr) (c : Nat), e = .returned (.tuple #[rv l[i], .slice A (l.length - (i + 1)) c, .bool true]) ∧ l.length - (i + 1) ≤ c ∧ (∀ w0 B, RLies w0 B A0 l → RLies w0 B A (l.drop (i + 1))) ∧ P l[i] = true ∧ ∀ j (hj : j < i), P (l[j]'(by omega)) = false) ∨
    (e = .returned (.tuple #[rv r0, .slice none 0 0, .bool false]) ∧ ∀ j (hj : j < l.length), P l[j] = false))

theorem row_size5 : (Try.prog.info? 42).map (·.size) = some 2 := by kernel_rfl
theorem find_back {fn : Func} {p u v : Tmp} (h : fn.results = #[.cell p 42, .tmp u, .tmp v]) {tmps : Array Value} {w : World} {g : Nat} {r : Rw} (hp : tmps.getD p undef = .pointer (some ⟨g, 0, none⟩))
    (hg : RowAt w g r) : (results fn tmps).run Try.prog w = .ok (.tuple #[rv r, tmps.getD u undef, tmps.getD v undef]) w :=
  res_row_tmp2 h tmps w g _ _ _ _ hp hg Try.underlying42 rfl row_size5

set_option maxRecDepth 100000 in
set_option maxHeartbeats 1000000 in
theorem find_any (F : Nat) (caps : Array Value) (P : Rw → Bool) (A : Option Addr) (c : Nat) (l : List Rw) (w : World) (hn : l.length ≤ 1099511627776) (hc : l.length ≤ c) (h : RLies w w.heap.size A l)
    (hE : ∀ args w, (callFunc F args).run Try.prog w = .ok (.enter F args) w) (hF : Tells F caps P w.heap.size w) :
    Calls Try.prog 29 #[.slice A l.length c, .func (.func F) #[] caps] w (FindR P A l w) := by
  have hb0 := below_new w (.cells (rK r0) 42)
  have hrow := Lib.hid (rowAt_new w r0)
  have HI := Lib.hid (index_any F caps P A c l _ hn (h.next hb0) hE (fun r w2 hb => hF r w2 (hb0.trans (hb.mono hb0.size))))
  have HB0 := Lib.hid hb0
  unfold rK r0 at HI HB0 hrow
  simp only at HI HB0 hrow
  clear hb0 hF
  go_enter Try.func29, Try.ntmps29
  go_wp2_with fail
  refine HI.out.mono ?_
  rintro e w1 ⟨hb1, hcase⟩
  have hr1 := hrow.out.below hb1 (by simp)
  have HB1 := Lib.hid (HB0.out.trans (hb1.mono HB0.out.size))
  rcases hcase with ⟨i, hi, rfl, hp, hno⟩ | ⟨rfl, hno⟩
  · have hl1 := h.below HB1.out
    obtain ⟨g, o, rfl, hg, c0, c1⟩ := hl1.at_ hi
    have f0 := hr1.frozen 0
    have f1 := hr1.frozen 1
    have s0 := hr1.pc
    have s1 := hr1.pt
    have HL := Lib.hid hl1
    have HP := Lib.hid (And.intro hp hno)
    have HR1 := Lib.hid hr1
    have hi1 : i + 1 ≤ l.length := by omega
    clear hl1 hp hno hr1 HI hrow hb1
    go_wp2_with fail
    have hq := Lib.hid (put2_at HR1.out l[i])
    have HB2 := Lib.hid (HB1.out.grown (put2_grown w1 w.heap.size l[i]) HB1.out.size (fun j e => by cases e; exact Nat.le_refl _)).drew
    unfold put2 at hq HB2
    go_region
    go_wp2_with fail
    · refine bodyPost_ret (find_back (r := l[i]) rfl rfl hq.out) rfl ?_
      exact ⟨HB2.out, .inl ⟨i, hi, _, _, rfl, by omega, fun _ _ _ hl => absurd hl (by simp; omega), HP.out.1, HP.out.2⟩⟩
    · refine bodyPost_ret (find_back (r := l[i]) rfl rfl hq.out) rfl ?_
      exact ⟨HB2.out, .inl ⟨i, hi, _, _, rfl, by omega, fun _ _ hh => hh.drop (i + 1), HP.out.1, HP.out.2⟩⟩
  · have HP := Lib.hid hno
    have f0 := hr1.frozen 0
    have f1 := hr1.frozen 1
    have s0 := hr1.pc
    have s1 := hr1.pt
    have HR1 := Lib.hid hr1
    clear hno hr1 HI hrow hb1
    go_wp2_with fail
    have hq := Lib.hid (put2_at HR1.out r0)
    have HB2 := Lib.hid (HB1.out.grown (put2_grown w1 w.heap.size r0) HB1.out.size (fun j e => by cases e; exact Nat.le_refl _))
    refine bodyPost_ret (find_back (r := r0) rfl rfl hq.out) rfl ?_
    exact ⟨HB2.out, .inr ⟨rfl, HP.out⟩⟩
end Go.Proofs.Ytfpgmaegpiiagaa
