/-
  Contract of the law's helper spare: a number that none of several byte slices has.
-/
import Derived.Test.YtdnjlaoapopcfaaKP
import Derived.Test.YtdnjlaoapopcfaaR0A
namespace Go.Proofs.Ytdnjlaoapopcfaa
open Go.RowKit

theorem Own.len {w : World} {B : Nat} {v : Value} {l : List UInt8} (h : Own w B v l) : l.length ≤ 9223372036854775807 := by
  rcases h with ⟨_, rfl⟩ | ⟨g, r, _, _, hm, _⟩
  · simp
  · simp only [maxLen] at hm; omega

/-- block h holds these slice values, in order -/
def Row (w : World) (h : Nat) (vs : List Value) : Prop := w.heap[h]? = some (.cells vs.toArray 22 (0, 0))
/-- each of them is a byte slice of the call's own, from block B on -/
def Each (w : World) (B : Nat) (vs : List Value) (ls : List (List UInt8)) : Prop := vs.length = ls.length ∧ ∀ i (h1 : i < vs.length) (h2 : i < ls.length), Own w B vs[i] ls[i]
/-- does a list have the number? -/
def has (p : List UInt8) (x : Nat) : Bool := p.any fun y => y.toNat == x
theorem has_snoc (p : List UInt8) (c : UInt8) (x : Nat) : has (p ++ [c]) x = (has p x || c.toNat == x) := by simp [has]

/-- block g holds the 256 answers of f -/
def n256 : Nat := 256
def barr (f : Nat → Bool) : Array Value := ((List.range n256).map fun x => .bool (f x)).toArray
def Arr (w : World) (g : Nat) (f : Nat → Bool) : Prop := w.heap[g]? = some (.cells (barr f) 53 (0, 0))
def arr0 : Array Value := barr (has [])
theorem barr_size (f : Nat → Bool) : (barr f).size = 256 := by simp [barr]; rfl
theorem barr_get (f : Nat → Bool) (x : Nat) (h : x < 256) : (barr f)[x]? = some (.bool (f x)) := by
  have h' : x < n256 := h
  simp [barr, h']
set_option maxRecDepth 100000 in
theorem zero_arr (w : World) : (zeroValue 53).run Try.prog w = .ok (.agg arr0) w := by kernel_rfl

theorem bool_info : (Try.prog.info? 4).map (fun i => (i.zero, i.size, i.bytes)) = some (some (.bool false), 1, 1) := by kernel_rfl
theorem index_arr (w : World) (f : Nat → Bool) (x : Nat) (hx : x < 256) : (Instr.index 53 (.agg (barr f)) (.int .i64 x)).run Try.prog w = .ok (.bool (f x)) w := by
  obtain ⟨i0, hi0, hz0, hz1, hz2⟩ := info_parts bool_info
  have hg := barr_get f x hx
  simp [Instr.index, run_underlying Try.underlying53, sizeOf, typeInfo, hi0, hz1, asIntOf, go_sem]
  rw [if_pos hx, hg]
  rfl

section
variable {w w' : World} {g : Nat} {f : Nat → Bool}
theorem Arr.cell (h : Arr w g f) {x : Nat} (hx : x < 256) : w.cell? ⟨g, x, none⟩ = some (.bool (f x)) := by
  unfold Arr at h
  simp only [World.cell?, h]
  simpa using barr_get f x hx
theorem Arr.frozen (h : Arr w g f) (x : Nat) : w.frozen? ⟨g, x, none⟩ = false := by
  unfold Arr at h
  simp [World.frozen?, h]
theorem Arr.store {p : List UInt8} (h : Arr w g (has p)) (c : UInt8) : Arr (w.setCell ⟨g, c.toNat, none⟩ (.bool true)) g (has (p ++ [c])) := by
  unfold Arr at h ⊢
  simp only [World.setCell, Array.getElem?_modify, h]
  simp only [if_true, Option.map_some]
  congr 2
  apply Array.ext'
  apply List.ext_getElem
  · simp [barr]
  · intro i h1 h2
    simp only [barr, List.setIfInBounds_toArray, List.getElem_map, List.getElem_range, has_snoc]
    by_cases e : c.toNat = i
    · simp [e]
    · simp [e]
end

theorem Row.cell {w : World} {h : Nat} {vs : List Value} (hr : Row w h vs) {i : Nat} (hi : i < vs.length) : w.cell? ⟨h, i, none⟩ = some vs[i] := by
  unfold Row at hr
  simp only [World.cell?, hr]
  simp [hi]
theorem Row.lt {w : World} {h : Nat} {vs : List Value} (hr : Row w h vs) : h < w.heap.size := by
  rcases Nat.lt_or_ge h w.heap.size with h' | h'
  · exact h'
  · unfold Row at hr; rw [Array.getElem?_eq_none h'] at hr; cases hr
theorem Row.below {w w' : World} {B h : Nat} {vs : List Value} (hr : Row w h vs) (hb : Below B w w') (hh : h < B) : Row w' h vs := (hb.block h hh).trans hr

theorem flat_succ (ls : List (List UInt8)) (i : Nat) (h : i < ls.length) : (ls.take (i + 1)).flatten = (ls.take i).flatten ++ ls[i] := by
  rw [List.take_succ_eq_append_getElem h, List.flatten_append]; simp

def SpareR (w : World) (ls : List (List UInt8)) (e : Ending) (w' : World) : Prop :=
  ((∃ x : Nat, x < 256 ∧ has ls.flatten x = false ∧ e = .returned (.tuple #[.int .u8 x, .bool true])) ∨ e = .returned (.tuple #[.int .u8 0, .bool false])) ∧ Below w.heap.size w w'

set_option maxRecDepth 100000 in
set_option maxHeartbeats 1000000 in
theorem spare_any (h B n : Nat) (vs : List Value) (ls : List (List UInt8)) (w : World) (hr : Row w h vs) (he : Each w B vs ls) (hn : vs.length ≤ 1000) :
    Calls Try.prog 27 #[.slice (some ⟨h, 0, none⟩) vs.length n] w (SpareR w ls) := by
  have hz0 := zero_arr w
  have ha0 : Arr (w.alloc (.cells arr0 53)) w.heap.size (has (ls.take 0).flatten) := by
    have := heap_alloc_new w (.cells arr0 53)
    exact this
  have hb0 : Below w.heap.size w (w.alloc (.cells arr0 53)) := (Below.refl _ _).alloc (Nat.le_refl _) _
  have HA := Lib.hid ha0
  have HB := Lib.hid hb0
  clear ha0 hb0
  go_enter Try.func27, Try.ntmps27
  go_wp2
  go_loopw [13] (fun i wr => ∃ k : Nat, k ≤ vs.length ∧ i = .int .i64 k ∧ Hid (Arr wr w.heap.size (has (ls.take k).flatten)) ∧ Hid (Below w.heap.size w wr)) (fun i _ => vs.length - (intOf i).toNat)
  case atStart => exact ⟨0, by omega, rfl, HA, HB⟩
  case round =>
    obtain ⟨k, hk, rfl, ha, hb⟩ := hrel
    by_cases hlt : k < vs.length
    · have hc := (hr.below hb.out hr.lt).cell hlt
      have ho := he.2 k hlt (by have := he.1; omega)
      have hfl := Lib.hid (flat_succ ls k (by have := he.1; omega))
      generalize hl : ls[k]'(by have := he.1; omega) = l at *
      have hlm := ho.len
      obtain ⟨A, c, hv, hlc, hAc, hL⟩ := ho.form
      rw [hv] at hc
      clear hl hv ho HA HB
      go_wp2
      go_loopw [19] (fun i wr => ∃ q : Nat, q ≤ l.length ∧ i = .int .i64 q ∧ Hid (Arr wr w.heap.size (has ((ls.take k).flatten ++ l.take q))) ∧ Hid (Below w.heap.size w wr)) (fun i _ => l.length - (intOf i).toNat)
      case atStart => exact ⟨0, by omega, rfl, show Arr _ _ _ by simpa using ha.out, hb⟩
      case round =>
        obtain ⟨q, hq, rfl, hx, hy⟩ := hrel
        by_cases hlt2 : q < l.length
        · obtain ⟨g, o, rfl, hg, hcc⟩ := (hL.below hy.out).at_ hlt2
          have hst := Lib.hid (hx.out.store l[q])
          have hfz := hx.out.frozen l[q].toNat
          have hcb := l[q].toNat_lt
          have HT := Lib.hid (show (ls.take k).flatten ++ l.take q ++ [l[q]] = (ls.take k).flatten ++ l.take (q + 1) by simp)
          have hcl := hx.out.cell (x := l[q].toNat) (by omega)
          rw [HT.out] at hst
          clear hx ha hb
          generalize l[q].toNat = z at *
          go_wp2
          go_roundw
          case rel => exact ⟨q + 1, by omega, by go_num, hst, hy.out.setCell (Nat.le_refl _) _⟩
          case measure => simp [intOf]; omega
        · obtain rfl : q = l.length := by omega
          have hx' := hx.out
          rw [List.take_length, ← hfl.out] at hx'
          clear hx ha hb
          go_wp2
          go_roundw
          case rel => exact ⟨k + 1, by omega, by go_num, hx', hy⟩
          case measure => simp [intOf]; omega
    · have hfl : ls.take k = ls := List.take_of_length_le (by have := he.1; omega)
      rw [hfl] at ha
      obtain rfl : k = vs.length := by omega
      clear hfl HA HB
      have hl := Lib.hid (show (Try.prog.info? 53).map (·.size) = some (barr (has ls.flatten)).size by rw [barr_size]; kernel_rfl)
      go_wp2_with fail
      refine wp_load_row 53 (.tmp 4) rfl w.heap.size rfl 53 _ (0, 0) (.array 256 4) ha.out Try.underlying53 rfl hl.out ?_
      go_wp2
      go_loop [28] (fun i => ∃ x : Nat, x ≤ 256 ∧ i = .int .i64 x) (fun i => 256 - (intOf i).toNat)
      case atStart => exact ⟨0, by omega, rfl⟩
      case round =>
        obtain ⟨x, hx, rfl⟩ := hrel
        by_cases hx2 : x < 256
        · have hix := index_arr wr (has ls.flatten) x hx2
          cases hf : has ls.flatten x
          · have HF := Lib.hid hf
            rw [hf] at hix
            clear hf
            go_wp2
            go_ret2
            exact ⟨.inl ⟨x, hx2, HF, rfl⟩, hb⟩
          · rw [hf] at hix
            clear hf
            go_wp2
            go_round
            case rel => exact ⟨x + 1, by omega, by go_num⟩
            case measure => simp [intOf]; omega
        · go_wp2
          go_ret2
          exact ⟨.inr rfl, hb⟩
end Go.Proofs.Ytdnjlaoapopcfaa
