/-
  Contract of token.letGo.
-/
import Derived.Test.YtmajhmionghccaaDoorTKC
import Derived.Test.YtmajhmionghccaaDoorTKL
namespace Go.Proofs.YtmajhmionghccaaDoor
open Go Go.RowKit

theorem str_extract (l : List UInt8) (a b : Nat) : (str l).extract a b = str ((l.take b).drop a) := by
  unfold str
  apply ByteArray.ext
  rw [ByteArray.data_extract]
  simp [List.extract_toArray, List.extract, List.drop_take]
theorem run_drop_str (w : World) (l : List UInt8) (n : Nat) (h : n ≤ l.length) : (Instr.slice 9 (.string (str l)) (some (.int .i64 (n : Int))) none none).run Tryd.prog w = .ok (.string (str (l.drop n))) w := by
  have e : str (l.drop n) = (str l).extract n (str l).size := by rw [str_extract, str_sz, List.take_length]
  rw [e]
  simp [Instr.slice, run_underlying Tryd.underlying9, Instr.sliceBounds, run_sliceBound, str_sz, h, go_sem]
theorem run_take_str (w : World) (l : List UInt8) (n : Nat) (h : n ≤ l.length) : (Instr.slice 9 (.string (str l)) none (some (.int .i64 (n : Int))) none).run Tryd.prog w = .ok (.string (str (l.take n))) w := by
  have e : str (l.take n) = (str l).extract 0 n := by rw [str_extract, List.drop_zero]
  rw [e]
  simp [Instr.slice, run_underlying Tryd.underlying9, Instr.sliceBounds, run_sliceBound, str_sz, h, go_sem]
theorem prefix_any (l p : List UInt8) (w : World) : Calls Tryd.prog 24 #[.string (str l), .string (str p)] w fun e w' => e = .returned (.bool (p.isPrefixOf l)) ∧ w = w' := by
  refine (Tryd.strings_HasPrefix (str l) (str p) w).mono ?_
  rintro e w' ⟨rfl, rfl⟩
  rw [str_data, str_data]
  exact ⟨rfl, rfl⟩
theorem rem_any (l : List UInt8) (w : World) : Calls Tryd.prog 24 #[.string (str l), .string ⟨#[47, 47]⟩] w fun e w' => e = .returned (.bool (rem l)) ∧ w = w' := prefix_any l [47, 47] w
theorem count_any (l : List UInt8) (w : World) : Calls Tryd.prog 26 #[.string (str l), .string ⟨#[10]⟩] w fun e w' => e = .returned (.int .i64 (nl l : Nat)) ∧ w = w' := by
  refine (Tryd.strings_Count_one (str l) 10 w).mono ?_
  rintro e w' ⟨rfl, rfl⟩
  rw [str_data]
  exact ⟨rfl, rfl⟩
theorem drop_len (p : UInt8 → Bool) (l : List UInt8) : l.drop (l.takeWhile p).length = l.dropWhile p := by
  induction l with
  | nil => rfl
  | cons c r ih =>
    rw [List.takeWhile_cons, List.dropWhile_cons]
    split
    · exact ih
    · rfl
theorem take_le (p : UInt8 → Bool) (l : List UInt8) : (l.takeWhile p).length ≤ l.length := by
  have := congrArg List.length (List.takeWhile_append_dropWhile (p := p) (l := l))
  rw [List.length_append] at this
  omega
def sizeV : Value → Nat
  | .string s => s.size
  | _ => 0
/-- what a text is on the way to be without blanks ahead -/
def OnWay (l r : List UInt8) : Prop := sk false l = sk false r ∧ (∃ u, l = u ++ r) ∧ ∀ c x, r = c :: x → tBl c = false
theorem OnWay.start (l : List UInt8) : OnWay l (l.drop (l.takeWhile tBl).length) := by
  rw [drop_len]
  exact ⟨sk_bl l, ⟨_, (List.takeWhile_append_dropWhile (p := tBl) (l := l)).symm⟩, dropWhile_head tBl l⟩
theorem drop_part (p : UInt8 → Bool) (l : List UInt8) : ∃ u, l = u ++ l.dropWhile p := ⟨_, (List.takeWhile_append_dropWhile (p := p) (l := l)).symm⟩
theorem OnWay.step {l r : List UInt8} (h : OnWay l r) (hr : rem r = true) : OnWay l ((r.dropWhile tNn).dropWhile tBl) := by
  obtain ⟨h1, ⟨u, h2⟩, _⟩ := h
  obtain ⟨v, hv⟩ := drop_part tNn r
  obtain ⟨x, hx⟩ := drop_part tBl (r.dropWhile tNn)
  refine ⟨h1.trans (sk_go hr), ⟨u ++ v ++ x, ?_⟩, dropWhile_head tBl _⟩
  rw [List.append_assoc, ← hx, List.append_assoc, ← hv, h2]
theorem OnWay.done {l r : List UInt8} (h : OnWay l r) (hr : rem r = false) : r = sk false l := by
  rw [h.1, sk_stay hr h.2.2]
theorem OnWay.gone {l r : List UInt8} (h : OnWay l r) : r.length ≤ l.length ∧ nl (l.take (l.length - r.length)) + nl r = nl l := by
  obtain ⟨_, ⟨u, rfl⟩, _⟩ := h
  rw [List.length_append, Nat.add_sub_cancel, List.take_left, nl_append]
  omega
theorem rem_short {r : List UInt8} (hr : rem r = true) : ((r.dropWhile tNn).dropWhile tBl).length < r.length := by
  obtain ⟨x, rfl⟩ := (rem_iff _).1 hr
  have e : (47 :: 47 :: x : List UInt8).dropWhile tNn = x.dropWhile tNn := rfl
  rw [e]
  obtain ⟨u, hu⟩ := drop_part tNn x
  obtain ⟨v, hv⟩ := drop_part tBl (x.dropWhile tNn)
  have a := congrArg List.length hu
  have b := congrArg List.length hv
  rw [List.length_append] at a b
  simp only [List.length_cons]
  omega
set_option maxRecDepth 100000 in
set_option maxHeartbeats 2000000 in
theorem letGo_any (l : List UInt8) (k : Int) (w : World) (hn : l.length ≤ 1099511627776) (h0 : 0 ≤ k) (h1 : k ≤ 1099511627776) :
    Calls Tryd.prog 18 #[.string (str l), .int .i64 k] w fun e w' => e = .returned (.tuple #[.string (str (sk false l)), .int .i64 (k + ((nl l - nl (sk false l) : Nat) : Int))]) ∧ w = w' := by
  have hsz := str_sz l
  have hd0 := run_drop_str w l (l.takeWhile tBl).length (take_le tBl l)
  have HS := Lib.hid (OnWay.start l)
  have HA := Lib.hid (fun (r : List UInt8) (h : r.length ≤ 1099511627776) => ahead_any 23 tBl tells_blank r w h)
  have HG := Lib.hid (fun (r : List UInt8) (h : r.length ≤ 1099511627776) => ahead_any 25 tNn tells_goesOn r w h)
  have H0 := Lib.hid (HA.out l hn)
  generalize l.drop (l.takeWhile tBl).length = r0 at *
  generalize (l.takeWhile tBl).length = n0 at *
  go_enter Tryd.func18, Tryd.ntmps18
  go_wp2_with fail
  refine H0.out.mono ?_
  rintro e w' ⟨rfl, rfl⟩
  clear H0
  go_wp2_with fail
  go_loop [4] (fun i => ∃ r : List UInt8, i = .string (str r) ∧ Hid (OnWay l r)) (fun i => sizeV i)
  case atStart => exact ⟨r0, rfl, HS⟩
  case round =>
    obtain ⟨r, rfl, HR⟩ := hrel
    clear HS hd0
    have hgo := Lib.hid HR.out.gone
    have HP := Lib.hid (rem_any r w)
    cases hr : rem r
    · rw [hr] at HP
      have HD := Lib.hid (HR.out.done hr)
      clear hr HR
      have hlen := hgo.out.1
      have hnl := hgo.out.2
      clear hgo
      have hrz := str_sz r
      have hcast : (l.length : Int) - (r.length : Int) = ((l.length - r.length : Nat) : Int) := by omega
      have ht := run_take_str w l (l.length - r.length) (by omega)
      have HC := Lib.hid (count_any (l.take (l.length - r.length)) w)
      have hres : nl (l.take (l.length - r.length)) = nl l - nl (sk false l) := by rw [← HD.out]; omega
      have hmx : nl (l.take (l.length - r.length)) ≤ 1099511627776 := by
        have := List.count_le_length (a := (10 : UInt8)) (l := l)
        unfold nl at hnl ⊢
        omega
      have HRES := Lib.hid hres
      clear hres hnl HA HG
      generalize nl (l.take (l.length - r.length)) = q at *
      generalize l.take (l.length - r.length) = g at *
      have hq : (k + (q : Int)) ≤ 9223372036854775807 := by omega
      go_wp2_with fail
      refine HP.out.mono ?_
      rintro e w' ⟨rfl, rfl⟩
      go_wp2_with fail
      refine HC.out.mono ?_
      rintro e w' ⟨rfl, rfl⟩
      go_wp2_with fail
      go_ret2
      exact ⟨by rw [← HRES.out, ← HD.out]; rfl, rfl⟩
    · rw [hr] at HP
      have HN := Lib.hid (HR.out.step hr)
      have HSH := Lib.hid (rem_short hr)
      clear hr HR
      have hlen := hgo.out.1
      clear hgo
      have HG1 := Lib.hid (HG.out r (by omega))
      have hd1 := run_drop_str w r _ (take_le tNn r)
      rw [drop_len] at hd1
      have hle : (r.dropWhile tNn).length ≤ r.length := by
        obtain ⟨u, hu⟩ := drop_part tNn r
        have := congrArg List.length hu
        rw [List.length_append] at this
        omega
      generalize (r.takeWhile tNn).length = n1 at *
      generalize r.dropWhile tNn = r1 at *
      have HA1 := Lib.hid (HA.out r1 (by omega))
      have hd2 := run_drop_str w r1 _ (take_le tBl r1)
      rw [drop_len] at hd2
      generalize (r1.takeWhile tBl).length = n2 at *
      generalize r1.dropWhile tBl = r2 at *
      clear HA HG
      go_wp2_with fail
      refine HP.out.mono ?_
      rintro e w' ⟨rfl, rfl⟩
      go_wp2_with fail
      refine HG1.out.mono ?_
      rintro e w' ⟨rfl, rfl⟩
      go_wp2_with fail
      refine HA1.out.mono ?_
      rintro e w' ⟨rfl, rfl⟩
      go_wp2_with fail
      go_round
      case rel => exact ⟨r2, rfl, HN⟩
      case measure => simp only [sizeV, str_sz]; exact HSH.out
end Go.Proofs.YtmajhmionghccaaDoor
