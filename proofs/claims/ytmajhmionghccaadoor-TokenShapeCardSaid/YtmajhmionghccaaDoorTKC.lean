/-
  Contracts of the small functions of token and of the document's answer; how many bytes of a kind stand ahead.
-/
import Derived.Test.YtmajhmionghccaaDoorTKA
import Derived.Test.YtmajhmionghccaaDoorKX
import Derived.Test.YtmajhmionghccaaDoorO1S
import Derived.Laws.EntriesVeiled
import Derived.Lib.Hide
namespace Go.Proofs.YtmajhmionghccaaDoor
open Go Go.RowKit

theorem str_sz (l : List UInt8) : (str l).size = l.length := by simp [str, ByteArray.size]
theorem str_getI (l : List UInt8) (k : Nat) (_h : k < l.length) (h2 : ((k : Int)).toNat < (str l).size) : (str l)[((k : Int)).toNat]'h2 = l[k] := by
  simp [str, ByteArray.getElem_eq_getElem_data]
  rfl
theorem str_data (l : List UInt8) : (str l).data.toList = l := by simp [str]
theorem str_toList (l : List UInt8) : (str l).toList = l := ByteArray.toList_mk l
theorem str_inj {l m : List UInt8} (h : str l = str m) : l = m := by rw [← str_data l, h, str_data]
theorem run_idx_str (w : World) (l : List UInt8) (k : Nat) (h : k < l.length) : (Instr.index 9 (.string (str l)) (.int .i64 k)).run Tryd.prog w = .ok (.int .u8 (l[k].toNat : Int)) w := by
  rw [run_index_string _ _ _ _ _ Tryd.underlying9, dif_pos ⟨by omega, by rw [str_sz]; omega⟩, str_getI l k h]
  rfl
theorem run_enterT {f : FuncId} {fn : Func} (hf : Tryd.prog.funcs[f]? = some fn) (hn : (fn.name == "runtime.NumGoroutine") = false) (hb : fn.body.isNone = false) (args : Array Value) (w : World) : (callFunc f args).run Tryd.prog w = .ok (.enter f args) w := by
  have hn' : ¬ fn.name = "runtime.NumGoroutine" := by simpa using hn
  have hb' : ¬ fn.body = none := fun h => by rw [h] at hb; cases hb
  simp [callFunc, hf, hn', hb', go_sem]

/-- a function that tells of a byte, and leaves all as it was -/
def TellsB (F : Nat) (P : UInt8 → Bool) : Prop := (∀ args w, (callFunc F args).run Tryd.prog w = .ok (.enter F args) w) ∧ ∀ (c : UInt8) (w : World), Calls Tryd.prog F #[.int .u8 (c.toNat : Int)] w fun e w' => e = .returned (.bool (P c)) ∧ w = w'
theorem take_step {P : UInt8 → Bool} {s : List UInt8} {k n : Nat} (h : k < s.length) (e : n = k + ((s.drop k).takeWhile P).length) (hp : P s[k] = true) : n = k + 1 + ((s.drop (k + 1)).takeWhile P).length := by
  rw [e, List.drop_eq_getElem_cons h, List.takeWhile_cons, if_pos hp, List.length_cons]
  omega
theorem take_end {P : UInt8 → Bool} {s : List UInt8} {k n : Nat} (h : k < s.length) (e : n = k + ((s.drop k).takeWhile P).length) (hp : P s[k] = false) : n = k := by
  rw [e, List.drop_eq_getElem_cons h, List.takeWhile_cons, if_neg (by simp [hp])]
  rfl
set_option maxRecDepth 100000 in
set_option maxHeartbeats 1000000 in
theorem blank_i (x : Int) (w : World) :
    Calls Tryd.prog 23 #[.int .u8 x] w fun e w' => e = .returned (.bool (blI x)) ∧ w = w' := by
  by_cases h0 : x = 32
  · subst h0
    go_enter Tryd.func23, Tryd.ntmps23
    go_wp2
    go_ret
    exact ⟨rfl, rfl⟩
  have q0 : (x == 32) = false := by simpa using h0
  by_cases h1 : x = 9
  · subst h1
    go_enter Tryd.func23, Tryd.ntmps23
    go_wp2
    go_ret
    exact ⟨rfl, rfl⟩
  have q1 : (x == 9) = false := by simpa using h1
  by_cases h2 : x = 13
  · subst h2
    go_enter Tryd.func23, Tryd.ntmps23
    go_wp2
    go_ret
    exact ⟨rfl, rfl⟩
  have q2 : (x == 13) = false := by simpa using h2
  by_cases h3 : x = 10
  · subst h3
    go_enter Tryd.func23, Tryd.ntmps23
    go_wp2
    go_ret
    exact ⟨rfl, rfl⟩
  have q3 : (x == 10) = false := by simpa using h3
  have hb : blI x = false := decide_eq_false (by omega)
  rw [hb]
  clear hb
  go_enter Tryd.func23, Tryd.ntmps23
  go_wp2
  go_ret
  exact ⟨rfl, rfl⟩
set_option maxRecDepth 100000 in
set_option maxHeartbeats 1000000 in
theorem letter_i (x : Int) (w : World) :
    Calls Tryd.prog 27 #[.int .u8 x] w fun e w' => e = .returned (.bool (leI x)) ∧ w = w' := by
  by_cases h0 : x = 95
  · subst h0
    go_enter Tryd.func27, Tryd.ntmps27
    go_wp2
    go_ret
    exact ⟨rfl, rfl⟩
  have q0 : (x == 95) = false := by simpa using h0
  by_cases r0 : 97 ≤ x <;> by_cases r1 : x ≤ 122 <;> by_cases r2 : 65 ≤ x <;> by_cases r3 : x ≤ 90
  all_goals first
    | (exfalso; omega)
    | (have hb : leI x = true := decide_eq_true (by omega)
       rw [hb]
       clear hb
       go_enter Tryd.func27, Tryd.ntmps27
       go_wp2
       go_ret
       exact ⟨rfl, rfl⟩)
    | (have hb : leI x = false := decide_eq_false (by omega)
       rw [hb]
       clear hb
       go_enter Tryd.func27, Tryd.ntmps27
       go_wp2
       go_ret
       exact ⟨rfl, rfl⟩)
set_option maxRecDepth 100000 in
set_option maxHeartbeats 1000000 in
theorem digit_i (x : Int) (w : World) :
    Calls Tryd.prog 29 #[.int .u8 x] w fun e w' => e = .returned (.bool (diI x)) ∧ w = w' := by
  by_cases r0 : 48 ≤ x <;> by_cases r1 : x ≤ 57
  all_goals first
    | (exfalso; omega)
    | (have hb : diI x = true := decide_eq_true (by omega)
       rw [hb]
       clear hb
       go_enter Tryd.func29, Tryd.ntmps29
       go_wp2
       go_ret
       exact ⟨rfl, rfl⟩)
    | (have hb : diI x = false := decide_eq_false (by omega)
       rw [hb]
       clear hb
       go_enter Tryd.func29, Tryd.ntmps29
       go_wp2
       go_ret
       exact ⟨rfl, rfl⟩)
set_option maxRecDepth 100000 in
set_option maxHeartbeats 1000000 in
theorem refLetter_i (x : Int) (w : World) :
    Calls Tryd.prog 14 #[.int .u8 x] w fun e w' => e = .returned (.bool (leI x)) ∧ w = w' := by
  by_cases h0 : x = 95
  · subst h0
    go_enter Tryd.func14, Tryd.ntmps14
    go_wp2
    go_ret
    exact ⟨rfl, rfl⟩
  have q0 : (x == 95) = false := by simpa using h0
  by_cases r0 : 97 ≤ x <;> by_cases r1 : x ≤ 122 <;> by_cases r2 : 65 ≤ x <;> by_cases r3 : x ≤ 90
  all_goals first
    | (exfalso; omega)
    | (have hb : leI x = true := decide_eq_true (by omega)
       rw [hb]
       clear hb
       go_enter Tryd.func14, Tryd.ntmps14
       go_wp2
       go_ret
       exact ⟨rfl, rfl⟩)
    | (have hb : leI x = false := decide_eq_false (by omega)
       rw [hb]
       clear hb
       go_enter Tryd.func14, Tryd.ntmps14
       go_wp2
       go_ret
       exact ⟨rfl, rfl⟩)
set_option maxRecDepth 100000 in
set_option maxHeartbeats 1000000 in
theorem refDigit_i (x : Int) (w : World) :
    Calls Tryd.prog 15 #[.int .u8 x] w fun e w' => e = .returned (.bool (diI x)) ∧ w = w' := by
  by_cases r0 : 48 ≤ x <;> by_cases r1 : x ≤ 57
  all_goals first
    | (exfalso; omega)
    | (have hb : diI x = true := decide_eq_true (by omega)
       rw [hb]
       clear hb
       go_enter Tryd.func15, Tryd.ntmps15
       go_wp2
       go_ret
       exact ⟨rfl, rfl⟩)
    | (have hb : diI x = false := decide_eq_false (by omega)
       rw [hb]
       clear hb
       go_enter Tryd.func15, Tryd.ntmps15
       go_wp2
       go_ret
       exact ⟨rfl, rfl⟩)
set_option maxRecDepth 100000 in
set_option maxHeartbeats 1000000 in
theorem goesOn_i (c : UInt8) (w : World) :
    Calls Tryd.prog 25 #[.int .u8 (c.toNat : Int)] w fun e w' => e = .returned (.bool (tNn c)) ∧ w = w' := by
  by_cases h : c = 10
  · subst h
    go_enter Tryd.func25, Tryd.ntmps25
    go_wp2
    go_ret
    exact ⟨rfl, rfl⟩
  have hb : tNn c = true := by simp [tNn, h]
  have hc : c.toNat ≠ 10 := fun e => h (UInt8.toNat_inj.1 e)
  have q : ((c.toNat : Int) != 10) = true := bne_iff_ne.2 (by omega)
  clear hc
  rw [hb]
  clear hb
  generalize (c.toNat : Int) = x at *
  go_enter Tryd.func25, Tryd.ntmps25
  go_wp2
  go_ret
  exact ⟨rfl, rfl⟩
set_option maxRecDepth 100000 in
set_option maxHeartbeats 1000000 in
theorem name1_i (c : UInt8) (w : World) :
    Calls Tryd.prog 40 #[.int .u8 (c.toNat : Int)] w fun e w' => e = .returned (.bool (tLd c)) ∧ w = w' := by
  have HL := Lib.hid (letter_i (c.toNat : Int) w)
  have HD := Lib.hid (digit_i (c.toNat : Int) w)
  have HE := Lib.hid (show tLd c = (leI (c.toNat : Int) || diI (c.toNat : Int)) from rfl)
  rw [HE.out]
  clear HE
  generalize (c.toNat : Int) = x at *
  cases h1 : leI x
  · rw [h1] at HL
    cases h2 : diI x
    · rw [h2] at HD
      go_enter Tryd.func40, Tryd.ntmps40
      go_wp2_with (first | (go_at_call 27; refine HL.out.mono ?_; rintro e w' ⟨rfl, rfl⟩) | (go_at_call 29; refine HD.out.mono ?_; rintro e w' ⟨rfl, rfl⟩))
      go_ret
      exact ⟨rfl, rfl⟩
    · rw [h2] at HD
      go_enter Tryd.func40, Tryd.ntmps40
      go_wp2_with (first | (go_at_call 27; refine HL.out.mono ?_; rintro e w' ⟨rfl, rfl⟩) | (go_at_call 29; refine HD.out.mono ?_; rintro e w' ⟨rfl, rfl⟩))
      go_ret
      exact ⟨rfl, rfl⟩
  · rw [h1] at HL
    go_enter Tryd.func40, Tryd.ntmps40
    go_wp2_with (first | (go_at_call 27; refine HL.out.mono ?_; rintro e w' ⟨rfl, rfl⟩) | (go_at_call 29; refine HD.out.mono ?_; rintro e w' ⟨rfl, rfl⟩))
    go_ret
    exact ⟨rfl, rfl⟩
theorem tells_blank : TellsB 23 tBl := ⟨fun args w => run_enterT Tryd.func23 (by kernel_rfl) (by kernel_rfl) args w, fun c w => blank_i (c.toNat : Int) w⟩
theorem tells_goesOn : TellsB 25 tNn := ⟨fun args w => run_enterT Tryd.func25 (by kernel_rfl) (by kernel_rfl) args w, fun c w => goesOn_i c w⟩
theorem tells_letter : TellsB 27 tLe := ⟨fun args w => run_enterT Tryd.func27 (by kernel_rfl) (by kernel_rfl) args w, fun c w => letter_i (c.toNat : Int) w⟩
theorem tells_digit : TellsB 29 tDi := ⟨fun args w => run_enterT Tryd.func29 (by kernel_rfl) (by kernel_rfl) args w, fun c w => digit_i (c.toNat : Int) w⟩
theorem tells_name1 : TellsB 40 tLd := ⟨fun args w => run_enterT Tryd.func40 (by kernel_rfl) (by kernel_rfl) args w, fun c w => name1_i c w⟩
set_option maxRecDepth 100000 in
set_option maxHeartbeats 1000000 in
theorem ahead_any (F : Nat) (P : UInt8 → Bool) (hF : TellsB F P) (l : List UInt8) (w : World) (hn : l.length ≤ 1099511627776) :
    Calls Tryd.prog 22 #[.string (str l), .func (.func F) #[] #[]] w fun e w' => e = .returned (.int .i64 ((l.takeWhile P).length : Nat)) ∧ w = w' := by
  have hsz := str_sz l
  have hE := hF.1
  have HF := Lib.hid hF.2
  clear hF
  obtain ⟨n, hn'⟩ : ∃ n, (l.takeWhile P).length = n := ⟨_, rfl⟩
  have H0 := Lib.hid (show n = 0 + ((l.drop 0).takeWhile P).length by rw [List.drop_zero, Nat.zero_add, hn'])
  rw [hn']
  clear hn'
  go_enter Tryd.func22, Tryd.ntmps22
  go_wp2_with fail
  go_loop [8] (fun i => ∃ k : Nat, k ≤ l.length ∧ i = .int .i64 k ∧ Hid (n = k + ((l.drop k).takeWhile P).length)) (fun i => l.length - (intOf i).toNat)
  case atStart => exact ⟨0, by omega, rfl, H0⟩
  case round =>
    obtain ⟨k, hk, rfl, hr⟩ := hrel
    clear H0
    by_cases hlt : k < l.length
    · have hix := run_idx_str w l k hlt
      have HN := Lib.hid (fun hp => take_step (P := P) hlt hr.out hp)
      have HS := Lib.hid (fun hp => take_end (P := P) hlt hr.out hp)
      clear hr
      have HT := Lib.hid (HF.out l[k] w)
      generalize l[k] = x at *
      cases hp : P x
      · have HR := Lib.hid (HS.out hp)
        rw [hp] at HT
        clear HN HS hp
        go_wp2_with fail
        refine HT.out.mono ?_
        rintro e w' ⟨rfl, rfl⟩
        go_wp2_with fail
        go_ret
        exact ⟨by rw [HR.out]; rfl, rfl⟩
      · have HR := Lib.hid (HN.out hp)
        rw [hp] at HT
        clear HN HS hp
        go_wp2_with fail
        refine HT.out.mono ?_
        rintro e w' ⟨rfl, rfl⟩
        go_wp2_with fail
        go_round
        case rel => exact ⟨k + 1, by omega, by go_num, HR⟩
        case measure => simp [intOf]; omega
    · obtain rfl : k = l.length := by omega
      have HR := Lib.hid (show n = l.length by rw [hr.out, List.drop_length]; rfl)
      clear hr
      go_wp2_with fail
      go_ret
      exact ⟨by rw [HR.out]; rfl, rfl⟩
end Go.Proofs.YtmajhmionghccaaDoor
