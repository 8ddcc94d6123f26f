/-
  Contracts of token.name and token.number.
-/
import Derived.Test.YtmajhmionghccaaDoorTKD
import Derived.Test.YtmajhmionghccaaDoorTKE
import Derived.Test.YtmajhmionghccaaDoorKR
import Derived.Test.YtmajhmionghccaaDoorGB
namespace Go.Proofs.YtmajhmionghccaaDoor
open Go Go.RowKit

/-- a token as a value -/
def tokV (kd : Int) (s : List UInt8) (nu ln : Int) : Value := .agg #[.int .u8 kd, .string (str s), .int .i64 nu, .int .i64 ln]
/-- what is told of the token with which bytes begin -/
def OneR (l : List UInt8) (w : World) (e : Ending) (w' : World) : Prop :=
  Below w.heap.size w w' ∧ ∃ kd s nu b, e = .returned (.tuple #[tokV kd s nu 0, .bool b]) ∧ (tok1 l = none ∧ b = false ∨ tok1 l = some (kd, s, nu) ∧ b = true)
theorem tok_size : (Tryd.prog.info? 35).map (·.size) = some 4 := by kernel_rfl
theorem tok_back {fn : Func} {p u : Tmp} (h : fn.results = #[.cell p 35, .tmp u]) {tmps : Array Value} {w : World} {g : Nat} {kd nu ln : Int} {s : List UInt8} {t : TypeId} {fr : Nat × Nat} (hp : tmps.getD p undef = .pointer (some ⟨g, 0, none⟩))
    (hg : w.heap[g]? = some (.cells #[.int .u8 kd, .string (str s), .int .i64 nu, .int .i64 ln] t fr)) : (results fn tmps).run Tryd.prog w = .ok (.tuple #[tokV kd s nu ln, tmps.getD u undef]) w :=
  res_row_tmp h tmps w g _ _ _ _ hp hg Tryd.underlying35 rfl tok_size
theorem grown_set1 (w : World) (g j : Nat) (v : Value) : w.grownBy (w.setCell ⟨g, j, none⟩ v) (some g) :=
  ⟨rfl, rfl, rfl, by simp [World.setCell], fun k _ hk => Below.heap_setCell w ⟨g, j, none⟩ v k (fun e => hk (by rw [e]))⟩
theorem grown4 (w : World) (g : Nat) (a b c d : Value) : w.grownBy ((((w.setCell ⟨g, 0, none⟩ a).setCell ⟨g, 1, none⟩ b).setCell ⟨g, 2, none⟩ c).setCell ⟨g, 3, none⟩ d) (some g) :=
  (((grown_set1 w g 0 a).trans (grown_set1 _ g 1 b)).trans (grown_set1 _ g 2 c)).trans (grown_set1 _ g 3 d)
theorem take_len (p : UInt8 → Bool) (l : List UInt8) : l.take (l.takeWhile p).length = l.takeWhile p := by
  induction l with
  | nil => rfl
  | cons c r ih =>
    rw [List.takeWhile_cons]
    split
    · rw [List.length_cons, List.take_succ_cons, ih]
    · rfl
set_option maxRecDepth 100000 in
set_option maxHeartbeats 2000000 in
theorem name_any (c : UInt8) (r : List UInt8) (b : Nat) (w : World) (hn : (c :: r).length ≤ 1099511627776) (hc : tLe c = true) (hk : Kw w b) :
    Calls Tryd.prog 28 #[.string (str (c :: r)), .map (some b)] w (OneR (c :: r) w) := by
  have HT := Lib.hid (show tok1 (c :: r) = if 24 < ((c :: r).takeWhile tLd).length then none else some (if (c :: r).takeWhile tLd ∈ wordsL then 3 else 1, (c :: r).takeWhile tLd, 0) by simp only [tok1, hc, if_true])
  have HA := Lib.hid (fun w' => ahead_any 40 tLd tells_name1 (c :: r) w' hn)
  have hts := fun w' => run_take_str w' (c :: r) _ (take_le tLd (c :: r))
  rw [take_len] at hts
  have hle := take_le tLd (c :: r)
  unfold OneR
  generalize c :: r = l at *
  generalize tok1 l = res at *
  generalize l.takeWhile tLd = s at *
  have hlk := fun w' (hw : Kw w' b) => look_run hw s (by omega)
  have hb0 : ∀ o, Below w.heap.size w (w.alloc o) := fun o => (Below.refl _ _).alloc (Nat.le_refl _) _
  have hsz := str_sz s
  go_enter Tryd.func28, Tryd.ntmps28
  go_wp2_with fail
  refine (HA.out _).mono ?_
  rintro e w' ⟨rfl, rfl⟩
  clear HA
  have hk1 := fun o => (hk.below (hb0 o))
  by_cases h24 : 24 < s.length
  · have h24i : (24 : Int) < (s.length : Int) := by omega
    rw [if_pos h24] at HT
    go_wp2_with fail
    refine bodyPost_ret (tok_back (s := []) rfl rfl (heap_alloc_new w _)) rfl ?_
    exact ⟨hb0 _, _, _, _, _, rfl, .inl ⟨HT.out, rfl⟩⟩
  · have h24i : (s.length : Int) ≤ 24 := by omega
    rw [if_neg h24] at HT
    by_cases hwd : s ∈ wordsL
    · have hd : decide (s ∈ wordsL) = true := decide_eq_true hwd
      rw [hd] at hlk
      rw [if_pos hwd] at HT
      clear hd hwd
      go_wp2_with fail
      refine bodyPost_ret (tok_back rfl rfl ((Below.heap_alloc _ _ _ (by simp)).trans (heap_alloc_new w _))) rfl ?_
      exact ⟨(hb0 _).alloc (by simp) _, _, _, _, _, rfl, .inr ⟨HT.out, rfl⟩⟩
    · have hd : decide (s ∈ wordsL) = false := decide_eq_false hwd
      rw [hd] at hlk
      rw [if_neg hwd] at HT
      clear hd hwd
      go_wp2_with fail
      refine bodyPost_ret (tok_back rfl rfl ((Below.heap_alloc _ _ _ (by simp)).trans (heap_alloc_new w _))) rfl ?_
      exact ⟨(hb0 _).alloc (by simp) _, _, _, _, _, rfl, .inr ⟨HT.out, rfl⟩⟩
theorem valF_ge : ∀ (l : List UInt8) (a : Nat), a ≤ l.foldl (fun a c => 10 * a + (c.toNat - 48)) a
  | [], a => Nat.le_refl _
  | c :: l, a => by
    have := valF_ge l (10 * a + (c.toNat - 48))
    rw [List.foldl_cons]
    omega
theorem digit_range {c : UInt8} (h : tDi c = true) : 48 ≤ c.toNat ∧ c.toNat ≤ 57 := by
  have := of_decide_eq_true h
  omega
theorem parse_val : ∀ (l : List UInt8) (a : Nat), (∀ x ∈ l, tDi x = true) → a ≤ 18446744073709551615 → Lib.parseUintM 18446744073709551615 a l = if l.foldl (fun a c => 10 * a + (c.toNat - 48)) a ≤ 18446744073709551615 then .ok (l.foldl (fun a c => 10 * a + (c.toNat - 48)) a) else .range
  | [], a, _, h => by
    rw [List.foldl_nil, if_pos h, Lib.parseUintM]
  | c :: l, a, hd, h => by
    have h1 := digit_range (hd c (by simp))
    have h2 := valF_ge l (10 * a + (c.toNat - 48))
    rw [List.foldl_cons, Lib.parseUintM, if_pos h1]
    by_cases h3 : 1844674407370955162 ≤ a
    · rw [if_pos h3, if_neg (by omega)]
    · rw [if_neg h3]
      by_cases h4 : 18446744073709551615 < a * 10 + (c.toNat - 48)
      · rw [if_pos h4, if_neg (by omega)]
      · rw [if_neg h4, show a * 10 + (c.toNat - 48) = 10 * a + (c.toNat - 48) by omega]
        exact parse_val l _ (fun x hx => hd x (List.mem_cons_of_mem _ hx)) (by omega)
theorem parseI {l : List UInt8} (hne : l ≠ []) (hd : ∀ x ∈ l, tDi x = true) : Lib.parseIntB 64 l = if val l < 9223372036854775808 then .ok (val l : Int) else .range := by
  rcases l with _ | ⟨c, r⟩
  · exact absurd rfl hne
  have h1 := digit_range (hd c (by simp))
  have e := parse_val (c :: r) 0 hd (by omega)
  have n43 : ¬ c.toNat = 43 := by omega
  have n2 : ¬ c.toNat = 45 := by omega
  have eB : Lib.parseUintB 64 (c :: r) = Lib.parseUintM 18446744073709551615 0 (c :: r) := by
    unfold Lib.parseUintB
    rw [if_neg (by simp)]
  have e2 : (c :: r).foldl (fun a c => 10 * a + (c.toNat - 48)) 0 = val (c :: r) := rfl
  rw [e2] at e
  generalize val (c :: r) = v at *
  have e63 : (2 : Nat) ^ (64 - 1) = 9223372036854775808 := rfl
  by_cases h3 : v ≤ 18446744073709551615
  · rw [if_pos h3] at e
    simp only [Lib.parseIntB, n43, n2, or_self, not_false_eq_true, true_and, false_and, if_false]
    rw [eB, e, e63]
    simp only
    by_cases h2 : v < 9223372036854775808
    · rw [if_neg (by omega), if_pos h2]
    · rw [if_pos (by omega), if_neg h2]
  · rw [if_neg h3] at e
    simp only [Lib.parseIntB, n43, n2, or_self, if_false]
    rw [eB, e]
    simp only
    rw [if_neg (by omega)]
theorem parse_ok (s : List UInt8) (hne : s ≠ []) (hd : ∀ x ∈ s, tDi x = true) (hn : s.length ≤ 1099511627776) (hv : val s < 9223372036854775808) (w : World) :
    Calls Tryd.prog 41 #[.string (str s), .int .i64 10, .int .i64 64] w fun e w' => e = .returned (.tuple #[.int .i64 (val s : Int), .nilIface]) ∧ Below w.heap.size w w' := by
  refine (Tryd.strconv_ParseInt_10_at64_ok (str s) (by rw [str_sz]; omega) (val s : Int) (by rw [str_data, parseI hne hd, if_pos hv]) w).mono ?_
  rintro e w' ⟨rfl, h⟩
  refine ⟨rfl, ?_⟩
  rcases h with rfl | ⟨t, rfl⟩
  · exact Below.refl _ _
  · exact Lib.bytesWorld_below _ _ _
theorem parse_big (s : List UInt8) (hne : s ≠ []) (hd : ∀ x ∈ s, tDi x = true) (hn : s.length ≤ 1099511627776) (hv : ¬ val s < 9223372036854775808) (w : World) (tp : TypeId) (p : Value) (hr : w.cell? ⟨3, 0, none⟩ = some (.iface tp p)) :
    Calls Tryd.prog 41 #[.string (str s), .int .i64 10, .int .i64 64] w fun e w' => ∃ x N t, e = .returned (.tuple #[.int .i64 x, .iface t (.pointer (some ⟨N, 0, none⟩))]) ∧ Below w.heap.size w w' := by
  refine (Tryd.strconv_ParseInt_10_at64_range (str s) (by rw [str_sz]; omega) (by rw [str_data, parseI hne hd, if_neg hv]) (.iface tp p) w hr (.inr ⟨_, _, rfl⟩)).mono ?_
  rintro e w' ⟨N, rfl, _, _, h⟩
  exact ⟨_, _, _, rfl, h⟩
end Go.Proofs.YtmajhmionghccaaDoor
