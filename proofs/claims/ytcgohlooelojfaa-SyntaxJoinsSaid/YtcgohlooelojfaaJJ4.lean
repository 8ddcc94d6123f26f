/-
  Merged for a claim: SYI, SYJ.
-/
import Derived.Test.YtcgohlooelojfaaJSYH
namespace Go.Proofs.Ytcgohlooelojfaa
open Go Go.RowKit

theorem Ps.has {w : World} {gp : Nat} {A : Option Addr} {c : Nat} {l u : List To} (h : Ps w gp A c l u) : HasT w gp 59 := by
  obtain ⟨k, _, _, hc⟩ := h.k
  exact ⟨_, _, hc⟩
/-- tokens that have to stand there, one behind the other -/
def ndP : List To → List To → R Unit
  | [], u => .ok () u
  | t :: ts, u => if isT t.kd t.tx u = true then ndP ts u.tail else .bad u
section
variable {w : World} {gp : Nat} {A : Option Addr} {c : Nat} {l u : List To}
theorem name_yes (h : Ps w gp A c l u) (hy : isK 1 u = true) :
    Calls Try.prog 59 #[.pointer (some ⟨gp, 0, none⟩)] w (fun e w' => e = .returned (.string (str (hd u).tx)) ∧ Ps w' gp A c l u.tail ∧ w.grownBy w' (some gp)) := by
  have HO := Lib.hid (one_yes h 1 (by decide) hy)
  have hf := tok_f1
  unfold tV tS at HO
  go_enter Try.func59, Try.ntmps59
  go_wp2_with fail
  refine HO.out.mono ?_
  rintro e w1 ⟨rfl, h1, h2⟩
  go_wp2_with fail
  go_ret
  exact ⟨rfl, h1, h2⟩
theorem name_no (h : Ps w gp A c l u) (hy : isK 1 u = false) :
    Calls Try.prog 59 #[.pointer (some ⟨gp, 0, none⟩)] w (fun e w' => e = .panicked misC ∧ Ps w' gp A c l u ∧ w.grownBy w' (some gp)) := by
  have HO := Lib.hid (one_no h 1 (by decide) hy)
  go_enter Try.func59, Try.ntmps59
  go_wp2_with fail
  refine HO.out.mono ?_
  rintro e w1 ⟨rfl, h1, h2⟩
  go_wp2
  exact ⟨rfl, rfl, h1, h2⟩
theorem number_yes (h : Ps w gp A c l u) (hy : isK 2 u = true) :
    Calls Try.prog 73 #[.pointer (some ⟨gp, 0, none⟩)] w (fun e w' => e = .returned (.int .i64 (hd u).nu) ∧ Ps w' gp A c l u.tail ∧ w.grownBy w' (some gp)) := by
  have HO := Lib.hid (one_yes h 2 (by decide) hy)
  have hf := tok_f2
  unfold tV tS at HO
  go_enter Try.func73, Try.ntmps73
  go_wp2_with fail
  refine HO.out.mono ?_
  rintro e w1 ⟨rfl, h1, h2⟩
  go_wp2_with fail
  go_ret
  exact ⟨rfl, h1, h2⟩
theorem number_no (h : Ps w gp A c l u) (hy : isK 2 u = false) :
    Calls Try.prog 73 #[.pointer (some ⟨gp, 0, none⟩)] w (fun e w' => e = .panicked misC ∧ Ps w' gp A c l u ∧ w.grownBy w' (some gp)) := by
  have HO := Lib.hid (one_no h 2 (by decide) hy)
  go_enter Try.func73, Try.ntmps73
  go_wp2_with fail
  refine HO.out.mono ?_
  rintro e w1 ⟨rfl, h1, h2⟩
  go_wp2
  exact ⟨rfl, rfl, h1, h2⟩
/-- what comes of tokens that have to stand there -/
def NdR (w : World) (gp : Nat) (A : Option Addr) (c : Nat) (l : List To) (r : R Unit) (e : Ending) (w' : World) : Prop := match r with
  | .ok _ v => e = .returned (.tuple #[]) ∧ Ps w' gp A c l v ∧ w.grownBy w' (some gp)
  | .bad v => e = .panicked misC ∧ Ps w' gp A c l v ∧ w.grownBy w' (some gp)
  | .out => False
set_option maxRecDepth 100000 in
set_option maxHeartbeats 2000000 in
theorem need_any (h : Ps w gp A c l u) (ts : List To) (hk : ∀ t ∈ ts, t.kd ≠ 0) (A2 : Option Addr) (c2 : Nat) (hT : eTo.LiesT w A2 ts) (hn : ts.length ≤ 9) :
    Calls Try.prog 58 #[.pointer (some ⟨gp, 0, none⟩), .slice A2 ts.length c2] w (NdR w gp A c l (ndP ts u)) := by
  have HP := Lib.hid h
  have HT := Lib.hid hT
  obtain ⟨r, hr⟩ : ∃ r, ndP ts u = r := ⟨_, rfl⟩
  rw [hr]
  have HR := Lib.hid hr
  clear h hT hr
  go_enter Try.func58, Try.ntmps58
  go_wp2_with fail
  go_loopw [8] (fun i wr => ∃ (j : Nat) (v : List To), j ≤ ts.length ∧ i = .int .i64 j ∧ Hid (ndP (ts.drop j) v = r) ∧ Hid (Ps wr gp A c l v) ∧ Hid (w.grownBy wr (some gp))) (fun i _ => ts.length - (intOf i).toNat)
  case atStart => exact ⟨0, u, by omega, rfl, HR, HP, World.grownBy.refl _ _⟩
  case round =>
    obtain ⟨j, v, hj, rfl, hr, hp, hg⟩ := hrel
    by_cases hlt : j < ts.length
    · have hTr := HT.out.but (ButT.grown hg.out (fun k e => by injection e with e; subst e; exact HP.out.has)) (by decide)
      obtain ⟨g, o, rfl, hgl, hcell⟩ := hTr.lies.at_ hlt
      have hkt := hk _ (List.getElem_mem hlt)
      have hr2 := hr.out
      rw [List.drop_eq_getElem_cons hlt, ndP] at hr2
      generalize ts[j] = t at *
      have d0 := hcell 0 _ rfl
      have d1 := hcell 1 _ rfl
      have d2 := hcell 2 _ rfl
      have d3 := hcell 3 _ rfl
      simp only [Nat.add_zero, show eTo.sz = 4 from rfl] at d0 d1 d2 d3
      have hbb := below_lnew wr (.cells #[.int .u8 t.kd, .string (str t.tx), .int .i64 t.nu, .int .i64 t.ln] 79)
      have hp2 := hp.out.next hbb
      have HBB := Lib.hid hbb
      cases hy : isT t.kd t.tx v
      · rw [hy, if_neg (by decide)] at hr2
        have HC := Lib.hid (take_no hp2 t hkt hy)
        have HF := Lib.hid hr2
        clear hcell hr hr2 hy hp2 hbb hTr
        obtain ⟨kd, tx, nu, ln⟩ := t
        unfold tV tS at HC
        dsimp only at d0 d1 d2 d3 HC HBB
        go_wp2_with fail
        refine HC.out.mono ?_
        rintro e w2 ⟨rfl, h1, h2⟩
        have HH1 := Lib.hid h1
        have HH2 := Lib.hid (grown_trans (grown_trans hg.out (grown_below HBB.out _)) h2)
        clear h1 h2
        go_wp2_with fail
        refine ⟨rfl, ?_⟩
        rw [← HF.out]
        exact ⟨rfl, HH1.out, HH2.out⟩
      · rw [hy, if_pos rfl] at hr2
        have HC := Lib.hid (take_yes hp2 t hkt hy)
        have HF := Lib.hid hr2
        clear hcell hr hr2 hy hp2 hbb hTr
        obtain ⟨kd, tx, nu, ln⟩ := t
        unfold tV tS at HC
        dsimp only at d0 d1 d2 d3 HC HBB
        go_wp2_with fail
        refine HC.out.mono ?_
        rintro e w2 ⟨rfl, h1, h2⟩
        have HH1 := Lib.hid h1
        have HH2 := Lib.hid (grown_trans (grown_trans hg.out (grown_below HBB.out _)) h2)
        clear h1 h2
        go_wp2_with fail
        go_roundw
        case rel => exact ⟨j + 1, v.tail, by omega, by go_num, HF, HH1, HH2⟩
        case measure => simp [intOf]; omega
    · obtain rfl : j = ts.length := by omega
      rw [List.drop_length] at hr
      have HF := Lib.hid (show r = .ok () v from hr.out.symm)
      clear hr
      go_wp2_with fail
      refine bodyPost_end (results_none rfl _ _ _) rfl ?_
      rw [HF.out]
      exact ⟨rfl, hp.out, hg.out⟩
end
end Go.Proofs.Ytcgohlooelojfaa

namespace Go.Proofs.Ytcgohlooelojfaa
open Go.ChangeShapes Go.WideShapes Go.ChangeAt Go.RowKit Go.Deep

section
variable {ops : Array Oper} {rest : List Oper} {o : Oper} {a : Act} {Q : Exit → Act → World → Prop} {C : Act → World → Prop} {α : Type}
theorem add_zero_off' (g o j : Nat) : (⟨g, o, none⟩ : Addr).add j = ⟨g, o + j, none⟩ := add_zero_off g o j
theorem El.liesT_new (K : El α) (w : World) (xs : List α) (arr : Array Value) (h : ∀ (i : Nat) (u : Value), (xs.flatMap K.f)[i]? = some u → arr[i]? = some u) :
    K.LiesT (w.alloc (.cells arr K.e)) (some ⟨w.heap.size, 0, none⟩) xs := fun _ =>
  ⟨w.heap.size, 0, rfl, HasT.new w arr K.e, fun j hj f u hu => by
    have hf : f < K.sz := by have := (List.getElem?_eq_some_iff.1 hu).1; rwa [K.len] at this
    have e := El.flat_get K xs j f hj hf
    rw [hu] at e
    have := h _ _ e
    rw [Nat.zero_add]
    simp only [World.cell?, heap_alloc_new]
    exact this⟩
theorem El.op_full1 (K : El α) (w : World) (sl : TypeId) (z : Value) (by_ : Nat) (hu : Try.prog.underlying sl = some (.slice K.e)) (hi : (Try.prog.info? K.e).map (fun i => (i.zero, i.size, i.bytes)) = some (some z, K.sz, by_)) (hby : by_ ≤ 128)
    (s x : Operand) (ho : o.op = .call { callee := .builtin .append, args := #[s, x], argTypes := #[sl, sl] })
    (A : Option Addr) (c L : Nat) (xs : List α) (hs : a.eval s = .slice A xs.length c) (hfull : c ≤ xs.length) (hA : A = none → c = 0) (hl : K.Lies w L A xs) (hlc : xs.length ≤ c)
    (g c2 : Nat) (y : α) (hx : a.eval x = .slice (some ⟨g, 0, none⟩) 1 c2) (t : TypeId) (hy : w.heap[g]? = some (.cells (K.f y).toArray t (0, 0)))
    (hn : xs.length ≤ 1000000) (h : ∀ c' w', K.LiesT w' (some ⟨w.heap.size, 0, none⟩) (xs ++ [y]) → xs.length + 1 ≤ c' → Below w.heap.size w w' → C (a.put o.dst (.slice (some ⟨w.heap.size, 0, none⟩) (xs.length + 1) c')) w') : Oper.wp Try.prog o a w C Q := by
  obtain ⟨i0, hi0, hz0, hz1, hz2⟩ := info_parts hi
  have hnew : ∀ j v, (K.f y)[j]? = some v → w.cell? ((⟨g, 0, none⟩ : Addr).add j) = some v := by
    intro j v hv
    rw [add_zero_off]
    simp only [World.cell?, hy]
    simpa using hv
  have hyl : (K.f y).length = 1 * i0.size := by rw [K.len, hz1, Nat.one_mul]
  have hbb : (xs.length + 1) * i0.bytes ≤ 140737488355328 := by
    have := Nat.mul_le_mul (show xs.length + 1 ≤ 1000001 by omega) (show i0.bytes ≤ 128 by omega)
    omega
  have hfl : (xs ++ [y]).flatMap K.f = xs.flatMap K.f ++ K.f y := by simp
  have hcap := grownCap_ge w (xs.length + 1) c K.e
  have hin : ∀ (zs : Array Value) (i : Nat) (u : Value), ((xs ++ [y]).flatMap K.f)[i]? = some u → ((xs.flatMap K.f).toArray ++ (K.f y).toArray ++ zs)[i]? = some u := by
    intro zs i u hu2
    rw [hfl] at hu2
    have hlt := (List.getElem?_eq_some_iff.1 hu2).1
    rw [List.length_append] at hlt
    rw [Array.getElem?_append_left (by simpa using hlt)]
    simpa using hu2
  have hbw : ∀ arr, Below w.heap.size w (w.drew.alloc (.cells arr K.e)) := fun arr => ((Below.refl _ w).drew).alloc (Nat.le_refl _) _
  rcases A with _ | ⟨g0, o0, p0⟩
  · obtain rfl := hA rfl
    have h0 : xs = [] := List.eq_nil_of_length_eq_zero (by omega)
    subst h0
    have hr := run_append_nil (P := Try.prog) w sl o.type K.e i0 z hu hi0 hz0 ⟨g, 0, none⟩ 1 c2 (K.f y) hyl hnew (by omega) (by omega) (by simp at hbb; omega)
    unfold Oper.wp execOp
    simp only [ho, resolve, invoke, builtin, Sem.run_bind, Sem.run_pure, Result.andThen_ok, List.map_toArray, List.map_cons, List.map_nil, hs, hx, List.length_nil, hr]
    refine h _ _ (El.liesT_new K w.drew _ _ fun i u hu2 => ?_) (by simpa using hcap) (hbw _)
    have := hin (Builtin.zeroCells z.cells (grownCap w 1 0 K.e - 1)) i u hu2
    simpa using this
  · have holds : ∀ (j : Nat) (u : Value), (xs.flatMap K.f)[j]? = some u → w.cell? ((⟨g0, o0, p0⟩ : Addr).add j) = some u := by
      intro j u hu2
      have hp := K.pos
      have hj : j < xs.length * K.sz := by have := (List.getElem?_eq_some_iff.1 hu2).1; rwa [El.flat_len] at this
      have hpos : 0 < xs.length := by
        rcases Nat.eq_zero_or_pos xs.length with q | q
        · rw [q] at hj; omega
        · exact q
      obtain ⟨g', o', e, _, hc⟩ := hl hpos
      cases e
      have hj2 : j / K.sz < xs.length := Nat.div_lt_of_lt_mul (by rw [Nat.mul_comm]; exact hj)
      have hm := Nat.mod_lt j hp
      have hdm : j / K.sz * K.sz + j % K.sz = j := by rw [Nat.mul_comm]; exact Nat.div_add_mod j K.sz
      have e1 := El.flat_get K xs (j / K.sz) (j % K.sz) hj2 hm
      rw [hdm, hu2] at e1
      have := hc (j / K.sz) hj2 (j % K.sz) u e1.symm
      rw [add_zero_off']
      rwa [hdm] at this
    have hr := run_append_grow (P := Try.prog) w sl o.type K.e i0 z hu hi0 hz0 ⟨g0, o0, p0⟩ xs.length c (xs.flatMap K.f) (by rw [El.flat_len, hz1]) holds ⟨g, 0, none⟩ 1 c2 (K.f y) hyl hnew (by omega) (by omega) (growslice_fits (by omega) hbb)
    unfold Oper.wp execOp
    simp only [ho, resolve, invoke, builtin, Sem.run_bind, Sem.run_pure, Result.andThen_ok, List.map_toArray, List.map_cons, List.map_nil, hs, hx, hr]
    exact h _ _ (El.liesT_new K w.drew _ _ fun i u hu2 => hin _ i u hu2) hcap (hbw _)
end
end Go.Proofs.Ytcgohlooelojfaa
