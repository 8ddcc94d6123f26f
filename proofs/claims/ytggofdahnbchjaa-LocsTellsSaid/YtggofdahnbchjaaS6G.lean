/-
  The contract of expr.Get.
-/
import Derived.Test.YtggofdahnbchjaaS6F
namespace Go.Proofs.Ytggofdahnbchjaa
open Go Go.RowKit

/-- the location that stands in bytes from a place on, and the place behind it -/
def gotO (b : List UInt8) (k : Nat) : Option (List Lc × Nat) :=
  if good false (b.drop k) ∧ hv false (b.drop k) ≤ 16 then
    (rdM (hv false (b.drop k)).toNat (b.drop (k + lg (b.drop k) 10))).bind fun q => if rightC q.1 = true then some (q.1, k + lg (b.drop k) 10 + q.2) else none
  else none
def geE (b : List UInt8) (i : Int) : Int := if i < 0 ∨ (b.length : Int) < i then 1 else if (gotO b i.toNat).isSome then 0 else 5
def geO (b : List UInt8) (i : Int) : List Lc × Nat := if i < 0 ∨ (b.length : Int) < i then ([], 0) else (gotO b i.toNat).getD ([], 0)
def geL (b : List UInt8) (i : Int) : List Lc := (geO b i).1
def geN (b : List UInt8) (i : Int) : Int := (geO b i).2
theorem ge_arg {b : List UInt8} {i : Int} (h : i < 0 ∨ (b.length : Int) < i) : geE b i = 1 ∧ geL b i = [] ∧ geN b i = 0 := by
  unfold geE geL geN geO; simp only [if_pos h]; exact ⟨trivial, trivial, rfl⟩
theorem ge_none {b : List UInt8} {k : Nat} (h : k ≤ b.length) (hg : gotO b k = none) : geE b k = 5 ∧ geL b k = [] ∧ geN b k = 0 := by
  have h' : ¬ ((k : Int) < 0 ∨ (b.length : Int) < (k : Int)) := by omega
  unfold geE geL geN geO; simp only [if_neg h', Int.toNat_natCast, hg]; exact ⟨rfl, rfl, rfl⟩
theorem ge_some {b : List UInt8} {k n : Nat} {l : List Lc} (h : k ≤ b.length) (hg : gotO b k = some (l, n)) : geE b k = 0 ∧ geL b k = l ∧ geN b k = n := by
  have h' : ¬ ((k : Int) < 0 ∨ (b.length : Int) < (k : Int)) := by omega
  unfold geE geL geN geO; simp only [if_neg h', Int.toNat_natCast, hg]; exact ⟨rfl, rfl, rfl⟩
theorem ge_cases {b : List UInt8} (i : Int) : (geE b i ≠ 0 ∧ geL b i = [] ∧ geN b i = 0) ∨ ∃ k n, i = (k : Nat) ∧ k ≤ b.length ∧ gotO b k = some (geL b i, n) ∧ geE b i = 0 ∧ geN b i = n := by
  by_cases h : i < 0 ∨ (b.length : Int) < i
  · obtain ⟨h1, h2, h3⟩ := ge_arg h
    exact .inl ⟨by omega, h2, h3⟩
  · obtain ⟨k, rfl⟩ : ∃ k : Nat, i = k := ⟨i.toNat, by omega⟩
    cases hg : gotO b k with
    | none =>
      obtain ⟨h1, h2, h3⟩ := ge_none (by omega) hg
      exact .inl ⟨by omega, h2, h3⟩
    | some q =>
      obtain ⟨l, n⟩ := q
      obtain ⟨h1, h2, h3⟩ := ge_some (by omega) hg
      exact .inr ⟨k, n, rfl, by omega, by rw [h2]; exact hg, h1, h3⟩
theorem gotO_bad {b : List UInt8} {k : Nat} (h : ¬ good false (b.drop k)) : gotO b k = none := if_neg (fun q => h q.1)
theorem gotO_many {b : List UInt8} {k : Nat} (h : 16 < hv false (b.drop k)) : gotO b k = none := if_neg (fun q => by omega)
theorem gotO_of {b : List UInt8} {k M k0 : Nat} (hg : good false (b.drop k)) (hM : hv false (b.drop k) = M) (hm : M ≤ 16) (hk : k + lg (b.drop k) 10 = k0) :
    gotO b k = (rdM M (b.drop k0)).bind fun q => if rightC q.1 = true then some (q.1, k0 + q.2) else none := by
  unfold gotO
  rw [if_pos ⟨hg, by omega⟩, hM, hk, Int.toNat_natCast]
theorem gotO_has {b : List UInt8} {k n : Nat} {l : List Lc} (h : gotO b k = some (l, n)) : rightC l = true ∧ (∀ x ∈ l, x.Rng) ∧ k + 1 ≤ n ∧ n ≤ b.length ∧ (b.drop k).take (n - k) = ownC l := by
  unfold gotO at h
  split at h
  · rename_i hg
    cases hq : rdM (hv false (b.drop k)).toNat (b.drop (k + lg (b.drop k) 10)) with
    | none => rw [hq] at h; cases h
    | some q =>
      obtain ⟨l', m⟩ := q
      rw [hq] at h
      simp only [Option.bind_some] at h
      split at h
      · rename_i hr
        simp only [Option.some.injEq, Prod.mk.injEq] at h
        obtain ⟨rfl, rfl⟩ := h
        obtain ⟨h1, h2, h3, h4⟩ := rdM_take _ _ _ _ hq
        obtain ⟨g1, g2, _, _⟩ := lg_has 10 (b.drop k) hg.1.1
        have h0 := hg.1.1
        have hrg := hv_rng hg.1
        simp only [rng, Bool.false_eq_true, if_false] at hrg
        simp at h2 g2
        refine ⟨hr, h4, by omega, by omega, ?_⟩
        unfold ownC
        rw [show k + lg (b.drop k) 10 + m - k = lg (b.drop k) 10 + m by omega, List.take_add, good_take hg.1, List.drop_drop, h3, h1]
        congr 2
        omega
      · cases h
  · cases h

/-- behind some steps read -/
structure GetI (b : List UInt8) (M k0 j k : Nat) (ls : List Lc) : Prop where
  le : k ≤ b.length
  lo : k0 ≤ k
  jl : j ≤ M
  len : ls.length = j
  all : rdM M (b.drop k0) = (rdM (M - j) (b.drop k)).map fun q => (ls ++ q.1, k - k0 + q.2)
theorem getI_start {b : List UInt8} {M k0 : Nat} (h : k0 ≤ b.length) : GetI b M k0 0 k0 [] := ⟨h, Nat.le_refl _, Nat.zero_le _, rfl, by
  rw [Nat.sub_zero, Nat.sub_self]
  cases rdM M (b.drop k0) with
  | none => rfl
  | some q => simp⟩
theorem GetI.next {b : List UInt8} {M k0 j k n : Nat} {ls : List Lc} {x : Lc} (h : GetI b M k0 j k ls) (hj : j < M) (ho : rdO (b.drop k) = some (x, n)) : GetI b M k0 (j + 1) (k + n) (ls ++ [x]) := by
  obtain ⟨h1, h2, h3, h4, h5⟩ := h
  obtain ⟨_, g2, g3⟩ := rdO_rng ho
  simp at g3
  refine ⟨by omega, by omega, by omega, by simp [h4], ?_⟩
  rw [h5, show M - j = (M - (j + 1)) + 1 by omega, rdM_some ho, List.drop_drop, Option.map_map]
  congr 1
  funext q
  simp only [Function.comp, List.append_assoc, List.singleton_append, Prod.mk.injEq, true_and]
  omega
theorem GetI.bad {b : List UInt8} {M k0 j k : Nat} {ls : List Lc} (h : GetI b M k0 j k ls) (hj : j < M) (ho : ∀ x n, rdO (b.drop k) = some (x, n) → isL x.k = false) :
    ((rdM M (b.drop k0)).bind fun q => if rightC q.1 = true then some (q.1, k0 + q.2) else none) = none := by
  rw [h.all, show M - j = (M - (j + 1)) + 1 by omega]
  cases hr : rdO (b.drop k) with
  | none => rw [rdM_none hr]; rfl
  | some p =>
    obtain ⟨x, n⟩ := p
    rw [rdM_some hr]
    cases rdM (M - (j + 1)) ((b.drop k).drop n) with
    | none => rfl
    | some q =>
      simp only [Option.map_some, Option.bind_some]
      rw [if_neg]
      rw [right_odd (x := x) (by simp) (ho x n hr)]
      decide
theorem GetI.end_ {b : List UInt8} {M k0 k : Nat} {ls : List Lc} (h : GetI b M k0 M k ls) :
    ((rdM M (b.drop k0)).bind fun q => if rightC q.1 = true then some (q.1, k0 + q.2) else none) = if rightC ls = true then some (ls, k) else none := by
  have h2 := h.lo
  rw [h.all, Nat.sub_self, rdM_zero]
  simp only [Option.map_some, Option.bind_some, List.append_nil, Nat.add_zero]
  rw [show k0 + (k - k0) = k by omega]

theorem loc2_new (w : World) (o : Obj) (x : Lc) : LocAt ((w.alloc o).alloc (.cells (cK x) 44)) (w.heap.size + 1) x := by
  have := locAt_new (w.alloc o) x
  rwa [show (w.alloc o).heap.size = w.heap.size + 1 by simp] at this

def GetR6 (b : List UInt8) (i : Int) (w : World) (e : Ending) (w' : World) : Prop :=
  ∃ v, e = .returned (.tuple #[v, .int .i64 (geN b i), .int .i64 (geE b i)]) ∧ LOwn w' w.heap.size v (geL b i) ∧ Below w.heap.size w w'
theorem right6_n (A : Option Addr) (n c : Nat) (l : List Lc) (w : World) (hl : l.length = n) (hn : n ≤ 1099511627776) (h : LLies w w.heap.size A l) :
    Calls Try.prog 37 #[.slice A n c] w (RightR6 l w) := by subst hl; exact right6_any A c l w hn h

set_option maxRecDepth 100000 in
set_option maxHeartbeats 2000000 in
theorem get6_any (A : Option Addr) (c : Nat) (b : List UInt8) (i : Int) (w : World) (hn : b.length ≤ 1099511627776) (h : Lies w w.heap.size A b) :
    Calls Try.prog 72 #[.slice A b.length c, .int .i64 i] w (GetR6 b i w) := by
  have HU := Lib.hid (U_any A c b i w w.heap.size hn h)
  by_cases harg : i < 0 ∨ (b.length : Int) < i
  · obtain ⟨q1, q2, q3⟩ := rd_arg (b := false) harg
    rw [q1, q2, q3] at HU
    have HG := Lib.hid (ge_arg harg)
    clear harg h q1 q2 q3
    go_enter Try.func72, Try.ntmps72
    go_wp2_with fail
    refine HU.out.mono ?_
    rintro e w1 ⟨rfl, rfl⟩
    go_wp2_with fail
    go_ret3
    obtain ⟨g1, g2, g3⟩ := HG.out
    exact ⟨_, by rw [g1, g3]; rfl, by rw [g2]; exact LOwn.nil _ _, Below.refl _ _⟩
  · obtain ⟨k, rfl⟩ : ∃ k : Nat, i = k := ⟨i.toNat, by omega⟩
    have hk : k ≤ b.length := by omega
    clear harg
    by_cases hg : good false (b.drop k)
    · obtain ⟨q1, q2, q3⟩ := rd_ok hk hg
      rw [q1, q2, q3] at HU
      have hrg := hv_rng hg
      simp only [rng, Bool.false_eq_true, if_false] at hrg
      obtain ⟨hr0, hr1⟩ := hrg
      obtain ⟨g1, g2, _, _⟩ := lg_has 10 (b.drop k) hg.1
      simp at g2
      have h0 := hg.1
      obtain ⟨M, hM⟩ : ∃ M : Nat, hv false (b.drop k) = M := ⟨(hv false (b.drop k)).toNat, by omega⟩
      have HMany := Lib.hid (fun h16 => gotO_many (b := b) (k := k) h16)
      have HOf := Lib.hid (fun h16 => gotO_of (b := b) (k := k) (M := M) hg hM h16 rfl)
      rw [hM] at HU HMany hr1
      clear q1 q2 q3 hr0 hg hM h0
      have hkn : ((k : Int) + (lg (b.drop k) 10 : Int)) = ((k + lg (b.drop k) 10 : Nat) : Int) := by omega
      rw [hkn] at HU
      have hk0 : k + lg (b.drop k) 10 ≤ b.length := by omega
      clear hkn g1 g2
      generalize k + lg (b.drop k) 10 = k0 at *
      by_cases h16 : 16 < M
      · have HG := Lib.hid (ge_none hk (HMany.out (by omega)))
        have h16i : (16 : Int) < (M : Int) := by omega
        clear HMany HOf h
        go_enter Try.func72, Try.ntmps72
        go_wp2_with fail
        refine HU.out.mono ?_
        rintro e w1 ⟨rfl, rfl⟩
        go_wp2_with fail
        go_ret3
        obtain ⟨g1, g2, g3⟩ := HG.out
        exact ⟨_, by rw [g1, g3]; rfl, by rw [g2]; exact LOwn.nil _ _, Below.refl _ _⟩
      · have h16i : (M : Int) ≤ 16 := by omega
        have HE := Lib.hid (HOf.out (by omega))
        clear HMany HOf
        go_enter Try.func72, Try.ntmps72
        go_wp2_with fail
        refine HU.out.mono ?_
        rintro e w1 ⟨rfl, rfl⟩
        clear HU hr1 h16
        go_wp2_with fail
        go_loopw [4, 5, 24] (fun v t i wr => ∃ (j k : Nat) (ls : List Lc), j ≤ M ∧ i = .int .u64 j ∧ t = .int .i64 k ∧ Hid (GetI b M k0 j k ls) ∧ Hid (LOwn wr w.heap.size v ls) ∧ Hid (Below w.heap.size w wr)) (fun _ _ i _ => M - (intOf i).toNat)
        case atStart => exact ⟨0, k0, [], by omega, rfl, rfl, getI_start hk0, LOwn.nil _ _, Below.refl _ _⟩
        case round =>
          obtain ⟨j, p, ls, hj, rfl, rfl, hI, hO, hB⟩ := hrel
          by_cases hlt : j < M
          · have HR := Lib.hid (read6_any A c b p wr hn hI.out.le ((h.below hB.out).more hB.out.size))
            have hpb := hI.out.le
            go_wp2_with fail
            refine HR.out.mono ?_
            rintro e w1 ⟨hb1, hcase⟩
            have HB1 := Lib.hid (hB.out.trans (hb1.mono hB.out.size))
            have HO1 := Lib.hid (hO.out.below hb1)
            clear hb1 HR
            rcases hcase with ⟨x, n, ho, hi, rfl⟩ | ⟨hno, rfl⟩
            · have HN := Lib.hid (hI.out.next hlt ho)
              obtain ⟨_, g1, g2⟩ := rdO_rng ho
              simp at g2
              have hfew : ls.length ≤ 16 := by have := hI.out.len; omega
              have HL2 := Lib.hid (loc2_new w1 (.cells #[.int .u8 x.k, .int .i64 x.n] 44) x)
              have HB2 := Lib.hid (HB1.out.trans ((below_lnew2 w1 (.cells #[.int .u8 x.k, .int .i64 x.n] 44) (.cells #[.int .u8 x.k, .int .i64 x.n] 44)).mono HB1.out.size))
              have HO2 := Lib.hid (HO1.out.below (below_lnew2 w1 (.cells #[.int .u8 x.k, .int .i64 x.n] 44) (.cells #[.int .u8 x.k, .int .i64 x.n] 44)))
              have hz2 := HB2.out.size
              unfold cK at HL2
              clear hI hO ho hi
              go_wp2_with (at_builtin
                           refine app_loc _ rfl (.tmp 35) (.tmp 37) rfl w.heap.size _ ls rfl HO2.out (w1.heap.size + 1) 1 x rfl HL2.out (by omega) hz2 ?_
                           intro v5 w5 ho5 hg5
                           have HB5 := Lib.hid (below_lgrown HB2.out hg5 HO2.out hz2)
                           clear hg5)
              go_roundw
              case rel => exact ⟨j + 1, p + n, ls ++ [x], by omega, by go_num, by go_num, HN, ho5, HB5⟩
              case measure => simp [intOf]; omega
            · have HG := Lib.hid (ge_none hk (HE.out.trans (hI.out.bad hlt hno)))
              clear hI hO
              go_wp2_with fail
              go_ret3
              obtain ⟨g1, g2, g3⟩ := HG.out
              exact ⟨_, by rw [g1, g3]; rfl, by rw [g2]; exact LOwn.nil _ _, HB1.out.trans ((below_lnew w1 _).mono HB1.out.size)⟩
          · obtain rfl : j = M := by omega
            have HF := Lib.hid (HE.out.trans hI.out.end_)
            have hfew : ls.length ≤ 16 := by have := hI.out.len; omega
            have HO' := Lib.hid hO.out
            obtain ⟨A2, n2, c2, rfl, hn2, _, _, hL2⟩ := hO.out.formN
            have HR := Lib.hid (right6_n A2 n2 c2 ls wr hn2.out (by rw [← hn2.out]; omega) hL2)
            unfold RightR6 at HR
            clear hI hL2 hO HE
            by_cases hr : rightC ls = true
            · rw [hr] at HR HF
              rw [if_pos rfl] at HF
              have HG := Lib.hid (ge_some hk HF.out)
              clear hr HF
              go_wp2_with fail
              refine HR.out.mono ?_
              rintro e w2 ⟨rfl, hb2⟩
              go_wp2_with fail
              go_ret3
              obtain ⟨g1, g2, g3⟩ := HG.out
              exact ⟨_, by rw [g1, g3]; rfl, by rw [g2]; exact HO'.out.below hb2, hB.out.trans (hb2.mono hB.out.size)⟩
            · have hr' : rightC ls = false := by simpa using hr
              rw [hr'] at HR HF
              rw [if_neg (by decide)] at HF
              have HG := Lib.hid (ge_none hk HF.out)
              clear hr hr' HF
              go_wp2_with fail
              refine HR.out.mono ?_
              rintro e w2 ⟨rfl, hb2⟩
              go_wp2_with fail
              go_ret3
              obtain ⟨g1, g2, g3⟩ := HG.out
              exact ⟨_, by rw [g1, g3]; rfl, by rw [g2]; exact LOwn.nil _ _, hB.out.trans (hb2.mono hB.out.size)⟩
    · obtain ⟨q1, q2, q3⟩ := rd_form hk hg
      rw [q1, q2, q3] at HU
      have HG := Lib.hid (ge_none hk (gotO_bad hg))
      clear h q1 q2 q3 hg
      go_enter Try.func72, Try.ntmps72
      go_wp2_with fail
      refine HU.out.mono ?_
      rintro e w1 ⟨rfl, rfl⟩
      go_wp2_with fail
      go_ret3
      obtain ⟨g1, g2, g3⟩ := HG.out
      exact ⟨_, by rw [g1, g3]; rfl, by rw [g2]; exact LOwn.nil _ _, Below.refl _ _⟩
end Go.Proofs.Ytggofdahnbchjaa
