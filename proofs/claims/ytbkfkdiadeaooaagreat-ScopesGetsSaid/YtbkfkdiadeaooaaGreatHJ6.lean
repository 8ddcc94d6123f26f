/-
  Merged for a claim: S6F, S6G.
-/
import Derived.Test.YtbkfkdiadeaooaaGreatHJ4
import Derived.Test.YtbkfkdiadeaooaaGreatHJ5
namespace Go.Proofs.YtbkfkdiadeaooaaGreat
open Go Go.RowKit

/-- what expr.read answers -/
def ReadR6 (b : List UInt8) (k : Nat) (w : World) (e : Ending) (w' : World) : Prop :=
  Below w.heap.size w w' ∧ ((∃ x n, rdO (b.drop k) = some (x, n) ∧ isL x.k = true ∧ e = .returned (.tuple #[.agg #[.int .u8 x.k, .int .i64 x.n], .int .i64 (k + n), .bool true])) ∨
    ((∀ x n, rdO (b.drop k) = some (x, n) → isL x.k = false) ∧ e = .returned (.tuple #[.agg #[.int .u8 0, .int .i64 0], .int .i64 0, .bool false])))

theorem loc_size : (Tryz.prog.info? 74).map (·.size) = some 2 := by kernel_rfl
theorem loc_back3 {fn : Func} {p u v : Tmp} (h : fn.results = #[.cell p 74, .tmp u, .tmp v]) {tmps : Array Value} {w : World} {g : Nat} {r : Lc} (hp : tmps.getD p undef = .pointer (some ⟨g, 0, none⟩))
    (hg : LocAt w g r) : (results fn tmps).run Tryz.prog w = .ok (.tuple #[cv r, tmps.getD u undef, tmps.getD v undef]) w :=
  res_row_tmp2 h tmps w g _ _ _ _ hp hg Tryz.underlying74 rfl loc_size
theorem LocAt.frozen {w : World} {g : Nat} {r : Lc} (h : LocAt w g r) (j : Nat) : w.frozen? ⟨g, j, none⟩ = false := by
  unfold LocAt at h
  simp [World.frozen?, h]
theorem LocAt.set0 {w : World} {g : Nat} {q : Lc} (h : LocAt w g q) (k : Int) : LocAt (w.setCell ⟨g, 0, none⟩ (.int .u8 k)) g ⟨k, q.n⟩ := by
  unfold LocAt cK at *
  simp [World.setCell, Array.getElem?_modify, h]
theorem LocAt.set1 {w : World} {g : Nat} {q : Lc} (h : LocAt w g q) (n : Int) : LocAt (w.setCell ⟨g, 1, none⟩ (.int .i64 n)) g ⟨q.k, n⟩ := by
  unfold LocAt cK at *
  simp [World.setCell, Array.getElem?_modify, h]
theorem below_set {B : Nat} {w w1 : World} (h : Below B w w1) (a : Addr) (v : Value) (hB : B ≤ a.block) : Below B w (w1.setCell a v) := h.setCell hB v

set_option maxRecDepth 100000 in
set_option maxHeartbeats 2000000 in
theorem read6_any (A : Option Addr) (c : Nat) (b : List UInt8) (k : Nat) (w : World) (hn : b.length ≤ 1099511627776) (hk : k ≤ b.length) (h : Lies w w.heap.size A b) :
    Calls Tryz.prog 108 #[.slice A b.length c, .int .i64 k] w (ReadR6 b k w) := by
  by_cases hlt : k < b.length
  · obtain ⟨g, o, rfl, hg, c0⟩ := h.at_ hlt
    have HD := Lib.hid (show b.drop k = b[k] :: b.drop (k + 1) from List.drop_eq_getElem_cons hlt)
    have hkb : (k : Int) < (b.length : Int) := by omega
    have HU := Lib.hid (fun w1 (hb : Below w.heap.size w w1) => S_any (some ⟨g, o, none⟩) c b ((k : Int) + 1) w1 w.heap.size hn (h.below hb))
    have hb0 := below_lnew w (.cells #[.int .u8 b[k].toNat, .int .i64 0] 74)
    have HB0 := Lib.hid hb0
    have HL0 := Lib.hid (locAt_new w ⟨b[k].toNat, 0⟩)
    unfold cK at HL0
    simp only at HL0
    clear hb0 h
    have HO := Lib.hid (of_any ⟨b[k].toNat, 0⟩)
    unfold OfR at HO
    simp only at HO
    have HRD := Lib.hid (show rdO (b.drop k) = if nmb b[k].toNat = true then (if good true (b.drop (k + 1)) then some (⟨b[k].toNat, hv true (b.drop (k + 1))⟩, lg (b.drop (k + 1)) 10 + 1) else none) else some (⟨b[k].toNat, 0⟩, 1) by rw [HD.out, rdO_cons])
    have hku := good_u8 b[k]
    by_cases hi : isL b[k].toNat = true
    · obtain ⟨fF, fN, fT, hsv, hst⟩ := stp_of ⟨b[k].toNat, 0⟩ hi
      obtain ⟨mF, mL, mN, mT, nA, eF, eL, eN, eT, cF, cN, cT⟩ := hst
      have CN := Lib.hid cN
      have HI := Lib.hid hi
      rw [hsv, hi] at HO
      simp only at HO CN mN
      clear mF mL mT nA eF eL eT cF cN cT hsv hi
      generalize tyL b[k].toNat = T at *
      by_cases hnm : nmb b[k].toNat = true
      · rw [hnm] at CN HRD
        rw [if_pos rfl] at HRD
        have h1i : ¬ ((k : Int) + 1 < 0 ∨ (b.length : Int) < (k : Int) + 1) := by omega
        have hN1 : ((k : Int) + 1) = ((k + 1 : Nat) : Int) := by omega
        by_cases hg2 : good true (b.drop (k + 1))
        · rw [if_pos hg2] at HRD
          obtain ⟨q1, q2, q3⟩ := rd_ok (b := true) (l := b) (k := k + 1) (by omega) hg2
          rw [hN1, q1, q2, q3] at HU
          have hmn : nmb b[k].toNat = true := hnm
          clear hg2 hnm q1 q2 q3
          generalize hv true (b.drop (k + 1)) = z at *
          generalize lg (b.drop (k + 1)) 10 = y at *
          generalize b[k].toNat = kd at *
          have HU' := Lib.hid (fun w1 hb => by have := HU.out w1 hb; rwa [← hN1] at this)
          clear HU hN1
          go_enter Tryz.func108, Tryz.ntmps108
          go_wp2_with fail
          refine (HO.out _).mono ?_
          rintro e w1 ⟨rfl, hb1⟩
          have HL1 := Lib.hid (HL0.out.below hb1 (by simp))
          have HB1 := Lib.hid (HB0.out.trans (hb1.mono HB0.out.size))
          have c1 := HL1.out.kd
          have c2 := HL1.out.nm
          have f0 := HL1.out.frozen 0
          have f1 := HL1.out.frozen 1
          simp only at c1 c2
          clear hb1 c0
          go_wp2_with fail
          refine (CN.out _).mono ?_
          rintro e w2 ⟨rfl, rfl⟩
          go_wp2_with fail
          refine (HU'.out _ HB1.out).mono ?_
          rintro e w2 ⟨rfl, rfl⟩
          go_wp2_with fail
          refine bodyPost_ret (loc_back3 (r := ⟨kd, z⟩) rfl rfl (((HL1.out.set1 z).set0 kd).set1 z)) rfl ?_
          exact ⟨below_set (below_set (below_set HB1.out _ _ (Nat.le_refl _)) _ _ (Nat.le_refl _)) _ _ (Nat.le_refl _), .inl ⟨⟨kd, z⟩, y + 1, HRD.out, HI.out, by simp only [cv, cK]; go_num⟩⟩
        · rw [if_neg hg2] at HRD
          obtain ⟨q1, q2, q3⟩ := rd_form (b := true) (l := b) (k := k + 1) (by omega) hg2
          rw [hN1, q1, q2, q3] at HU
          clear hg2 hnm q1 q2 q3
          generalize b[k].toNat = kd at *
          have HU' := Lib.hid (fun w1 hb => by have := HU.out w1 hb; rwa [← hN1] at this)
          clear HU hN1
          go_enter Tryz.func108, Tryz.ntmps108
          go_wp2_with fail
          refine (HO.out _).mono ?_
          rintro e w1 ⟨rfl, hb1⟩
          have HL1 := Lib.hid (HL0.out.below hb1 (by simp))
          have HB1 := Lib.hid (HB0.out.trans (hb1.mono HB0.out.size))
          have c1 := HL1.out.kd
          have c2 := HL1.out.nm
          have f0 := HL1.out.frozen 0
          have f1 := HL1.out.frozen 1
          simp only at c1 c2
          clear hb1 c0
          go_wp2_with fail
          refine (CN.out _).mono ?_
          rintro e w2 ⟨rfl, rfl⟩
          go_wp2_with fail
          refine (HU'.out _ HB1.out).mono ?_
          rintro e w2 ⟨rfl, rfl⟩
          go_wp2_with fail
          refine bodyPost_ret (loc_back3 (r := ⟨0, 0⟩) rfl rfl ((HL1.out.set0 0).set1 0)) rfl ?_
          exact ⟨below_set (below_set HB1.out _ _ (Nat.le_refl _)) _ _ (Nat.le_refl _), .inr ⟨fun x n e => (by rw [HRD.out] at e; cases e), rfl⟩⟩
      · have hnm' : nmb b[k].toNat = false := by simpa using hnm
        rw [hnm'] at CN HRD
        rw [if_neg (by decide)] at HRD
        clear hnm hnm' HU
        generalize b[k].toNat = kd at *
        go_enter Tryz.func108, Tryz.ntmps108
        go_wp2_with fail
        refine (HO.out _).mono ?_
        rintro e w1 ⟨rfl, hb1⟩
        have HL1 := Lib.hid (HL0.out.below hb1 (by simp))
        have HB1 := Lib.hid (HB0.out.trans (hb1.mono HB0.out.size))
        have c1 := HL1.out.kd
        have c2 := HL1.out.nm
        have f0 := HL1.out.frozen 0
        have f1 := HL1.out.frozen 1
        simp only at c1 c2
        clear hb1 c0
        go_wp2_with fail
        refine (CN.out _).mono ?_
        rintro e w2 ⟨rfl, rfl⟩
        go_wp2_with fail
        refine bodyPost_ret (loc_back3 (r := ⟨kd, 0⟩) rfl rfl ((HL1.out.set0 kd).set1 0)) rfl ?_
        exact ⟨below_set (below_set HB1.out _ _ (Nat.le_refl _)) _ _ (Nat.le_refl _), .inl ⟨⟨kd, 0⟩, 1, HRD.out, HI.out, rfl⟩⟩
    · have hi' : isL b[k].toNat = false := by simpa using hi
      have HNO := Lib.hid (show ∀ x n, rdO (b.drop k) = some (x, n) → isL x.k = false from fun x n e => by
        rw [HRD.out] at e
        split at e
        · split at e
          · cases e; exact hi'
          · cases e
        · cases e; exact hi')
      rw [hi'] at HO
      clear hi hi' HU HRD
      generalize sv ⟨b[k].toNat, 0⟩ = s at *
      generalize b[k].toNat = kd at *
      go_enter Tryz.func108, Tryz.ntmps108
      go_wp2_with fail
      refine (HO.out _).mono ?_
      rintro e w1 ⟨rfl, hb1⟩
      have HL1 := Lib.hid (HL0.out.below hb1 (by simp))
      have HB1 := Lib.hid (HB0.out.trans (hb1.mono HB0.out.size))
      have c1 := HL1.out.kd
      have c2 := HL1.out.nm
      have f0 := HL1.out.frozen 0
      have f1 := HL1.out.frozen 1
      simp only at c1 c2
      clear hb1 c0
      go_wp2_with fail
      refine bodyPost_ret (loc_back3 (r := ⟨0, 0⟩) rfl rfl ((HL1.out.set0 0).set1 0)) rfl ?_
      exact ⟨below_set (below_set HB1.out _ _ (Nat.le_refl _)) _ _ (Nat.le_refl _), .inr ⟨HNO.out, rfl⟩⟩
  · obtain rfl : k = b.length := by omega
    have HR := Lib.hid (show rdO (b.drop b.length) = none by rw [List.drop_length]; rfl)
    have hb0 := Lib.hid (below_lnew w (.cells #[.int .u8 0, .int .i64 0] 74))
    go_enter Tryz.func108, Tryz.ntmps108
    go_wp2_with fail
    refine bodyPost_ret (loc_back3 (r := ⟨0, 0⟩) rfl rfl (heap_alloc_new _ _)) rfl ?_
    exact ⟨hb0.out, .inr ⟨fun x n e => (by rw [HR.out] at e; cases e), rfl⟩⟩
end Go.Proofs.YtbkfkdiadeaooaaGreat

namespace Go.Proofs.YtbkfkdiadeaooaaGreat
open Go Go.RowKit

/-- the location that stands in bytes from a place on, and the place behind it -/
def gotO (b : List UInt8) (k : Nat) : Option (List Lc × Nat) :=
  if good false (b.drop k) ∧ hv false (b.drop k) ≤ 16 then
    (rdM (hv false (b.drop k)).toNat (b.drop (k + lg (b.drop k) 10))).bind fun q => if rightC q.1 = true then some (q.1, k + lg (b.drop k) 10 + q.2) else none
  else none
def geE (b : List UInt8) (i : Int) : Int := if i < 0 ∨ (b.length : Int) < i then 1 else if (gotO b i.toNat).isSome then 0 else 5
def geO (b : List UInt8) (i : Int) : List Lc × Nat := if i < 0 ∨ (b.length : Int) < i then ([], 0) else (gotO b i.toNat).getD ([], 0)
def geL (b : List UInt8) (i : Int) : List Lc := (geO b i).1
def geN (b : List UInt8) (i : Int) : Int := (geO b i).2
theorem ge_arg {b : List UInt8} {i : Int} (h : i < 0 ∨ (b.length : Int) < i) : geE b i = 1 ∧ geL b i = [] ∧ geN b i = 0 := by
  unfold geE geL geN geO; simp only [if_pos h]; exact ⟨trivial, trivial, rfl⟩
theorem ge_none {b : List UInt8} {k : Nat} (h : k ≤ b.length) (hg : gotO b k = none) : geE b k = 5 ∧ geL b k = [] ∧ geN b k = 0 := by
  have h' : ¬ ((k : Int) < 0 ∨ (b.length : Int) < (k : Int)) := by omega
  unfold geE geL geN geO; simp only [if_neg h', Int.toNat_natCast, hg]; exact ⟨rfl, rfl, rfl⟩
theorem ge_some {b : List UInt8} {k n : Nat} {l : List Lc} (h : k ≤ b.length) (hg : gotO b k = some (l, n)) : geE b k = 0 ∧ geL b k = l ∧ geN b k = n := by
  have h' : ¬ ((k : Int) < 0 ∨ (b.length : Int) < (k : Int)) := by omega
  unfold geE geL geN geO; simp only [if_neg h', Int.toNat_natCast, hg]; exact ⟨rfl, rfl, rfl⟩
theorem gotO_bad {b : List UInt8} {k : Nat} (h : ¬ good false (b.drop k)) : gotO b k = none := if_neg (fun q => h q.1)
theorem gotO_many {b : List UInt8} {k : Nat} (h : 16 < hv false (b.drop k)) : gotO b k = none := if_neg (fun q => by omega)
theorem gotO_of {b : List UInt8} {k M k0 : Nat} (hg : good false (b.drop k)) (hM : hv false (b.drop k) = M) (hm : M ≤ 16) (hk : k + lg (b.drop k) 10 = k0) :
    gotO b k = (rdM M (b.drop k0)).bind fun q => if rightC q.1 = true then some (q.1, k0 + q.2) else none := by
  unfold gotO
  rw [if_pos ⟨hg, by omega⟩, hM, hk, Int.toNat_natCast]
theorem gotO_has {b : List UInt8} {k n : Nat} {l : List Lc} (h : gotO b k = some (l, n)) : rightC l = true ∧ (∀ x ∈ l, x.Rng) ∧ k + 1 ≤ n ∧ n ≤ b.length ∧ (b.drop k).take (n - k) = ownC l := by
  unfold gotO at h
  split at h
  · rename_i hg
    cases hq : rdM (hv false (b.drop k)).toNat (b.drop (k + lg (b.drop k) 10)) with
    | none => rw [hq] at h; cases h
    | some q =>
      obtain ⟨l', m⟩ := q
      rw [hq] at h
      simp only [Option.bind_some] at h
      split at h
      · rename_i hr
        simp only [Option.some.injEq, Prod.mk.injEq] at h
        obtain ⟨rfl, rfl⟩ := h
        obtain ⟨h1, h2, h3, h4⟩ := rdM_take _ _ _ _ hq
        obtain ⟨g1, g2, _, _⟩ := lg_has 10 (b.drop k) hg.1.1
        have h0 := hg.1.1
        have hrg := hv_rng hg.1
        simp only [rng, Bool.false_eq_true, if_false] at hrg
        simp at h2 g2
        refine ⟨hr, h4, by omega, by omega, ?_⟩
        unfold ownC
        rw [show k + lg (b.drop k) 10 + m - k = lg (b.drop k) 10 + m by omega, List.take_add, good_take hg.1, List.drop_drop, h3, h1]
        congr 2
        omega
      · cases h
  · cases h

/-- behind some steps read -/
structure GetI (b : List UInt8) (M k0 j k : Nat) (ls : List Lc) : Prop where
  le : k ≤ b.length
  lo : k0 ≤ k
  jl : j ≤ M
  len : ls.length = j
  all : rdM M (b.drop k0) = (rdM (M - j) (b.drop k)).map fun q => (ls ++ q.1, k - k0 + q.2)
theorem getI_start {b : List UInt8} {M k0 : Nat} (h : k0 ≤ b.length) : GetI b M k0 0 k0 [] := ⟨h, Nat.le_refl _, Nat.zero_le _, rfl, by
  rw [Nat.sub_zero, Nat.sub_self]
  cases rdM M (b.drop k0) with
  | none => rfl
  | some q => simp⟩
theorem GetI.next {b : List UInt8} {M k0 j k n : Nat} {ls : List Lc} {x : Lc} (h : GetI b M k0 j k ls) (hj : j < M) (ho : rdO (b.drop k) = some (x, n)) : GetI b M k0 (j + 1) (k + n) (ls ++ [x]) := by
  obtain ⟨h1, h2, h3, h4, h5⟩ := h
  obtain ⟨_, g2, g3⟩ := rdO_rng ho
  simp at g3
  refine ⟨by omega, by omega, by omega, by simp [h4], ?_⟩
  rw [h5, show M - j = (M - (j + 1)) + 1 by omega, rdM_some ho, List.drop_drop, Option.map_map]
  congr 1
  funext q
  simp only [Function.comp, List.append_assoc, List.singleton_append, Prod.mk.injEq, true_and]
  omega
theorem GetI.bad {b : List UInt8} {M k0 j k : Nat} {ls : List Lc} (h : GetI b M k0 j k ls) (hj : j < M) (ho : ∀ x n, rdO (b.drop k) = some (x, n) → isL x.k = false) :
    ((rdM M (b.drop k0)).bind fun q => if rightC q.1 = true then some (q.1, k0 + q.2) else none) = none := by
  rw [h.all, show M - j = (M - (j + 1)) + 1 by omega]
  cases hr : rdO (b.drop k) with
  | none => rw [rdM_none hr]; rfl
  | some p =>
    obtain ⟨x, n⟩ := p
    rw [rdM_some hr]
    cases rdM (M - (j + 1)) ((b.drop k).drop n) with
    | none => rfl
    | some q =>
      simp only [Option.map_some, Option.bind_some]
      rw [if_neg]
      rw [right_odd (x := x) (by simp) (ho x n hr)]
      decide
theorem GetI.end_ {b : List UInt8} {M k0 k : Nat} {ls : List Lc} (h : GetI b M k0 M k ls) :
    ((rdM M (b.drop k0)).bind fun q => if rightC q.1 = true then some (q.1, k0 + q.2) else none) = if rightC ls = true then some (ls, k) else none := by
  have h2 := h.lo
  rw [h.all, Nat.sub_self, rdM_zero]
  simp only [Option.map_some, Option.bind_some, List.append_nil, Nat.add_zero]
  rw [show k0 + (k - k0) = k by omega]

theorem loc2_new (w : World) (o : Obj) (x : Lc) : LocAt ((w.alloc o).alloc (.cells (cK x) 74)) (w.heap.size + 1) x := by
  have := locAt_new (w.alloc o) x
  rwa [show (w.alloc o).heap.size = w.heap.size + 1 by simp] at this

def GetR6 (b : List UInt8) (i : Int) (w : World) (e : Ending) (w' : World) : Prop :=
  ∃ v, e = .returned (.tuple #[v, .int .i64 (geN b i), .int .i64 (geE b i)]) ∧ LOwn w' w.heap.size v (geL b i) ∧ Below w.heap.size w w'
theorem right6_n (A : Option Addr) (n c : Nat) (l : List Lc) (w : World) (hl : l.length = n) (hn : n ≤ 1099511627776) (h : LLies w w.heap.size A l) :
    Calls Tryz.prog 89 #[.slice A n c] w (RightR6 l w) := by subst hl; exact right6_any A c l w hn h

set_option maxRecDepth 100000 in
set_option maxHeartbeats 2000000 in
theorem get6_any (A : Option Addr) (c : Nat) (b : List UInt8) (i : Int) (w : World) (hn : b.length ≤ 1099511627776) (h : Lies w w.heap.size A b) :
    Calls Tryz.prog 103 #[.slice A b.length c, .int .i64 i] w (GetR6 b i w) := by
  have HU := Lib.hid (U_any A c b i w w.heap.size hn h)
  by_cases harg : i < 0 ∨ (b.length : Int) < i
  · obtain ⟨q1, q2, q3⟩ := rd_arg (b := false) harg
    rw [q1, q2, q3] at HU
    have HG := Lib.hid (ge_arg harg)
    clear harg h q1 q2 q3
    go_enter Tryz.func103, Tryz.ntmps103
    go_wp2_with fail
    refine HU.out.mono ?_
    rintro e w1 ⟨rfl, rfl⟩
    go_wp2_with fail
    go_ret3
    obtain ⟨g1, g2, g3⟩ := HG.out
    exact ⟨_, by rw [g1, g3]; rfl, by rw [g2]; exact LOwn.nil _ _, Below.refl _ _⟩
  · obtain ⟨k, rfl⟩ : ∃ k : Nat, i = k := ⟨i.toNat, by omega⟩
    have hk : k ≤ b.length := by omega
    clear harg
    by_cases hg : good false (b.drop k)
    · obtain ⟨q1, q2, q3⟩ := rd_ok hk hg
      rw [q1, q2, q3] at HU
      have hrg := hv_rng hg
      simp only [rng, Bool.false_eq_true, if_false] at hrg
      obtain ⟨hr0, hr1⟩ := hrg
      obtain ⟨g1, g2, _, _⟩ := lg_has 10 (b.drop k) hg.1
      simp at g2
      have h0 := hg.1
      obtain ⟨M, hM⟩ : ∃ M : Nat, hv false (b.drop k) = M := ⟨(hv false (b.drop k)).toNat, by omega⟩
      have HMany := Lib.hid (fun h16 => gotO_many (b := b) (k := k) h16)
      have HOf := Lib.hid (fun h16 => gotO_of (b := b) (k := k) (M := M) hg hM h16 rfl)
      rw [hM] at HU HMany hr1
      clear q1 q2 q3 hr0 hg hM h0
      have hkn : ((k : Int) + (lg (b.drop k) 10 : Int)) = ((k + lg (b.drop k) 10 : Nat) : Int) := by omega
      rw [hkn] at HU
      have hk0 : k + lg (b.drop k) 10 ≤ b.length := by omega
      clear hkn g1 g2
      generalize k + lg (b.drop k) 10 = k0 at *
      by_cases h16 : 16 < M
      · have HG := Lib.hid (ge_none hk (HMany.out (by omega)))
        have h16i : (16 : Int) < (M : Int) := by omega
        clear HMany HOf h
        go_enter Tryz.func103, Tryz.ntmps103
        go_wp2_with fail
        refine HU.out.mono ?_
        rintro e w1 ⟨rfl, rfl⟩
        go_wp2_with fail
        go_ret3
        obtain ⟨g1, g2, g3⟩ := HG.out
        exact ⟨_, by rw [g1, g3]; rfl, by rw [g2]; exact LOwn.nil _ _, Below.refl _ _⟩
      · have h16i : (M : Int) ≤ 16 := by omega
        have HE := Lib.hid (HOf.out (by omega))
        clear HMany HOf
        go_enter Tryz.func103, Tryz.ntmps103
        go_wp2_with fail
        refine HU.out.mono ?_
        rintro e w1 ⟨rfl, rfl⟩
        clear HU hr1 h16
        go_wp2_with fail
        go_loopw [4, 5, 24] (fun v t i wr => ∃ (j k : Nat) (ls : List Lc), j ≤ M ∧ i = .int .u64 j ∧ t = .int .i64 k ∧ Hid (GetI b M k0 j k ls) ∧ Hid (LOwn wr w.heap.size v ls) ∧ Hid (Below w.heap.size w wr)) (fun _ _ i _ => M - (intOf i).toNat)
        case atStart => exact ⟨0, k0, [], by omega, rfl, rfl, getI_start hk0, LOwn.nil _ _, Below.refl _ _⟩
        case round =>
          obtain ⟨j, p, ls, hj, rfl, rfl, hI, hO, hB⟩ := hrel
          by_cases hlt : j < M
          · have HR := Lib.hid (read6_any A c b p wr hn hI.out.le ((h.below hB.out).more hB.out.size))
            have hpb := hI.out.le
            go_wp2_with fail
            refine HR.out.mono ?_
            rintro e w1 ⟨hb1, hcase⟩
            have HB1 := Lib.hid (hB.out.trans (hb1.mono hB.out.size))
            have HO1 := Lib.hid (hO.out.below hb1)
            clear hb1 HR
            rcases hcase with ⟨x, n, ho, hi, rfl⟩ | ⟨hno, rfl⟩
            · have HN := Lib.hid (hI.out.next hlt ho)
              obtain ⟨_, g1, g2⟩ := rdO_rng ho
              simp at g2
              have hfew : ls.length ≤ 16 := by have := hI.out.len; omega
              have HL2 := Lib.hid (loc2_new w1 (.cells #[.int .u8 x.k, .int .i64 x.n] 74) x)
              have HB2 := Lib.hid (HB1.out.trans ((below_lnew2 w1 (.cells #[.int .u8 x.k, .int .i64 x.n] 74) (.cells #[.int .u8 x.k, .int .i64 x.n] 74)).mono HB1.out.size))
              have HO2 := Lib.hid (HO1.out.below (below_lnew2 w1 (.cells #[.int .u8 x.k, .int .i64 x.n] 74) (.cells #[.int .u8 x.k, .int .i64 x.n] 74)))
              have hz2 := HB2.out.size
              unfold cK at HL2
              clear hI hO ho hi
              go_wp2_with (at_builtin
                           refine app_loc _ rfl (.tmp 35) (.tmp 37) rfl w.heap.size _ ls rfl HO2.out (w1.heap.size + 1) 1 x rfl HL2.out (by omega) hz2 ?_
                           intro v5 w5 ho5 hg5
                           have HB5 := Lib.hid (below_lgrown HB2.out hg5 HO2.out hz2)
                           clear hg5)
              go_roundw
              case rel => exact ⟨j + 1, p + n, ls ++ [x], by omega, by go_num, by go_num, HN, ho5, HB5⟩
              case measure => simp [intOf]; omega
            · have HG := Lib.hid (ge_none hk (HE.out.trans (hI.out.bad hlt hno)))
              clear hI hO
              go_wp2_with fail
              go_ret3
              obtain ⟨g1, g2, g3⟩ := HG.out
              exact ⟨_, by rw [g1, g3]; rfl, by rw [g2]; exact LOwn.nil _ _, HB1.out.trans ((below_lnew w1 _).mono HB1.out.size)⟩
          · obtain rfl : j = M := by omega
            have HF := Lib.hid (HE.out.trans hI.out.end_)
            have hfew : ls.length ≤ 16 := by have := hI.out.len; omega
            have HO' := Lib.hid hO.out
            obtain ⟨A2, n2, c2, rfl, hn2, _, _, hL2⟩ := hO.out.formN
            have HR := Lib.hid (right6_n A2 n2 c2 ls wr hn2.out (by rw [← hn2.out]; omega) hL2)
            unfold RightR6 at HR
            clear hI hL2 hO HE
            by_cases hr : rightC ls = true
            · rw [hr] at HR HF
              rw [if_pos rfl] at HF
              have HG := Lib.hid (ge_some hk HF.out)
              clear hr HF
              go_wp2_with fail
              refine HR.out.mono ?_
              rintro e w2 ⟨rfl, hb2⟩
              go_wp2_with fail
              go_ret3
              obtain ⟨g1, g2, g3⟩ := HG.out
              exact ⟨_, by rw [g1, g3]; rfl, by rw [g2]; exact HO'.out.below hb2, hB.out.trans (hb2.mono hB.out.size)⟩
            · have hr' : rightC ls = false := by simpa using hr
              rw [hr'] at HR HF
              rw [if_neg (by decide)] at HF
              have HG := Lib.hid (ge_none hk HF.out)
              clear hr hr' HF
              go_wp2_with fail
              refine HR.out.mono ?_
              rintro e w2 ⟨rfl, hb2⟩
              go_wp2_with fail
              go_ret3
              obtain ⟨g1, g2, g3⟩ := HG.out
              exact ⟨_, by rw [g1, g3]; rfl, by rw [g2]; exact LOwn.nil _ _, hB.out.trans (hb2.mono hB.out.size)⟩
    · obtain ⟨q1, q2, q3⟩ := rd_form hk hg
      rw [q1, q2, q3] at HU
      have HG := Lib.hid (ge_none hk (gotO_bad hg))
      clear h q1 q2 q3 hg
      go_enter Tryz.func103, Tryz.ntmps103
      go_wp2_with fail
      refine HU.out.mono ?_
      rintro e w1 ⟨rfl, rfl⟩
      go_wp2_with fail
      go_ret3
      obtain ⟨g1, g2, g3⟩ := HG.out
      exact ⟨_, by rw [g1, g3]; rfl, by rw [g2]; exact LOwn.nil _ _, Below.refl _ _⟩
end Go.Proofs.YtbkfkdiadeaooaaGreat
