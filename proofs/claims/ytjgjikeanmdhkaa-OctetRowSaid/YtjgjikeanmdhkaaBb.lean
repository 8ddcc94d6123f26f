/-
  The walk of OctetRow.
-/
import Derived.Test.YtjgjikeanmdhkaaAa
import Derived.Deep.RegionHeld3
namespace Go.Proofs.Ytjgjikeanmdhkaa
open Go.RowKit

def rowOf (xs : List Thing) (k : Nat) : List Thing := (xs.take k).filter okT
def bytesOf (R : List Thing) : List UInt8 := R.flatMap encT
def lastOf (R : List Thing) : Nat := (bytesOf R.dropLast).length

theorem encT_len (x : Thing) (h : okT x = true) : (encT x).length ≤ 256 ∧ 0 < (encT x).length := by
  unfold okT at h
  unfold encT
  by_cases k0 : x.k.toNat % 3 = 0
  · simp [k0]
  by_cases k1 : x.k.toNat % 3 = 1
  · simp [k1, plB]
  · simp only [k0, k1, if_false] at h ⊢
    unfold ptE at h
    by_cases hb : x.tx.length ≤ 255
    · simp [ptB]; omega
    · simp [hb] at h

theorem bytesOf_len : ∀ (R : List Thing), (∀ y, y ∈ R → okT y = true) → (bytesOf R).length ≤ R.length * 256
  | [], _ => by simp [bytesOf]
  | y :: R, h => by
    have h1 := (encT_len y (h y (by simp))).1
    have h2 := bytesOf_len R (fun z hz => h z (by simp [hz]))
    simp only [bytesOf, List.flatMap_cons, List.length_append, List.length_cons] at h2 ⊢
    omega

theorem rowOf_ok (xs : List Thing) (k : Nat) : ∀ x ∈ rowOf xs k, okT x = true := fun _ hx => (List.mem_filter.1 hx).2
theorem rowOf_len (xs : List Thing) (k : Nat) : (rowOf xs k).length ≤ k := by
  have h := List.length_filter_le okT (xs.take k)
  have := List.length_take_le k xs
  unfold rowOf; omega
theorem rowOf_bytes (xs : List Thing) (k : Nat) (hk : k ≤ 60) : (bytesOf (rowOf xs k)).length ≤ 20000 := by
  have h1 := bytesOf_len _ (rowOf_ok xs k)
  have h2 := rowOf_len xs k
  omega
theorem rowOf_yes {xs : List Thing} {k : Nat} (hk : k < xs.length) (h : okT xs[k] = true) : rowOf xs (k + 1) = rowOf xs k ++ [xs[k]] := by
  unfold rowOf
  rw [List.take_succ_eq_append_getElem hk, List.filter_append]
  simp [h]
theorem rowOf_no {xs : List Thing} {k : Nat} (hk : k < xs.length) (h : okT xs[k] = false) : rowOf xs (k + 1) = rowOf xs k := by
  unfold rowOf
  rw [List.take_succ_eq_append_getElem hk, List.filter_append]
  simp [h]
theorem bytesOf_snoc (R : List Thing) (x : Thing) : bytesOf (R ++ [x]) = bytesOf R ++ encT x := by simp [bytesOf]
theorem lastOf_snoc (R : List Thing) (x : Thing) : lastOf (R ++ [x]) = (bytesOf R).length := by simp [lastOf]

theorem five_kept {w w' : World} {g o B : Nat} {x : Thing} (hg : g < B) (hb : Below B w w') (h : TAt w g o x) : TAt w' g o x :=
  ⟨(hb.cell (p := ⟨g, o, none⟩) hg).trans h.1, (hb.cell (p := ⟨g, o + 1, none⟩) hg).trans h.2.1, (hb.cell (p := ⟨g, o + 2, none⟩) hg).trans h.2.2.1, (hb.cell (p := ⟨g, o + 3, none⟩) hg).trans h.2.2.2.1, (hb.cell (p := ⟨g, o + 4, none⟩) hg).trans h.2.2.2.2⟩

theorem far_grown {w w1 w2 : World} {B : Nat} (h : Below B w w1) (hg : w1.grownBy w2 (some B)) (hB : B ≤ w1.heap.size) : Below B w w2 := h.grown hg hB (fun k e => by cases e; exact Nat.le_refl _)

theorem TOwn.alloc {w : World} {B : Nat} {v : Value} {xs : List Thing} (h : TOwn w B v xs) (o : Obj) : TOwn (w.alloc o) B v xs := World.ownsRow.alloc h o

theorem thing_at (w : World) (x : Thing) : ∀ j u, (tCells x)[j]? = some u → (w.alloc (.cells #[.int .u8 (x.k.toNat : Int), .int .i64 x.hi, .int .i64 x.lo, .int .i64 x.pl, .string (str x.tx)] 45)).cell? ((⟨w.heap.size, 0, none⟩ : Addr).add j) = some u :=
  World.news_of_block (cs := #[.int .u8 (x.k.toNat : Int), .int .i64 x.hi, .int .i64 x.lo, .int .i64 x.pl, .string (str x.tx)]) (t := 45) (fr := (0, 0)) (heap_alloc_new w _)

theorem app_thing {ops : Array Oper} {rest : List Oper} {o : Oper} {a : Act} {Q : Exit → Act → World → Prop} (w : World) (hgd : o.guard = none) (s y : Operand) (ho : o.op = .call { callee := .builtin .append, args := #[s, y], argTypes := #[43, 43] })
    (B : Nat) (v : Value) (xs : List Thing) (hs : a.eval s = v) (hown : TOwn w B v xs) (A : Option Addr) (x : Thing) (c : Nat) (hx : a.eval y = .slice A 1 c)
    (hl : ∃ ad, A = some ad ∧ ∀ j u, (tCells x)[j]? = some u → w.cell? (ad.add j) = some u)
    (hsz : xs.length ≤ 1000) (hB : B ≤ w.heap.size)
    (h : ∀ v' w', TOwn w' B v' (xs ++ [x]) → w.grownBy w' v.ownBlock → wpList Try.prog ops Q rest (a.put o.dst v') w') : wpList Try.prog ops Q (o :: rest) a w := by
  obtain ⟨i0, hi0, hz0, hz1, hz2⟩ := info_parts t_info
  obtain ⟨ad, rfl, hc⟩ := hl
  refine wpList_append_own w hgd s y 43 ho B 45 i0 _ 5 48 Try.underlying43 hi0 hz0 hz1 hz2 rfl (by omega) v xs.length (xs.flatMap tCells) hs hown ad 1 c (tCells x) hx rfl hc (by simp [tCells, Value.oneCell'])
    (by simp only [maxLen]; omega) (by omega) hB fun v' w' h1 h2 _ => h v' w' ?_ h2
  show w'.ownsRow B 45 5 v' (xs ++ [x]).length ((xs ++ [x]).flatMap tCells)
  rw [List.length_append, List.flatMap_append]
  simpa using h1

theorem apart_blocks {w : World} {B : Nat} {v u : Value} {l : List UInt8} {xs : List Thing} (h : Own w B v l) (k : TOwn w B u xs) : v.ownBlock = none ∨ v.ownBlock ≠ u.ownBlock := by
  rcases h.2 with ⟨rfl, _⟩ | ⟨g, cap, cur, rfl, _, hh, _⟩
  · exact .inl rfl
  · refine .inr fun e => ?_
    rcases k.2 with ⟨rfl, _⟩ | ⟨g', cap', cur', rfl, _, hh', _⟩
    · simp [Value.ownBlock] at e
    · simp only [Value.ownBlock, Option.some.injEq] at e
      subst e
      rw [hh] at hh'
      injection hh' with hh'
      injection hh' with _ ht
      exact absurd ht (by decide)

theorem row_split (R : List Thing) (j : Nat) (hj : j < R.length) : bytesOf R = bytesOf (R.take j) ++ encT R[j] ++ bytesOf (R.drop (j + 1)) := by
  have h : R = R.take j ++ [R[j]] ++ R.drop (j + 1) := by simp
  exact (congrArg bytesOf h).trans (by simp only [bytesOf, List.flatMap_append, List.flatMap_cons, List.flatMap_nil, List.append_nil])
theorem row_take (R : List Thing) (j : Nat) (hj : j < R.length) : bytesOf (R.take (j + 1)) = bytesOf (R.take j) ++ encT R[j] := by
  rw [List.take_succ_eq_append_getElem hj, bytesOf_snoc]
theorem row_step (R : List Thing) (j : Nat) (hj : j < R.length) (ho : ∀ x, x ∈ R → okT x = true) : (bytesOf (R.take j)).length < (bytesOf (R.take (j + 1))).length := by
  have := (encT_len R[j] (ho _ (List.getElem_mem hj))).2
  rw [row_take R j hj, List.length_append]; omega

theorem got_row (R : List Thing) (j : Nat) (hj : j < R.length) (ho : ∀ x, x ∈ R → okT x = true) (A : Option Addr) (c : Nat) (w : World) (B : Nat) (h : Lies w B A (bytesOf R)) (hB : B ≤ w.heap.size) (hc : (bytesOf R).length ≤ c) (hn : (bytesOf R).length ≤ 65600) :
    Calls Try.prog 25 #[.slice A (bytesOf R).length c, .int .i64 ((bytesOf (R.take j)).length : Nat), .agg #[.int .u8 (R[j].k.toNat : Int), .int .i64 R[j].hi, .int .i64 R[j].lo, .int .i64 R[j].pl, .string (str R[j].tx)]] w
      (GotYes w ((bytesOf (R.take (j + 1))).length : Nat)) := by
  rw [row_take R j hj]
  rw [row_split R j hj] at h hc hn ⊢
  exact got_yes A c _ _ R[j] w B h hB hc hn (ho _ (List.getElem_mem hj))

theorem row_pos (R : List Thing) (h : 0 < R.length) (ho : ∀ x, x ∈ R → okT x = true) : 0 < (bytesOf R).length := by
  have := (encT_len R[0] (ho _ (List.getElem_mem h))).2
  rw [row_split R 0 h]
  simp only [List.length_append]; omega

theorem lies_take {w : World} {B : Nat} {A : Option Addr} {l : List UInt8} (h : Lies w B A l) (n : Nat) : Lies w B A (l.take n) := fun hl => by
  have hl' : 0 < l.length := by simp at hl; omega
  obtain ⟨g, o, e, hg, hc⟩ := h hl'
  refine ⟨g, o, e, hg, fun j hj => ?_⟩
  have : j < l.length := by simp at hj; omega
  rw [hc j this]
  simp

theorem got_last (R : List Thing) (h0 : 0 < R.length) (x : Thing) (hx : x = R[R.length - 1]) (ho : ∀ x, x ∈ R → okT x = true) (A : Option Addr) (c : Nat) (w : World) (B : Nat) (h : Lies w B A (bytesOf R)) (hB : B ≤ w.heap.size) (hc : (bytesOf R).length ≤ c) (hn : (bytesOf R).length ≤ 65600) :
    Calls Try.prog 25 #[.slice A ((bytesOf R).length - 1) c, .int .i64 (lastOf R : Nat), .agg #[.int .u8 (x.k.toNat : Int), .int .i64 x.hi, .int .i64 x.lo, .int .i64 x.pl, .string (str x.tx)]] w
      (GotNo w) := by
  have hj : R.length - 1 < R.length := by omega
  have hs := row_split R (R.length - 1) hj
  have hd : R.drop (R.length - 1 + 1) = [] := by rw [List.drop_eq_nil_iff]; omega
  rw [hd] at hs
  have ht : R.take (R.length - 1) = R.dropLast := by rw [List.dropLast_eq_take]
  rw [ht] at hs
  have hok := ho _ (List.getElem_mem hj)
  rw [← hx] at hs hok
  have hp := (encT_len x hok).2
  have hs' : bytesOf R = bytesOf R.dropLast ++ encT x := by simpa [bytesOf] using hs
  have hl : (bytesOf R).length = (bytesOf R.dropLast).length + (encT x).length := by rw [hs', List.length_append]
  have hk : (bytesOf R).take ((bytesOf R).length - 1) = bytesOf R.dropLast ++ (encT x).dropLast := by
    rw [← List.dropLast_eq_take, hs', List.dropLast_append_of_ne_nil (by intro e; rw [e] at hp; simp at hp)]
  have hL := lies_take h ((bytesOf R).length - 1)
  rw [hk] at hL
  have hkl : (bytesOf R.dropLast ++ (encT x).dropLast).length = (bytesOf R).length - 1 := by rw [← hk]; simp
  have := got_no A c (bytesOf R.dropLast) x w B hL hB (by omega) (by omega) hok
  rw [hkl] at this
  exact this

theorem before_draw {w w2 : World} (h : Below w.drew.heap.size w.drew w2) : Below w.heap.size w w2 := ⟨h.os, h.tape, h.output, h.size, h.block⟩

def Bld (w wr : World) (B : Nat) (vb vr : Value) (R : List Thing) : Prop := Own wr B vb (bytesOf R) ∧ TOwn wr B vr R ∧ Below B w wr

set_option maxRecDepth 100000 in
set_option maxHeartbeats 4000000 in
theorem octetRow_any (A : Option Addr) (c : Nat) (xs : List Thing) (w : World) (h : TLies w w.heap.size A xs) :
    Calls Try.prog 6 #[.slice A xs.length c] w (Yes w) := by
  by_cases hbig : 60 < xs.length
  · go_enter Try.func6, Try.ntmps6
    go_wp2_with fail
    refine (works_any _).mono ?_
    rintro e w' ⟨rfl, hb⟩
    go_wp2
    go_ret
    exact ⟨rfl, hb⟩
  · go_enter Try.func6, Try.ntmps6
    go_wp2_with fail
    go_loopw [3, 4, 5, 6] (fun vb vr vl i wr => ∃ k : Nat, k ≤ xs.length ∧ i = .int .i64 k ∧ vl = .int .i64 (lastOf (rowOf xs k) : Nat) ∧ Hid (Bld w wr w.heap.size vb vr (rowOf xs k))) (fun _ _ _ i _ => xs.length - (intOf i).toNat)
    case atStart => exact ⟨0, by omega, rfl, rfl, Own.nil _ _, TOwn.nil _ _, Below.refl _ _⟩
    case round =>
      obtain ⟨k, hk, rfl, rfl, hbld⟩ := hrel
      by_cases hlt : k < xs.length
      · obtain ⟨ho, hto, hb⟩ := hbld.out
        obtain ⟨g, o, rfl, hg, hat⟩ := (h.keep hb).at_ hlt
        have hRb := rowOf_bytes xs k (by omega)
        obtain ⟨x, hx⟩ : ∃ x, x = xs[k] := ⟨_, rfl⟩
        rw [← hx] at hat
        have HX := Lib.hid hx
        clear hx
        obtain ⟨c0, c1, c2, c3, c4⟩ := hat
        have hsz := str_sizeI x.tx
        by_cases ht : 1000 < x.tx.length
        · have HY := Lib.hid hb
          clear ho hto hb hbld h hRb
          go_wp2_with fail
          refine (works_any _).mono ?_
          rintro e w' ⟨rfl, hb⟩
          go_wp2
          go_ret
          exact ⟨rfl, HY.out.trans (hb.mono HY.out.size)⟩
        · obtain ⟨Ab, cb, rfl, hlb, hcb, hLb⟩ := ho.form
          obtain ⟨Ar, cr, rfl, hlr⟩ := hto.form
          have hgw : g < wr.heap.size := World.block_lt_of_cell? wr _ c0
          have HM := Lib.hid (fun W => mine_any Ab cb (bytesOf (rowOf xs k)) W)
          go_wp2_with fail
          go_region_held3 (fun w' => w'.cell? ⟨g, o + k * 5, none⟩ = some (.int .u8 (x.k.toNat : Int)) ∧ w'.cell? ⟨g, o + k * 5 + 1, none⟩ = some (.int .i64 x.hi) ∧ w'.cell? ⟨g, o + k * 5 + 2, none⟩ = some (.int .i64 x.lo) ∧ w'.cell? ⟨g, o + k * 5 + 3, none⟩ = some (.int .i64 x.pl) ∧ w'.cell? ⟨g, o + k * 5 + 4, none⟩ = some (.string (str x.tx)))
            (first
              | go_keep
              | exact five_kept hgw hbb ⟨c0, c1, c2, c3, c4⟩
              | exact five_kept hgw hb1 ⟨c0, c1, c2, c3, c4⟩)
            (first
              | (go_at_call 12; refine (HM.out _ (by exact hLb) (by omega)).mono ?_; rintro e w1 ⟨rfl, hr1, hb1⟩)
              | (go_at_call 24; refine (put_any _ w.heap.size (bytesOf (rowOf xs k)) x _ (by exact hr1) (by exact hb.size) (by omega) (by omega)).mono ?_; rintro e w2 ⟨v, rfl, hov, hg2⟩; have hbb := far_grown hb1 hg2 hb1.size))
          have hbb : Below wr.heap.size wr w2 := ⟨hbb.os, hbb.tape, hbb.output, hbb.size, hbb.block⟩
          have d := five_kept hgw hbb ⟨c0, c1, c2, c3, c4⟩
          have hto2 := hto.below hbb
          have ho2 := ho.below hbb
          have hb2 := hb.trans (hbb.mono hb.size)
          have hRk := rowOf_len xs k
          by_cases hok : okT x = true
          · have hov2 := hov hok
            have hR1 : Hid (rowOf xs (k + 1) = rowOf xs k ++ [x]) := by rw [HX.out] at hok ⊢; exact rowOf_yes hlt hok
            obtain ⟨d0, d1, d2, d3, d4⟩ := d
            have hne := Lib.hid (apart_blocks hov2 hto2)
            clear hr1 hb1 hg2 hLb HM c0 c1 c2 c3 c4 hov ho ho2 hto
            rw [hok]
            go_wp2_with (at_builtin
                         (refine app_thing _ rfl (.tmp 47) (.tmp 52) rfl w.heap.size (.slice Ar (rowOf xs k).length cr) (rowOf xs k) rfl (hto2.alloc _) (some ⟨w2.heap.size, 0, none⟩) x 1 rfl ⟨_, rfl, thing_at _ x⟩ (by omega) (by have := hb2.size; simp; omega) ?_)
                         intro v3 w3 ho3 hg3)
            have hb3 : Below w.heap.size w w3 := (hb2.alloc hb2.size _).grown hg3 (by have := hb2.size; simp; omega) (fun q e => (hto2.lt q e).1)
            have ho3' : Own w3 w.heap.size v (bytesOf (rowOf xs k) ++ encT x) := (hov2.alloc _).kept hg3 hne.out
            go_roundw
            case rel => exact ⟨k + 1, by omega, by go_num, by rw [hR1.out, lastOf_snoc], by rw [hR1.out, Bld, bytesOf_snoc]; exact ⟨ho3', ho3, hb3⟩⟩
            case measure => simp [intOf]; omega
          · have hok' : okT x = false := by simpa using hok
            have hR1 : Hid (rowOf xs (k + 1) = rowOf xs k) := by have h2 := hok'; rw [HX.out] at h2; exact rowOf_no hlt h2
            clear hr1 hb1 hg2 hLb HM c0 c1 c2 c3 c4 hov ho hto hok d
            rw [hok']
            go_wp2_with fail
            go_roundw
            case rel => exact ⟨k + 1, by omega, by go_num, by rw [hR1.out], by rw [hR1.out]; exact ⟨ho2, hto2, hb2⟩⟩
            case measure => simp [intOf]; omega
      · obtain rfl : k = xs.length := by omega
        obtain ⟨ho, hto, hb⟩ := hbld.out
        have hRb := rowOf_bytes xs xs.length (by omega)
        have hRo := rowOf_ok xs xs.length
        have hRl := rowOf_len xs xs.length
        generalize rowOf xs xs.length = R at *
        obtain ⟨Ab, cb, rfl, hlb, hcb, hLb⟩ := ho.form
        obtain ⟨Ar, cr, rfl, hlr⟩ := hto.form
        clear hbld h ho
        obtain ⟨wo, rfl⟩ : ∃ wo : World, wo = wr := ⟨_, rfl⟩
        have HO := Lib.hid hto
        have HL := Lib.hid hLb
        have HR := Lib.hid hRo
        clear hto hLb hRo
        go_wp2_with fail
        go_loopw [9, 10] (fun p i wr => ∃ j : Nat, j ≤ R.length ∧ i = .int .i64 j ∧ p = .int .i64 ((bytesOf (R.take j)).length : Nat) ∧ Below wo.heap.size wo wr) (fun _ i _ => R.length - (intOf i).toNat)
        case atStart => exact ⟨0, by omega, rfl, rfl, Below.refl _ _⟩
        case round =>
          obtain ⟨j, hj, rfl, rfl, hbj⟩ := hrel
          by_cases hlt2 : j < R.length
          · obtain ⟨_, hrc, g, rfl, hgB, hgl, hat⟩ := HO.out.at_ hlt2
            obtain ⟨d0, d1, d2, d3, d4⟩ := five_kept hgl hbj hat
            have hG := got_row R j hlt2 HR.out Ab cb wr wo.heap.size (HL.out.below hbj) hbj.size hlb (by omega)
            have hS := row_step R j hlt2 HR.out
            generalize R[j] = x at *
            obtain ⟨p, hp⟩ : ∃ p, p = (bytesOf (R.take j)).length := ⟨_, rfl⟩
            obtain ⟨q, hq⟩ : ∃ q, q = (bytesOf (R.take (j + 1))).length := ⟨_, rfl⟩
            rw [← hp, ← hq] at hG hS
            rw [← hp]
            have HG := Lib.hid hG
            have HQ := Lib.hid hq
            clear hG hat hp hq
            go_wp2_with fail
            refine HG.out.mono ?_
            rintro e w2 ⟨rfl, hb2⟩
            have hbb := hbj.trans (hb2.mono hbj.size)
            clear hb2 hbj d0 d1 d2 d3 d4
            go_wp2
            go_roundw
            case rel => exact ⟨j + 1, by omega, by go_num, by rw [HQ.out], hbb⟩
            case measure => simp [intOf]; omega
          · obtain rfl : j = R.length := by omega
            rw [List.take_length]
            have hbw := hb.trans (hbj.mono hb.size)
            by_cases h0 : R.length = 0
            · have hR0 : R = [] := List.eq_nil_of_length_eq_zero h0
              subst hR0
              clear hbj
              go_wp2_with fail
              refine (works_any _).mono ?_
              rintro e w3 ⟨rfl, hb3⟩
              go_wp2
              go_ret
              exact ⟨rfl, hbw.trans (hb3.mono hbw.size)⟩
            · obtain ⟨_, hrc, g, rfl, hgB, hgl, hat⟩ := HO.out.at_ (show R.length - 1 < R.length by omega)
              obtain ⟨x, hx⟩ : ∃ x, x = R[R.length - 1]'(by omega) := ⟨_, rfl⟩
              rw [← hx] at hat
              obtain ⟨d0, d1, d2, d3, d4⟩ := five_kept hgl hbj hat
              have hG := fun W hW hZ => got_last R (by omega) x hx HR.out Ab cb W wo.heap.size hW hZ hlb (by omega)
              have hne : 0 < (bytesOf R).length := row_pos R (by omega) HR.out
              have hLw := HL.out.below hbj
              have hbz := hbj.size
              clear hat HO HL HR hgB hlr hx
              generalize lastOf R = la at *
              generalize bytesOf R = bs at *
              generalize R.length = N at *
              generalize bs.length = M at *
              obtain ⟨n, rfl⟩ : ∃ n, N = n + 1 := ⟨N - 1, by omega⟩
              obtain ⟨m, rfl⟩ : ∃ m, M = m + 1 := ⟨M - 1, by omega⟩
              simp only [Nat.add_sub_cancel] at hG d0 d1 d2 d3 d4
              have HG := Lib.hid hG
              clear hG
              have u1 : IntKind.i64.wrap (m : Int) = m := IntWalk.i64_in _ (by omega)
              have u2 : IntKind.i64.wrap (n : Int) = n := IntWalk.i64_in _ (by omega)
              have u3 : (0 : Int) ≤ (m : Int) := by omega
              have u4 : (0 : Int) ≤ (n : Int) := by omega
              have u5 : (m : Int) ≤ (cb : Int) := by omega
              have u6 : (n : Int) < (n : Int) + 1 := by omega
              have u7 : m ≤ cb := by omega
              go_wp2_with fail
              go_region_held3 (fun w' => w'.cell? ⟨g, n * 5, none⟩ = some (.int .u8 (x.k.toNat : Int)) ∧ w'.cell? ⟨g, n * 5 + 1, none⟩ = some (.int .i64 x.hi) ∧ w'.cell? ⟨g, n * 5 + 2, none⟩ = some (.int .i64 x.lo) ∧ w'.cell? ⟨g, n * 5 + 3, none⟩ = some (.int .i64 x.pl) ∧ w'.cell? ⟨g, n * 5 + 4, none⟩ = some (.string (str x.tx)))
                (first | go_keep | exact five_kept (by omega) hbl ⟨d0, d1, d2, d3, d4⟩)
                (first
                  | (go_at_call 25; refine (HG.out _ (by exact hLw) (by exact hbz)).mono ?_; rintro e w2 ⟨r, rfl, hb2⟩; have hbl := before_draw hb2))
              have hbw2 := hbw.trans (hbl.mono hbw.size)
              clear hb2 hbl hbj hbw hLw hb
              go_wp2_with fail
              refine (works_any _).mono ?_
              rintro e w3 ⟨rfl, hb3⟩
              go_wp2
              go_ret
              exact ⟨rfl, hbw2.trans (hb3.mono hbw2.size)⟩

end Go.Proofs.Ytjgjikeanmdhkaa
