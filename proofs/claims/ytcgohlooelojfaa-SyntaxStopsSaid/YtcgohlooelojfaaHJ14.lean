/-
  Merged for a claim: S1K, GF.
-/
import Derived.Test.YtcgohlooelojfaaHS1I
import Derived.Test.YtcgohlooelojfaaHJ11
import Derived.Test.YtcgohlooelojfaaHJ13
import Derived.Laws.IdiomStrings
import Derived.Test.YtcgohlooelojfaaHJ0
import Derived.Test.YtcgohlooelojfaaHJ3
import Derived.Deep.Slices
import Derived.Deep.Fields
namespace Go.Proofs.Ytcgohlooelojfaa
open Go Go.RowKit

theorem toTo_lies {w : World} {A : Option Addr} {ts : List Tk} (h : eT.LiesT w A ts) : eTo.LiesT w A (ts.map toTo) := fun hl => by
  obtain ⟨g, o, e, hg, hc⟩ := h (by simpa using hl)
  refine ⟨g, o, e, hg, fun j hj f u hu => hc j (by simpa using hj) f u ?_⟩
  rw [List.getElem_map] at hu
  exact hu
theorem bytes_lie (w : World) (s : List UInt8) (n k : Nat) : Lies (w.drew.alloc (.cells (bytesRow (str s) n) 5 (k, k + 1))) (w.heap.size + 1) (some ⟨w.heap.size, 0, none⟩) s := fun hl => by
  refine ⟨w.heap.size, 0, rfl, by omega, fun j hj => ?_⟩
  have : (w.drew.alloc (.cells (bytesRow (str s) n) 5 (k, k + 1))).heap[w.heap.size]? = some (.cells (bytesRow (str s) n) 5 (k, k + 1)) := heap_alloc_new w.drew _
  rw [Nat.zero_add]
  simp only [World.cell?, this]
  unfold bytesRow str
  rw [Array.getElem?_append_left (by simpa using hj)]
  simp [hj]
theorem toksP_len (s : List UInt8) : (toksP s).length ≤ 16384 := by
  unfold toksP
  split
  · simp
  · rename_i hs
    rcases h : scanP s with k | ts
    · simp
    · have h1 := (scan_all _ _ _ _ (Nat.le_refl _) h).2.2
      have h2 := sk_len false s
      simp
      omega
set_option maxRecDepth 100000 in
theorem toks_any (s : List UInt8) (w : World) (hs : s.length ≤ 1000000) : Calls Try.prog 17 #[.string (str s)] w (fun e w' => Below w.heap.size w w' ∧ ∃ A c, e = .returned (.slice A (toksP s).length c) ∧ eTo.LiesT w' A (toksP s)) := by
  have hcv := run_bytes_of_string w 9 34 5 (str s) Try.underlying9 Try.underlying34 Try.underlying5
  have hsz : (str s).size = s.length := by simp [str, ByteArray.size]
  rw [hsz] at hcv
  have hcg := grownCap_ge w s.length 0 5
  have hB0 : Below w.heap.size w (w.drew.alloc (.cells (bytesRow (str s) (grownCap w s.length 0 5)) 5 ((bytesRow (str s) (grownCap w s.length 0 5)).size, (bytesRow (str s) (grownCap w s.length 0 5)).size + 1))) := ((Below.refl _ w).drew).alloc (Nat.le_refl _) _
  have hL0 := bytes_lie w s (grownCap w s.length 0 5) (bytesRow (str s) (grownCap w s.length 0 5)).size
  have hz : (w.drew.alloc (.cells (bytesRow (str s) (grownCap w s.length 0 5)) 5 ((bytesRow (str s) (grownCap w s.length 0 5)).size, (bytesRow (str s) (grownCap w s.length 0 5)).size + 1))).heap.size = w.heap.size + 1 := by simp
  rw [← hz] at hL0
  generalize w.drew.alloc (.cells (bytesRow (str s) (grownCap w s.length 0 5)) 5 ((bytesRow (str s) (grownCap w s.length 0 5)).size, (bytesRow (str s) (grownCap w s.length 0 5)).size + 1)) = w1 at *
  have HS := Lib.hid (refScan_any _ _ s w1 hL0 hcg (fun e => by cases e) (by omega))
  have HB0 := Lib.hid hB0
  clear hL0 hB0 hz hsz
  go_enter Try.func17, Try.ntmps17
  go_wp2_with fail
  refine HS.out.mono ?_
  rintro e w2 ⟨hb2, h2⟩
  have HB2 := Lib.hid (HB0.out.trans (hb2.mono HB0.out.size))
  have HF : Hid (∃ A c, e = .returned (.tuple #[.slice A (toksP s).length c, .int .i64 0, .int .i64 0]) ∧ eTo.LiesT w2 A (toksP s) ∨ ∃ k x, e = .returned (.tuple #[.slice none 0 0, .int .i64 k, .int .i64 x]) ∧ toksP s = []) := by
    unfold toksP
    rcases h2 with ⟨h, rfl⟩ | ⟨h, ⟨k, hk, rfl⟩ | ⟨ts, v, hk, rfl, ho⟩⟩
    · exact ⟨none, 0, .inr ⟨0, 11, rfl, by rw [if_pos h]⟩⟩
    · exact ⟨none, 0, .inr ⟨k, 6, rfl, by rw [if_neg (by omega), hk]⟩⟩
    · obtain ⟨A, c, rfl, _, _, h3⟩ := ho.form
      refine ⟨A, c, .inl ?_⟩
      rw [if_neg (by omega), hk]
      exact ⟨by simp, toTo_lies h3⟩
  clear h2 HS hb2 HB0
  obtain ⟨A, c, ⟨rfl, hl⟩ | ⟨k, x, rfl, ht⟩⟩ := HF.out
  · have HL := Lib.hid hl
    clear hl HF
    go_wp2_with fail
    go_ret
    exact ⟨HB2.out, A, c, rfl, HL.out⟩
  · have HT := Lib.hid ht
    clear ht HF
    go_wp2_with fail
    go_ret
    exact ⟨HB2.out, none, 0, by rw [HT.out]; rfl, fun h => by rw [HT.out] at h; simp at h⟩
theorem map_one {α β : Type} {f : α → β} {l : List α} {b : β} (h : l.map f = [b]) : ∃ x, l = [x] ∧ f x = b := by
  rcases l with _ | ⟨x, _ | ⟨y, l⟩⟩
  · simp at h
  · exact ⟨x, rfl, by simpa using h⟩
  · simp at h
theorem map_two {α β : Type} {f : α → β} {l : List α} {b c : β} (h : l.map f = [b, c]) : ∃ x y, l = [x, y] ∧ f x = b ∧ f y = c := by
  rcases l with _ | ⟨x, _ | ⟨y, _ | ⟨z, l⟩⟩⟩
  · simp at h
  · simp at h
  · exact ⟨x, y, rfl, by simpa using h⟩
  · simp at h
/-- how the first source's program lies -/
theorem shape1 {m : PgM} (h : m.d = ⟨[], [dc1]⟩) : ∃ (A1 A2 pA bA kA b1 e1 xA yA zA : Option Addr) (c1 c2 pc bc kc b2 e2 xc yc zc : Nat) (ys zs : List XT),
    m = ⟨A1, c1, [], A2, c2, [⟨[109, 97, 105, 110], 1, pA, pc, [], ty0, bA, bc, [XS.mk 2 1 [120] [] [] ty0 kA kc [XT.mk 7 0 [] [] [45] xA xc [XT.mk 7 0 [] [] [45] yA yc ys, XT.mk 7 0 [] [] [42] zA zc zs]] b1 b2 [] e1 e2 []]⟩]⟩ := by
  obtain ⟨A1, c1, ss, A2, c2, fs⟩ := m
  injection h with h1 h2
  have hs1 : ss = [] := by simpa using h1
  clear h1
  obtain ⟨⟨nm, ln, pA, pc, ps, rs, bA, bc, bd⟩, rfl, h3⟩ := map_one h2
  injection h3 with e1 e2 e3 e4 h5
  have h5 : bd.map XS.d = _ := (xssd_map bd).symm.trans h5
  obtain ⟨t, rfl, h6⟩ := map_one h5
  obtain ⟨kd, ln2, nm2, fl, cl, ty, kA, kc, ks, b1, b2, bd2, e5, e6, el⟩ := t
  rw [XS.d] at h6
  injection h6 with f1 f2 f3 f4 f5 f6 h7 h8 h9
  rw [xsd_map] at h7
  rw [xssd_map] at h8 h9
  have hs8 : bd2 = [] := by simpa using h8
  have hs9 : el = [] := by simpa using h9
  clear h8 h9
  obtain ⟨⟨k1, n1, m1, g1, o1, xA, xc, xs⟩, rfl, h10⟩ := map_one h7
  rw [XT.d] at h10
  injection h10 with g2 g3 g4 g5 g6 h11
  rw [xsd_map] at h11
  obtain ⟨⟨k3, n3, m3, g33, o3, yA, yc, ys⟩, ⟨k4, n4, m4, g44, o4, zA, zc, zs⟩, rfl, h12, h13⟩ := map_two h11
  rw [XT.d] at h12 h13
  injection h12 with a1 a2 a3 a4 a5 a6
  injection h13 with b3 b4 b5 b6 b7 b8
  subst hs1 e1 e2 e3 e4 f1 f2 f3 f4 f5 f6 hs8 hs9 g2 g3 g4 g5 g6 a1 a2 a3 a4 a5 b3 b4 b5 b6 b7
  exact ⟨A1, A2, pA, bA, kA, b1, e5, xA, yA, zA, c1, c2, pc, bc, kc, b2, e6, xc, yc, zc, ys, zs, rfl⟩
set_option maxRecDepth 100000 in
set_option maxHeartbeats 8000000 in
theorem works_any (w : World) : Calls Try.prog 8 #[] w (fun e w' => e = .returned (.bool true) ∧ Below w.heap.size w w') := by
  have HT1 := Lib.hid (show Calls Try.prog 17 #[.string ⟨#[102, 117, 110, 99, 32, 109, 97, 105, 110, 40, 41, 32, 123, 32, 120, 32, 61, 32, 49, 32, 45, 32, 50, 32, 45, 32, 51, 32, 42, 32, 45, 121, 59, 32, 125]⟩] w _ from toks_any src1 w (by decide))
  have HT2 := Lib.hid (fun W => show Calls Try.prog 17 #[.string ⟨#[102, 117, 110, 99, 32, 109, 97, 105, 110, 40, 41, 32, 123, 32, 120, 32, 61, 32, 102, 40, 49, 41, 32, 43, 32, 50, 59, 32, 125]⟩] W _ from toks_any src2 W (by decide))
  go_enter Try.func8, Try.ntmps8
  go_wp2_with fail
  refine HT1.out.mono ?_
  rintro e w1 ⟨hb1, A1, c1, rfl, hl1⟩
  have HB1 := Lib.hid hb1
  have HP1 := Lib.hid (parse_any A1 c1 (toksP src1) (w := w1) hl1.lies (Nat.le_trans (toksP_len _) (by decide)))
  clear hb1 hl1 HT1
  go_wp2_with fail
  refine HP1.out.mono ?_
  rintro e w2 ⟨m1, rfl, hd1, ho1, hb2⟩
  rw [par_src1] at hd1 ⊢
  obtain ⟨a1, a2, pA, bA, kA, b1, e1, xA, yA, zA, n1, n2, pc, bc, kc, b2, e2, xc, yc, zc, ys, zs, rfl⟩ := shape1 hd1
  have HB2 := Lib.hid (HB1.out.trans (hb2.mono HB1.out.size))
  obtain ⟨hr1, hr2, _, hdd⟩ := ho1
  have hd2 := hdd _ (List.mem_singleton_self _)
  obtain ⟨gd, od, rfl, hgd, hcd⟩ := hr2.1.lies.at_ (j := 0) (by simp)
  obtain ⟨gb, ob, rfl, hgb, hcb⟩ := hd2.2.1.1.lies.at_ (j := 0) (by simp)
  have hx1 := xssOk.all hd2.2.2 _ (List.mem_singleton_self _)
  rw [XS.Ok] at hx1
  obtain ⟨gk, ok, rfl, hgk, hck⟩ := hx1.1.1.1.lies.at_ (j := 0) (by simp)
  have hx2 := xsOk_all hx1.2.1 _ (List.mem_singleton_self _)
  rw [XT.Ok] at hx2
  obtain ⟨gx, ox, rfl, hgx, hcx⟩ := hx2.1.1.lies.at_ (j := 0) (by simp)
  obtain ⟨gx2, ox2, he2, hgx2, hcx2⟩ := hx2.1.1.lies.at_ (j := 1) (by simp)
  injection he2 with he2
  injection he2 with he2 he3
  subst he2 he3
  have HQ := Lib.hid (show w2.cell? ⟨gd, od + 6, none⟩ = some (.slice (some ⟨gb, ob, none⟩) 1 bc) ∧ w2.cell? ⟨gb, ob + 8, none⟩ = some (.slice (some ⟨gk, ok, none⟩) 1 kc)
    ∧ (w2.cell? ⟨gk, ok, none⟩ = some (.int .u8 7) ∧ w2.cell? ⟨gk, ok + 1, none⟩ = some (.int .i64 0) ∧ w2.cell? ⟨gk, ok + 2, none⟩ = some (.string ⟨#[]⟩) ∧ w2.cell? ⟨gk, ok + 3, none⟩ = some (.string ⟨#[]⟩) ∧ w2.cell? ⟨gk, ok + 4, none⟩ = some (.string ⟨#[45]⟩) ∧ w2.cell? ⟨gk, ok + 5, none⟩ = some (.slice (some ⟨gx, ox, none⟩) 2 xc))
    ∧ w2.cell? ⟨gx, ox + 4, none⟩ = some (.string ⟨#[45]⟩) ∧ w2.cell? ⟨gx, ox + 10, none⟩ = some (.string ⟨#[42]⟩)
    from ⟨hcd 6 _ rfl, hcb 8 _ rfl, ⟨hck 0 _ rfl, hck 1 _ rfl, hck 2 _ rfl, hck 3 _ rfl, hck 4 _ rfl, hck 5 _ rfl⟩, hcx 4 _ rfl, hcx2 4 _ rfl⟩)
  have HN := Lib.hid (And.intro hgd (And.intro hgb (And.intro hgk hgx)))
  clear hr1 hr2 hdd hd2 hx1 hx2 hcd hcb hck hcx hcx2 hgd hgb hgk hgx hgx2 hd1 HP1 hb2
  unfold PgM.cs
  dsimp only
  have hw2 := below_lnew w2 (.cells #[.slice a1 0 n1, .slice (some ⟨gd, od, none⟩) 1 n2] 27)
  have HW2 := Lib.hid hw2
  have HC2 := Lib.hid (show CAt (w2.alloc (.cells #[.slice a1 0 n1, .slice (some ⟨gd, od, none⟩) 1 n2] 27)) w2.heap.size 27 _ from heap_alloc_new w2 _)
  clear hw2
  go_wp2_with fail
  refine (HT2.out _).mono ?_
  rintro e w3 ⟨hb3, A3, c3, rfl, hl3⟩
  have HB3 := Lib.hid hb3
  have HP3 := Lib.hid (parse_any A3 c3 (toksP src2) (w := w3) hl3.lies (Nat.le_trans (toksP_len _) (by decide)))
  clear hb3 hl3 HT2
  go_wp2_with fail
  refine HP3.out.mono ?_
  rintro e w4 ⟨⟨q1, q2, qs, q3, q4, qf⟩, rfl, hd4, ho4, hb4⟩
  rw [par_src2]
  unfold PgM.cs
  dsimp only
  have HB4 := Lib.hid (HB3.out.trans (hb4.mono HB3.out.size))
  have hc4 := HC2.out.below HB4.out HC2.out.lt
  have g4 := hc4.lt
  have p1 := hc4.cell (j := 1) (by simp)
  simp only [List.getElem_cons_zero, List.getElem_cons_succ] at p1
  have HB24 := Lib.hid (HW2.out.trans (HB4.out.mono HW2.out.size))
  obtain ⟨hq1, hq2, ⟨k0, k1, k2, k3, k4, k5⟩, hq4, hq5⟩ := HQ.out
  obtain ⟨l1, l2, l3, l4⟩ := HN.out
  have hz := HB24.out.size
  replace hq1 := (HB24.out.cell (p := ⟨gd, od + 6, none⟩) l1).trans hq1
  replace hq2 := (HB24.out.cell (p := ⟨gb, ob + 8, none⟩) l2).trans hq2
  replace k0 := (HB24.out.cell (p := ⟨gk, ok, none⟩) l3).trans k0
  replace k1 := (HB24.out.cell (p := ⟨gk, ok + 1, none⟩) l3).trans k1
  replace k2 := (HB24.out.cell (p := ⟨gk, ok + 2, none⟩) l3).trans k2
  replace k3 := (HB24.out.cell (p := ⟨gk, ok + 3, none⟩) l3).trans k3
  replace k4 := (HB24.out.cell (p := ⟨gk, ok + 4, none⟩) l3).trans k4
  replace k5 := (HB24.out.cell (p := ⟨gk, ok + 5, none⟩) l3).trans k5
  replace hq4 := (HB24.out.cell (p := ⟨gx, ox + 4, none⟩) l4).trans hq4
  replace hq5 := (HB24.out.cell (p := ⟨gx, ox + 10, none⟩) l4).trans hq5
  have l1' : gd < w4.heap.size := by omega
  have l2' : gb < w4.heap.size := by omega
  have l3' : gk < w4.heap.size := by omega
  have l4' : gx < w4.heap.size := by omega
  have HBF := Lib.hid (show ∀ o1 o2 : Obj, Below w.heap.size w ((w4.alloc o1).alloc o2) from fun o1 o2 => HB2.out.trans ((HB24.out.mono HB2.out.size).trans ((below_al2 w4 o1 o2).mono (Nat.le_trans HB2.out.size hz))))
  clear hc4 hb4 ho4 hd4 HQ HN l1 l2 l3 l4 hz HP3 HC2
  go_wp2_with fail
  go_ret
  exact ⟨rfl, HBF.out _ _⟩
end Go.Proofs.Ytcgohlooelojfaa

namespace Go.Proofs.Ytcgohlooelojfaa
open Go.ChangeShapes Go.WideShapes Go.ChangeAt Go.RowKit Go.Deep

theorem str_of (s : ByteArray) : ∃ l, s = str l := ⟨s.data.toList, by cases s; simp [str]⟩
/-- a slice of things of one kind -/
theorem open_els {H : Type} {enc : TypeId × Value → H} {P : Program} {W : World} {t e : TypeId} {fuel : Nat} {cs : List Value} {x : DataW H × List MemPlace} {α : Type} (K : El α) (Q : α → Prop)
    (ht : P.underlying t = some (.slice e)) (hC : P.cellsOf e = K.sz)
    (one : ∀ fuel cs x, DataW.trod enc P W 0 (fun _ => true) true fuel e cs = some x → ∃ y, cs = K.f y ∧ Q y)
    (h : DataW.trod enc P W 0 (fun _ => true) true fuel t cs = some x) :
    ∃ (A : Option Addr) (c : Nat) (xs : List α), cs = [.slice A xs.length c] ∧ xs.length ≤ c ∧ (A = none → c = 0) ∧ K.Lies W W.heap.size A xs ∧ ∀ x ∈ xs, Q x := by
  rcases open_slice ht h with ⟨hcs, _⟩ | ⟨a, len, cap, m, n, D, Pl, hcs, _, hl, _, hm, _, hel⟩
  · exact ⟨none, 0, [], hcs, Nat.le_refl _, fun _ => rfl, El.Lies.nil _ _ _, fun x hx => absurd hx (by simp)⟩
  · simp only [if_true] at hm
    subst hm
    have each : ∀ i, i < len → ∃ y : α, Q y ∧ ∀ f u, (K.f y)[f]? = some u → W.cell? (a.add (i * K.sz + f)) = some u := fun i hi => by
      obtain ⟨cs', hc, htr⟩ := hel i (by omega)
      obtain ⟨y, rfl, hy⟩ := one _ _ _ htr
      obtain ⟨_, hcl, hat⟩ := World.cells?_some hc
      refine ⟨y, hy, fun f u hu => ?_⟩
      have hf5 : f < K.sz := by have := (List.getElem?_eq_some_iff.1 hu).1; simpa [K.len] using this
      have := hat f (by rw [hC]; exact hf5)
      rw [hu, hC, add_add] at this
      exact this
    have hlist : ∀ k, k ≤ len → ∃ xs : List α, xs.length = k ∧ (∀ x ∈ xs, Q x) ∧ ∀ j (hj : j < xs.length) f u, (K.f xs[j])[f]? = some u → W.cell? (a.add (j * K.sz + f)) = some u := by
      intro k
      induction k with
      | zero => intro _; exact ⟨[], rfl, fun x hx => absurd hx (by simp), fun j hj => absurd hj (by simp)⟩
      | succ k ih =>
        intro hk
        obtain ⟨xs, hx, hr, hall⟩ := ih (by omega)
        obtain ⟨y, hyr, hy⟩ := each k (by omega)
        refine ⟨xs ++ [y], by simp [hx], fun x hx => ?_, fun j hj f u hu => ?_⟩
        · rcases List.mem_append.1 hx with h | h
          · exact hr x h
          · simp at h; subst h; exact hyr
        · by_cases hjk : j < xs.length
          · rw [List.getElem_append_left hjk] at hu
            exact hall j hjk f u hu
          · have : j = xs.length := by simp at hj; omega
            subst this
            simp at hu
            rw [hx]
            exact hy f u hu
    obtain ⟨xs, hx, hr, hall⟩ := hlist len (Nat.le_refl _)
    subst hx
    refine ⟨some a, _, xs, hcs, hl, fun h => (by cases h), fun hp => ?_, hr⟩
    obtain ⟨v0, hv0⟩ : ∃ v0, (K.f xs[0])[0]? = some v0 := ⟨_, List.getElem?_eq_getElem (l := K.f (xs[0]'hp)) (by rw [K.len]; exact K.pos)⟩
    have h0 := hall 0 hp 0 _ hv0
    obtain ⟨b, off, spot⟩ := a
    have hspot : spot = none := by simpa [Addr.add] using World.cell?_spot h0
    subst hspot
    refine ⟨b, off, rfl, ?_, fun j hj f u hu => ?_⟩
    · have := World.block_lt_of_cell? W _ h0
      simpa [Addr.add] using this
    · have := hall j hj f u hu
      rw [add_zero_off] at this
      exact this

section
variable {H : Type} {enc : TypeId × Value → H} {P : Program} {W : World} {base : Nat}
theorem tok_cells {s : TypeId} {f0 f1 f2 f3 : Field} {fuel : Nat} {cs : List Value} {x : DataW H × List MemPlace}
    (hs : P.underlying s = some (.struct #[f0, f1, f2, f3])) (hone : oneCellFields P #[f0, f1, f2, f3] = true) (hC : P.cellsOf s = 4)
    (t0 : P.underlying f0.type = some (.int .u8)) (t1 : P.underlying f1.type = some .string) (t2 : P.underlying f2.type = some (.int .i64)) (t3 : P.underlying f3.type = some (.int .i64))
    (h : DataW.trod enc P W 0 (fun _ => true) true fuel s cs = some x) : ∃ t : To, cs = tS t := by
  obtain ⟨ys, n, _, _, hlen, hyl, hf⟩ := DataW.trod_struct hs h
  rw [hC] at hlen
  have hsome : ∀ j, j < 4 → ∃ z, ys[j]? = some z := fun j hj => ⟨_, List.getElem?_eq_getElem (by rw [hyl]; exact hj)⟩
  match cs, hlen with
  | [v0, v1, v2, v3], _ =>
    obtain ⟨o0, k0⟩ := hone_of hone 0 f0 rfl
    have q0 := hf 0 f0 rfl
    obtain ⟨z0, e0⟩ := hsome 0 (by omega)
    rw [e0, o0, k0] at q0
    obtain ⟨a0, r0, _, _⟩ := DataW.trod_int t0 q0
    obtain ⟨o1, k1⟩ := hone_of hone 1 f1 rfl
    have q1 := hf 1 f1 rfl
    obtain ⟨z1, e1⟩ := hsome 1 (by omega)
    rw [e1, o1, k1] at q1
    obtain ⟨b, r1, _, _⟩ := DataW.trod_string t1 q1
    obtain ⟨l, rfl⟩ := str_of b
    obtain ⟨o2, k2⟩ := hone_of hone 2 f2 rfl
    have q2 := hf 2 f2 rfl
    obtain ⟨z2, e2⟩ := hsome 2 (by omega)
    rw [e2, o2, k2] at q2
    obtain ⟨a2, r2, _, _⟩ := DataW.trod_int t2 q2
    obtain ⟨o3, k3⟩ := hone_of hone 3 f3 rfl
    have q3 := hf 3 f3 rfl
    obtain ⟨z3, e3⟩ := hsome 3 (by omega)
    rw [e3, o3, k3] at q3
    obtain ⟨a3, r3, _, _⟩ := DataW.trod_int t3 q3
    simp at r0 r1 r2 r3
    exact ⟨⟨a0, l, a2, a3⟩, by unfold tS; rw [r0, r1, r2, r3]⟩
set_option maxRecDepth 100000 in
theorem open_toks {v : Value} {d : DataW H} {p : List MemPlace} (hv : Value.okWide Try.prog W .any base 22 v) (h : DataW.Trod enc Try.prog W 0 (fun _ => true) true 22 v d p) :
    ∃ (A : Option Addr) (c : Nat) (l : List To), v = .slice A l.length c ∧ l.length ≤ c ∧ (A = none → c = 0) ∧ eTo.Lies W W.heap.size A l := by
  obtain ⟨a0, len, cap, rfl⟩ := okWide_slice Try.underlying22 hv
  obtain ⟨fuel, hf⟩ := h
  obtain ⟨A, c, xs, h1, h2, h3, h4, _⟩ := open_els eTo (fun _ => True) Try.underlying22 (by kernel_rfl) (fun fuel cs x h => by
    obtain ⟨t, rfl⟩ := tok_cells Try.underlying79 (by kernel_rfl) (by kernel_rfl) (by kernel_rfl) (by kernel_rfl) (by kernel_rfl) (by kernel_rfl) h
    exact ⟨t, rfl, trivial⟩) hf
  simp [Value.cells] at h1
  obtain ⟨rfl, rfl, rfl⟩ := h1
  exact ⟨_, _, xs, rfl, h2, h3, h4⟩
end
end Go.Proofs.Ytcgohlooelojfaa
