/-
  Merged for a claim: S1K.
-/
import Derived.Test.YtcgohlooelojfaaJS1I
import Derived.Test.YtcgohlooelojfaaJJ11
import Derived.Test.YtcgohlooelojfaaJJ13
import Derived.Laws.IdiomStrings
namespace Go.Proofs.Ytcgohlooelojfaa
open Go Go.RowKit

theorem toTo_lies {w : World} {A : Option Addr} {ts : List Tk} (h : eT.LiesT w A ts) : eTo.LiesT w A (ts.map toTo) := fun hl => by
  obtain ⟨g, o, e, hg, hc⟩ := h (by simpa using hl)
  refine ⟨g, o, e, hg, fun j hj f u hu => hc j (by simpa using hj) f u ?_⟩
  rw [List.getElem_map] at hu
  exact hu
theorem bytes_lie (w : World) (s : List UInt8) (n k : Nat) : Lies (w.drew.alloc (.cells (bytesRow (str s) n) 5 (k, k + 1))) (w.heap.size + 1) (some ⟨w.heap.size, 0, none⟩) s := fun hl => by
  refine ⟨w.heap.size, 0, rfl, by omega, fun j hj => ?_⟩
  have : (w.drew.alloc (.cells (bytesRow (str s) n) 5 (k, k + 1))).heap[w.heap.size]? = some (.cells (bytesRow (str s) n) 5 (k, k + 1)) := heap_alloc_new w.drew _
  rw [Nat.zero_add]
  simp only [World.cell?, this]
  unfold bytesRow str
  rw [Array.getElem?_append_left (by simpa using hj)]
  simp [hj]
theorem toksP_len (s : List UInt8) : (toksP s).length ≤ 16384 := by
  unfold toksP
  split
  · simp
  · rename_i hs
    rcases h : scanP s with k | ts
    · simp
    · have h1 := (scan_all _ _ _ _ (Nat.le_refl _) h).2.2
      have h2 := sk_len false s
      simp
      omega
set_option maxRecDepth 100000 in
theorem toks_any (s : List UInt8) (w : World) (hs : s.length ≤ 1000000) : Calls Try.prog 17 #[.string (str s)] w (fun e w' => Below w.heap.size w w' ∧ ∃ A c, e = .returned (.slice A (toksP s).length c) ∧ eTo.LiesT w' A (toksP s)) := by
  have hcv := run_bytes_of_string w 9 34 5 (str s) Try.underlying9 Try.underlying34 Try.underlying5
  have hsz : (str s).size = s.length := by simp [str, ByteArray.size]
  rw [hsz] at hcv
  have hcg := grownCap_ge w s.length 0 5
  have hB0 : Below w.heap.size w (w.drew.alloc (.cells (bytesRow (str s) (grownCap w s.length 0 5)) 5 ((bytesRow (str s) (grownCap w s.length 0 5)).size, (bytesRow (str s) (grownCap w s.length 0 5)).size + 1))) := ((Below.refl _ w).drew).alloc (Nat.le_refl _) _
  have hL0 := bytes_lie w s (grownCap w s.length 0 5) (bytesRow (str s) (grownCap w s.length 0 5)).size
  have hz : (w.drew.alloc (.cells (bytesRow (str s) (grownCap w s.length 0 5)) 5 ((bytesRow (str s) (grownCap w s.length 0 5)).size, (bytesRow (str s) (grownCap w s.length 0 5)).size + 1))).heap.size = w.heap.size + 1 := by simp
  rw [← hz] at hL0
  generalize w.drew.alloc (.cells (bytesRow (str s) (grownCap w s.length 0 5)) 5 ((bytesRow (str s) (grownCap w s.length 0 5)).size, (bytesRow (str s) (grownCap w s.length 0 5)).size + 1)) = w1 at *
  have HS := Lib.hid (refScan_any _ _ s w1 hL0 hcg (fun e => by cases e) (by omega))
  have HB0 := Lib.hid hB0
  clear hL0 hB0 hz hsz
  go_enter Try.func17, Try.ntmps17
  go_wp2_with fail
  refine HS.out.mono ?_
  rintro e w2 ⟨hb2, h2⟩
  have HB2 := Lib.hid (HB0.out.trans (hb2.mono HB0.out.size))
  have HF : Hid (∃ A c, e = .returned (.tuple #[.slice A (toksP s).length c, .int .i64 0, .int .i64 0]) ∧ eTo.LiesT w2 A (toksP s) ∨ ∃ k x, e = .returned (.tuple #[.slice none 0 0, .int .i64 k, .int .i64 x]) ∧ toksP s = []) := by
    unfold toksP
    rcases h2 with ⟨h, rfl⟩ | ⟨h, ⟨k, hk, rfl⟩ | ⟨ts, v, hk, rfl, ho⟩⟩
    · exact ⟨none, 0, .inr ⟨0, 11, rfl, by rw [if_pos h]⟩⟩
    · exact ⟨none, 0, .inr ⟨k, 6, rfl, by rw [if_neg (by omega), hk]⟩⟩
    · obtain ⟨A, c, rfl, _, _, h3⟩ := ho.form
      refine ⟨A, c, .inl ?_⟩
      rw [if_neg (by omega), hk]
      exact ⟨by simp, toTo_lies h3⟩
  clear h2 HS hb2 HB0
  obtain ⟨A, c, ⟨rfl, hl⟩ | ⟨k, x, rfl, ht⟩⟩ := HF.out
  · have HL := Lib.hid hl
    clear hl HF
    go_wp2_with fail
    go_ret
    exact ⟨HB2.out, A, c, rfl, HL.out⟩
  · have HT := Lib.hid ht
    clear ht HF
    go_wp2_with fail
    go_ret
    exact ⟨HB2.out, none, 0, by rw [HT.out]; rfl, fun h => by rw [HT.out] at h; simp at h⟩
theorem map_one {α β : Type} {f : α → β} {l : List α} {b : β} (h : l.map f = [b]) : ∃ x, l = [x] ∧ f x = b := by
  rcases l with _ | ⟨x, _ | ⟨y, l⟩⟩
  · simp at h
  · exact ⟨x, rfl, by simpa using h⟩
  · simp at h
theorem map_two {α β : Type} {f : α → β} {l : List α} {b c : β} (h : l.map f = [b, c]) : ∃ x y, l = [x, y] ∧ f x = b ∧ f y = c := by
  rcases l with _ | ⟨x, _ | ⟨y, _ | ⟨z, l⟩⟩⟩
  · simp at h
  · simp at h
  · exact ⟨x, y, rfl, by simpa using h⟩
  · simp at h
/-- how the first source's program lies -/
theorem shape1 {m : PgM} (h : m.d = ⟨[], [dc1]⟩) : ∃ (A1 A2 pA bA kA b1 e1 xA yA zA : Option Addr) (c1 c2 pc bc kc b2 e2 xc yc zc : Nat) (ys zs : List XT),
    m = ⟨A1, c1, [], A2, c2, [⟨[109, 97, 105, 110], 1, pA, pc, [], ty0, bA, bc, [XS.mk 2 1 [120] [] [] ty0 kA kc [XT.mk 7 0 [] [] [45] xA xc [XT.mk 7 0 [] [] [45] yA yc ys, XT.mk 7 0 [] [] [42] zA zc zs]] b1 b2 [] e1 e2 []]⟩]⟩ := by
  obtain ⟨A1, c1, ss, A2, c2, fs⟩ := m
  injection h with h1 h2
  have hs1 : ss = [] := by simpa using h1
  clear h1
  obtain ⟨⟨nm, ln, pA, pc, ps, rs, bA, bc, bd⟩, rfl, h3⟩ := map_one h2
  injection h3 with e1 e2 e3 e4 h5
  have h5 : bd.map XS.d = _ := (xssd_map bd).symm.trans h5
  obtain ⟨t, rfl, h6⟩ := map_one h5
  obtain ⟨kd, ln2, nm2, fl, cl, ty, kA, kc, ks, b1, b2, bd2, e5, e6, el⟩ := t
  rw [XS.d] at h6
  injection h6 with f1 f2 f3 f4 f5 f6 h7 h8 h9
  rw [xsd_map] at h7
  rw [xssd_map] at h8 h9
  have hs8 : bd2 = [] := by simpa using h8
  have hs9 : el = [] := by simpa using h9
  clear h8 h9
  obtain ⟨⟨k1, n1, m1, g1, o1, xA, xc, xs⟩, rfl, h10⟩ := map_one h7
  rw [XT.d] at h10
  injection h10 with g2 g3 g4 g5 g6 h11
  rw [xsd_map] at h11
  obtain ⟨⟨k3, n3, m3, g33, o3, yA, yc, ys⟩, ⟨k4, n4, m4, g44, o4, zA, zc, zs⟩, rfl, h12, h13⟩ := map_two h11
  rw [XT.d] at h12 h13
  injection h12 with a1 a2 a3 a4 a5 a6
  injection h13 with b3 b4 b5 b6 b7 b8
  subst hs1 e1 e2 e3 e4 f1 f2 f3 f4 f5 f6 hs8 hs9 g2 g3 g4 g5 g6 a1 a2 a3 a4 a5 b3 b4 b5 b6 b7
  exact ⟨A1, A2, pA, bA, kA, b1, e5, xA, yA, zA, c1, c2, pc, bc, kc, b2, e6, xc, yc, zc, ys, zs, rfl⟩
set_option maxRecDepth 100000 in
set_option maxHeartbeats 8000000 in
theorem works_any (w : World) : Calls Try.prog 8 #[] w (fun e w' => e = .returned (.bool true) ∧ Below w.heap.size w w') := by
  have HT1 := Lib.hid (show Calls Try.prog 17 #[.string ⟨#[102, 117, 110, 99, 32, 109, 97, 105, 110, 40, 41, 32, 123, 32, 120, 32, 61, 32, 49, 32, 45, 32, 50, 32, 45, 32, 51, 32, 42, 32, 45, 121, 59, 32, 125]⟩] w _ from toks_any src1 w (by decide))
  have HT2 := Lib.hid (fun W => show Calls Try.prog 17 #[.string ⟨#[102, 117, 110, 99, 32, 109, 97, 105, 110, 40, 41, 32, 123, 32, 120, 32, 61, 32, 102, 40, 49, 41, 32, 43, 32, 50, 59, 32, 125]⟩] W _ from toks_any src2 W (by decide))
  go_enter Try.func8, Try.ntmps8
  go_wp2_with fail
  refine HT1.out.mono ?_
  rintro e w1 ⟨hb1, A1, c1, rfl, hl1⟩
  have HB1 := Lib.hid hb1
  have HP1 := Lib.hid (parse_any A1 c1 (toksP src1) (w := w1) hl1.lies (Nat.le_trans (toksP_len _) (by decide)))
  clear hb1 hl1 HT1
  go_wp2_with fail
  refine HP1.out.mono ?_
  rintro e w2 ⟨m1, rfl, hd1, ho1, hb2⟩
  rw [par_src1] at hd1 ⊢
  obtain ⟨a1, a2, pA, bA, kA, b1, e1, xA, yA, zA, n1, n2, pc, bc, kc, b2, e2, xc, yc, zc, ys, zs, rfl⟩ := shape1 hd1
  have HB2 := Lib.hid (HB1.out.trans (hb2.mono HB1.out.size))
  obtain ⟨hr1, hr2, _, hdd⟩ := ho1
  have hd2 := hdd _ (List.mem_singleton_self _)
  obtain ⟨gd, od, rfl, hgd, hcd⟩ := hr2.1.lies.at_ (j := 0) (by simp)
  obtain ⟨gb, ob, rfl, hgb, hcb⟩ := hd2.2.1.1.lies.at_ (j := 0) (by simp)
  have hx1 := xssOk.all hd2.2.2 _ (List.mem_singleton_self _)
  rw [XS.Ok] at hx1
  obtain ⟨gk, ok, rfl, hgk, hck⟩ := hx1.1.1.1.lies.at_ (j := 0) (by simp)
  have hx2 := xsOk_all hx1.2.1 _ (List.mem_singleton_self _)
  rw [XT.Ok] at hx2
  obtain ⟨gx, ox, rfl, hgx, hcx⟩ := hx2.1.1.lies.at_ (j := 0) (by simp)
  obtain ⟨gx2, ox2, he2, hgx2, hcx2⟩ := hx2.1.1.lies.at_ (j := 1) (by simp)
  injection he2 with he2
  injection he2 with he2 he3
  subst he2 he3
  have HQ := Lib.hid (show w2.cell? ⟨gd, od + 6, none⟩ = some (.slice (some ⟨gb, ob, none⟩) 1 bc) ∧ w2.cell? ⟨gb, ob + 8, none⟩ = some (.slice (some ⟨gk, ok, none⟩) 1 kc)
    ∧ (w2.cell? ⟨gk, ok, none⟩ = some (.int .u8 7) ∧ w2.cell? ⟨gk, ok + 1, none⟩ = some (.int .i64 0) ∧ w2.cell? ⟨gk, ok + 2, none⟩ = some (.string ⟨#[]⟩) ∧ w2.cell? ⟨gk, ok + 3, none⟩ = some (.string ⟨#[]⟩) ∧ w2.cell? ⟨gk, ok + 4, none⟩ = some (.string ⟨#[45]⟩) ∧ w2.cell? ⟨gk, ok + 5, none⟩ = some (.slice (some ⟨gx, ox, none⟩) 2 xc))
    ∧ w2.cell? ⟨gx, ox + 4, none⟩ = some (.string ⟨#[45]⟩) ∧ w2.cell? ⟨gx, ox + 10, none⟩ = some (.string ⟨#[42]⟩)
    from ⟨hcd 6 _ rfl, hcb 8 _ rfl, ⟨hck 0 _ rfl, hck 1 _ rfl, hck 2 _ rfl, hck 3 _ rfl, hck 4 _ rfl, hck 5 _ rfl⟩, hcx 4 _ rfl, hcx2 4 _ rfl⟩)
  have HN := Lib.hid (And.intro hgd (And.intro hgb (And.intro hgk hgx)))
  clear hr1 hr2 hdd hd2 hx1 hx2 hcd hcb hck hcx hcx2 hgd hgb hgk hgx hgx2 hd1 HP1 hb2
  unfold PgM.cs
  dsimp only
  have hw2 := below_lnew w2 (.cells #[.slice a1 0 n1, .slice (some ⟨gd, od, none⟩) 1 n2] 27)
  have HW2 := Lib.hid hw2
  have HC2 := Lib.hid (show CAt (w2.alloc (.cells #[.slice a1 0 n1, .slice (some ⟨gd, od, none⟩) 1 n2] 27)) w2.heap.size 27 _ from heap_alloc_new w2 _)
  clear hw2
  go_wp2_with fail
  refine (HT2.out _).mono ?_
  rintro e w3 ⟨hb3, A3, c3, rfl, hl3⟩
  have HB3 := Lib.hid hb3
  have HP3 := Lib.hid (parse_any A3 c3 (toksP src2) (w := w3) hl3.lies (Nat.le_trans (toksP_len _) (by decide)))
  clear hb3 hl3 HT2
  go_wp2_with fail
  refine HP3.out.mono ?_
  rintro e w4 ⟨⟨q1, q2, qs, q3, q4, qf⟩, rfl, hd4, ho4, hb4⟩
  rw [par_src2]
  unfold PgM.cs
  dsimp only
  have HB4 := Lib.hid (HB3.out.trans (hb4.mono HB3.out.size))
  have hc4 := HC2.out.below HB4.out HC2.out.lt
  have g4 := hc4.lt
  have p1 := hc4.cell (j := 1) (by simp)
  simp only [List.getElem_cons_zero, List.getElem_cons_succ] at p1
  have HB24 := Lib.hid (HW2.out.trans (HB4.out.mono HW2.out.size))
  obtain ⟨hq1, hq2, ⟨k0, k1, k2, k3, k4, k5⟩, hq4, hq5⟩ := HQ.out
  obtain ⟨l1, l2, l3, l4⟩ := HN.out
  have hz := HB24.out.size
  replace hq1 := (HB24.out.cell (p := ⟨gd, od + 6, none⟩) l1).trans hq1
  replace hq2 := (HB24.out.cell (p := ⟨gb, ob + 8, none⟩) l2).trans hq2
  replace k0 := (HB24.out.cell (p := ⟨gk, ok, none⟩) l3).trans k0
  replace k1 := (HB24.out.cell (p := ⟨gk, ok + 1, none⟩) l3).trans k1
  replace k2 := (HB24.out.cell (p := ⟨gk, ok + 2, none⟩) l3).trans k2
  replace k3 := (HB24.out.cell (p := ⟨gk, ok + 3, none⟩) l3).trans k3
  replace k4 := (HB24.out.cell (p := ⟨gk, ok + 4, none⟩) l3).trans k4
  replace k5 := (HB24.out.cell (p := ⟨gk, ok + 5, none⟩) l3).trans k5
  replace hq4 := (HB24.out.cell (p := ⟨gx, ox + 4, none⟩) l4).trans hq4
  replace hq5 := (HB24.out.cell (p := ⟨gx, ox + 10, none⟩) l4).trans hq5
  have l1' : gd < w4.heap.size := by omega
  have l2' : gb < w4.heap.size := by omega
  have l3' : gk < w4.heap.size := by omega
  have l4' : gx < w4.heap.size := by omega
  have HBF := Lib.hid (show ∀ o1 o2 : Obj, Below w.heap.size w ((w4.alloc o1).alloc o2) from fun o1 o2 => HB2.out.trans ((HB24.out.mono HB2.out.size).trans ((below_al2 w4 o1 o2).mono (Nat.le_trans HB2.out.size hz))))
  clear hc4 hb4 ho4 hd4 HQ HN l1 l2 l3 l4 hz HP3 HC2
  go_wp2_with fail
  go_ret
  exact ⟨rfl, HBF.out _ _⟩
end Go.Proofs.Ytcgohlooelojfaa
