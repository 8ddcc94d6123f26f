/-
  Merged for a claim: S1K, GF, S1L, S1P, S1Q, S3O, S3P.
-/
import Derived.Test.YtjllbacefbjjaaaZJ22
import Derived.Test.YtjllbacefbjjaaaZJ23
import Derived.Test.YtjllbacefbjjaaaZJ26
import Derived.Laws.IdiomStrings
import Derived.Test.YtjllbacefbjjaaaZJ0
import Derived.Test.YtjllbacefbjjaaaZJ4
import Derived.Deep.Slices
import Derived.Deep.Fields
import Derived.Deep.CutRange
import Derived.Test.YtjllbacefbjjaaaZS3N
import Derived.Deep.QuietTactic
namespace Go.Proofs.Ytjllbacefbjjaaa
open Go Go.RowKit

theorem toTo_lies {w : World} {A : Option Addr} {ts : List Tk} (h : eT.LiesT w A ts) : eTo.LiesT w A (ts.map toTo) := fun hl => by
 obtain ⟨g, o, e, hg, hc⟩ := h (by simpa using hl)
 refine ⟨g, o, e, hg, fun j hj f u hu => hc j (by simpa using hj) f u ?_⟩
 rw [List.getElem_map] at hu
 exact hu
theorem bytes_lie (w : World) (s : List UInt8) (n k : Nat) : Lies (w.drew.alloc (.cells (bytesRow (str s) n) 5 (k, k + 1))) (w.heap.size + 1) (some ⟨w.heap.size, 0, none⟩) s := fun hl => by
 refine ⟨w.heap.size, 0, rfl, by omega, fun j hj => ?_⟩
 have : (w.drew.alloc (.cells (bytesRow (str s) n) 5 (k, k + 1))).heap[w.heap.size]? = some (.cells (bytesRow (str s) n) 5 (k, k + 1)) := heap_alloc_new w.drew _
 rw [Nat.zero_add]
 simp only [World.cell?, this]
 unfold bytesRow str
 rw [Array.getElem?_append_left (by simpa using hj)]
 simp [hj]
theorem toksP_len (s : List UInt8) : (toksP s).length ≤ 16384 := by
 unfold toksP
 split
 · simp
 · rename_i hs
   rcases h : scanP s with k | ts
   · simp
   · have h1 := (scan_all _ _ _ _ (Nat.le_refl _) h).2.2
     have h2 := sk_len false s
     simp
     omega
set_option maxRecDepth 100000 in
theorem toks_any (s : List UInt8) (w : World) (hs : s.length ≤ 1000000) : Calls Try.prog 15 #[.string (str s)] w (fun e w' => Below w.heap.size w w' ∧ ∃ A c, e = .returned (.slice A (toksP s).length c) ∧ eTo.LiesT w' A (toksP s)) := by
 have hcv := run_bytes_of_string w 9 34 5 (str s) Try.underlying9 Try.underlying34 Try.underlying5
 have hsz : (str s).size = s.length := by simp [str, ByteArray.size]
 rw [hsz] at hcv
 have hcg := grownCap_ge w s.length 0 5
 have hB0 : Below w.heap.size w (w.drew.alloc (.cells (bytesRow (str s) (grownCap w s.length 0 5)) 5 ((bytesRow (str s) (grownCap w s.length 0 5)).size, (bytesRow (str s) (grownCap w s.length 0 5)).size + 1))) := ((Below.refl _ w).drew).alloc (Nat.le_refl _) _
 have hL0 := bytes_lie w s (grownCap w s.length 0 5) (bytesRow (str s) (grownCap w s.length 0 5)).size
 have hz : (w.drew.alloc (.cells (bytesRow (str s) (grownCap w s.length 0 5)) 5 ((bytesRow (str s) (grownCap w s.length 0 5)).size, (bytesRow (str s) (grownCap w s.length 0 5)).size + 1))).heap.size = w.heap.size + 1 := by simp
 rw [← hz] at hL0
 generalize w.drew.alloc (.cells (bytesRow (str s) (grownCap w s.length 0 5)) 5 ((bytesRow (str s) (grownCap w s.length 0 5)).size, (bytesRow (str s) (grownCap w s.length 0 5)).size + 1)) = w1 at *
 have HS := Lib.hid (refScan_any _ _ s w1 hL0 hcg (fun e => by cases e) (by omega))
 have HB0 := Lib.hid hB0
 clear hL0 hB0 hz hsz
 go_enter Try.func15, Try.ntmps15
 go_wp2_with fail
 refine HS.out.mono ?_
 rintro e w2 ⟨hb2, h2⟩
 have HB2 := Lib.hid (HB0.out.trans (hb2.mono HB0.out.size))
 have HF : Hid (∃ A c, e = .returned (.tuple #[.slice A (toksP s).length c, .int .i64 0, .int .i64 0]) ∧ eTo.LiesT w2 A (toksP s) ∨ ∃ k x, e = .returned (.tuple #[.slice none 0 0, .int .i64 k, .int .i64 x]) ∧ toksP s = []) := by
  unfold toksP
  rcases h2 with ⟨h, rfl⟩ | ⟨h, ⟨k, hk, rfl⟩ | ⟨ts, v, hk, rfl, ho⟩⟩
  · exact ⟨none, 0, .inr ⟨0, 11, rfl, by rw [if_pos h]⟩⟩
  · exact ⟨none, 0, .inr ⟨k, 6, rfl, by rw [if_neg (by omega), hk]⟩⟩
  · obtain ⟨A, c, rfl, _, _, h3⟩ := ho.form
    refine ⟨A, c, .inl ?_⟩
    rw [if_neg (by omega), hk]
    exact ⟨by simp, toTo_lies h3⟩
 clear h2 HS hb2 HB0
 obtain ⟨A, c, ⟨rfl, hl⟩ | ⟨k, x, rfl, ht⟩⟩ := HF.out
 · have HL := Lib.hid hl
   clear hl HF
   go_wp2_with fail
   go_ret
   exact ⟨HB2.out, A, c, rfl, HL.out⟩
 · have HT := Lib.hid ht
   clear ht HF
   go_wp2_with fail
   go_ret
   exact ⟨HB2.out, none, 0, by rw [HT.out]; rfl, fun h => by rw [HT.out] at h; simp at h⟩
theorem map_one {α β : Type} {f : α → β} {l : List α} {b : β} (h : l.map f = [b]) : ∃ x, l = [x] ∧ f x = b := by
 rcases l with _ | ⟨x, _ | ⟨y, l⟩⟩
 · simp at h
 · exact ⟨x, rfl, by simpa using h⟩
 · simp at h
theorem map_two {α β : Type} {f : α → β} {l : List α} {b c : β} (h : l.map f = [b, c]) : ∃ x y, l = [x, y] ∧ f x = b ∧ f y = c := by
 rcases l with _ | ⟨x, _ | ⟨y, _ | ⟨z, l⟩⟩⟩
 · simp at h
 · simp at h
 · exact ⟨x, y, rfl, by simpa using h⟩
 · simp at h
theorem shape1 {m : PgM} (h : m.d = ⟨[], [dc1]⟩) : ∃ (A1 A2 pA bA kA b1 e1 xA yA zA : Option Addr) (c1 c2 pc bc kc b2 e2 xc yc zc : Nat) (ys zs : List XT),
 m = ⟨A1, c1, [], A2, c2, [⟨[109, 97, 105, 110], 1, pA, pc, [], ty0, bA, bc, [XS.mk 2 1 [120] [] [] ty0 kA kc [XT.mk 7 0 [] [] [45] xA xc [XT.mk 7 0 [] [] [45] yA yc ys, XT.mk 7 0 [] [] [42] zA zc zs]] b1 b2 [] e1 e2 []]⟩]⟩ := by
 obtain ⟨A1, c1, ss, A2, c2, fs⟩ := m
 injection h with h1 h2
 have hs1 : ss = [] := by simpa using h1
 clear h1
 obtain ⟨⟨nm, ln, pA, pc, ps, rs, bA, bc, bd⟩, rfl, h3⟩ := map_one h2
 injection h3 with e1 e2 e3 e4 h5
 have h5 : bd.map XS.d = _ := (xssd_map bd).symm.trans h5
 obtain ⟨t, rfl, h6⟩ := map_one h5
 obtain ⟨kd, ln2, nm2, fl, cl, ty, kA, kc, ks, b1, b2, bd2, e5, e6, el⟩ := t
 rw [XS.d] at h6
 injection h6 with f1 f2 f3 f4 f5 f6 h7 h8 h9
 rw [xsd_map] at h7
 rw [xssd_map] at h8 h9
 have hs8 : bd2 = [] := by simpa using h8
 have hs9 : el = [] := by simpa using h9
 clear h8 h9
 obtain ⟨⟨k1, n1, m1, g1, o1, xA, xc, xs⟩, rfl, h10⟩ := map_one h7
 rw [XT.d] at h10
 injection h10 with g2 g3 g4 g5 g6 h11
 rw [xsd_map] at h11
 obtain ⟨⟨k3, n3, m3, g33, o3, yA, yc, ys⟩, ⟨k4, n4, m4, g44, o4, zA, zc, zs⟩, rfl, h12, h13⟩ := map_two h11
 rw [XT.d] at h12 h13
 injection h12 with a1 a2 a3 a4 a5 a6
 injection h13 with b3 b4 b5 b6 b7 b8
 subst hs1 e1 e2 e3 e4 f1 f2 f3 f4 f5 f6 hs8 hs9 g2 g3 g4 g5 g6 a1 a2 a3 a4 a5 b3 b4 b5 b6 b7
 exact ⟨A1, A2, pA, bA, kA, b1, e5, xA, yA, zA, c1, c2, pc, bc, kc, b2, e6, xc, yc, zc, ys, zs, rfl⟩
set_option maxRecDepth 100000 in
set_option maxHeartbeats 8000000 in
theorem works_any (w : World) : Calls Try.prog 6 #[] w (fun e w' => e = .returned (.bool true) ∧ Below w.heap.size w w') := by
 have HT1 := Lib.hid (show Calls Try.prog 15 #[.string ⟨#[102, 117, 110, 99, 32, 109, 97, 105, 110, 40, 41, 32, 123, 32, 120, 32, 61, 32, 49, 32, 45, 32, 50, 32, 45, 32, 51, 32, 42, 32, 45, 121, 59, 32, 125]⟩] w _ from toks_any src1 w (by decide))
 have HT2 := Lib.hid (fun W => show Calls Try.prog 15 #[.string ⟨#[102, 117, 110, 99, 32, 109, 97, 105, 110, 40, 41, 32, 123, 32, 120, 32, 61, 32, 102, 40, 49, 41, 32, 43, 32, 50, 59, 32, 125]⟩] W _ from toks_any src2 W (by decide))
 go_enter Try.func6, Try.ntmps6
 go_wp2_with fail
 refine HT1.out.mono ?_
 rintro e w1 ⟨hb1, A1, c1, rfl, hl1⟩
 have HB1 := Lib.hid hb1
 have HP1 := Lib.hid (parse_any A1 c1 (toksP src1) (w := w1) hl1.lies (Nat.le_trans (toksP_len _) (by decide)))
 clear hb1 hl1 HT1
 go_wp2_with fail
 refine HP1.out.mono ?_
 rintro e w2 ⟨m1, rfl, hd1, ho1, hb2⟩
 rw [par_src1] at hd1 ⊢
 obtain ⟨a1, a2, pA, bA, kA, b1, e1, xA, yA, zA, n1, n2, pc, bc, kc, b2, e2, xc, yc, zc, ys, zs, rfl⟩ := shape1 hd1
 have HB2 := Lib.hid (HB1.out.trans (hb2.mono HB1.out.size))
 obtain ⟨hr1, hr2, _, hdd⟩ := ho1
 have hd2 := hdd _ (List.mem_singleton_self _)
 obtain ⟨gd, od, rfl, hgd, hcd⟩ := hr2.1.lies.at_ (j := 0) (by simp)
 obtain ⟨gb, ob, rfl, hgb, hcb⟩ := hd2.2.1.1.lies.at_ (j := 0) (by simp)
 have hx1 := xssOk.all hd2.2.2 _ (List.mem_singleton_self _)
 rw [XS.Ok] at hx1
 obtain ⟨gk, ok, rfl, hgk, hck⟩ := hx1.1.1.1.lies.at_ (j := 0) (by simp)
 have hx2 := xsOk_all hx1.2.1 _ (List.mem_singleton_self _)
 rw [XT.Ok] at hx2
 obtain ⟨gx, ox, rfl, hgx, hcx⟩ := hx2.1.1.lies.at_ (j := 0) (by simp)
 obtain ⟨gx2, ox2, he2, hgx2, hcx2⟩ := hx2.1.1.lies.at_ (j := 1) (by simp)
 injection he2 with he2
 injection he2 with he2 he3
 subst he2 he3
 have HQ := Lib.hid (show w2.cell? ⟨gd, od + 6, none⟩ = some (.slice (some ⟨gb, ob, none⟩) 1 bc) ∧ w2.cell? ⟨gb, ob + 8, none⟩ = some (.slice (some ⟨gk, ok, none⟩) 1 kc)
  ∧ (w2.cell? ⟨gk, ok, none⟩ = some (.int .u8 7) ∧ w2.cell? ⟨gk, ok + 1, none⟩ = some (.int .i64 0) ∧ w2.cell? ⟨gk, ok + 2, none⟩ = some (.string ⟨#[]⟩) ∧ w2.cell? ⟨gk, ok + 3, none⟩ = some (.string ⟨#[]⟩) ∧ w2.cell? ⟨gk, ok + 4, none⟩ = some (.string ⟨#[45]⟩) ∧ w2.cell? ⟨gk, ok + 5, none⟩ = some (.slice (some ⟨gx, ox, none⟩) 2 xc))
  ∧ w2.cell? ⟨gx, ox + 4, none⟩ = some (.string ⟨#[45]⟩) ∧ w2.cell? ⟨gx, ox + 10, none⟩ = some (.string ⟨#[42]⟩)
  from ⟨hcd 6 _ rfl, hcb 8 _ rfl, ⟨hck 0 _ rfl, hck 1 _ rfl, hck 2 _ rfl, hck 3 _ rfl, hck 4 _ rfl, hck 5 _ rfl⟩, hcx 4 _ rfl, hcx2 4 _ rfl⟩)
 have HN := Lib.hid (And.intro hgd (And.intro hgb (And.intro hgk hgx)))
 clear hr1 hr2 hdd hd2 hx1 hx2 hcd hcb hck hcx hcx2 hgd hgb hgk hgx hgx2 hd1 HP1 hb2
 unfold PgM.cs
 dsimp only
 have hw2 := below_lnew w2 (.cells #[.slice a1 0 n1, .slice (some ⟨gd, od, none⟩) 1 n2] 27)
 have HW2 := Lib.hid hw2
 have HC2 := Lib.hid (show CAt (w2.alloc (.cells #[.slice a1 0 n1, .slice (some ⟨gd, od, none⟩) 1 n2] 27)) w2.heap.size 27 _ from heap_alloc_new w2 _)
 clear hw2
 go_wp2_with fail
 refine (HT2.out _).mono ?_
 rintro e w3 ⟨hb3, A3, c3, rfl, hl3⟩
 have HB3 := Lib.hid hb3
 have HP3 := Lib.hid (parse_any A3 c3 (toksP src2) (w := w3) hl3.lies (Nat.le_trans (toksP_len _) (by decide)))
 clear hb3 hl3 HT2
 go_wp2_with fail
 refine HP3.out.mono ?_
 rintro e w4 ⟨⟨q1, q2, qs, q3, q4, qf⟩, rfl, hd4, ho4, hb4⟩
 rw [par_src2]
 unfold PgM.cs
 dsimp only
 have HB4 := Lib.hid (HB3.out.trans (hb4.mono HB3.out.size))
 have hc4 := HC2.out.below HB4.out HC2.out.lt
 have g4 := hc4.lt
 have p1 := hc4.cell (j := 1) (by simp)
 simp only [List.getElem_cons_zero, List.getElem_cons_succ] at p1
 have HB24 := Lib.hid (HW2.out.trans (HB4.out.mono HW2.out.size))
 obtain ⟨hq1, hq2, ⟨k0, k1, k2, k3, k4, k5⟩, hq4, hq5⟩ := HQ.out
 obtain ⟨l1, l2, l3, l4⟩ := HN.out
 have hz := HB24.out.size
 replace hq1 := (HB24.out.cell (p := ⟨gd, od + 6, none⟩) l1).trans hq1
 replace hq2 := (HB24.out.cell (p := ⟨gb, ob + 8, none⟩) l2).trans hq2
 replace k0 := (HB24.out.cell (p := ⟨gk, ok, none⟩) l3).trans k0
 replace k1 := (HB24.out.cell (p := ⟨gk, ok + 1, none⟩) l3).trans k1
 replace k2 := (HB24.out.cell (p := ⟨gk, ok + 2, none⟩) l3).trans k2
 replace k3 := (HB24.out.cell (p := ⟨gk, ok + 3, none⟩) l3).trans k3
 replace k4 := (HB24.out.cell (p := ⟨gk, ok + 4, none⟩) l3).trans k4
 replace k5 := (HB24.out.cell (p := ⟨gk, ok + 5, none⟩) l3).trans k5
 replace hq4 := (HB24.out.cell (p := ⟨gx, ox + 4, none⟩) l4).trans hq4
 replace hq5 := (HB24.out.cell (p := ⟨gx, ox + 10, none⟩) l4).trans hq5
 have l1' : gd < w4.heap.size := by omega
 have l2' : gb < w4.heap.size := by omega
 have l3' : gk < w4.heap.size := by omega
 have l4' : gx < w4.heap.size := by omega
 have HBF := Lib.hid (show ∀ o1 o2 : Obj, Below w.heap.size w ((w4.alloc o1).alloc o2) from fun o1 o2 => HB2.out.trans ((HB24.out.mono HB2.out.size).trans ((below_al2 w4 o1 o2).mono (Nat.le_trans HB2.out.size hz))))
 clear hc4 hb4 ho4 hd4 HQ HN l1 l2 l3 l4 hz HP3 HC2
 go_wp2_with fail
 go_ret
 exact ⟨rfl, HBF.out _ _⟩
end Go.Proofs.Ytjllbacefbjjaaa

namespace Go.Proofs.Ytjllbacefbjjaaa
open Go.ChangeShapes Go.WideShapes Go.ChangeAt Go.RowKit Go.Deep

section
variable {H : Type} {enc : TypeId × Value → H} {P : Program} {W : World} {base : Nat}
end
end Go.Proofs.Ytjllbacefbjjaaa

namespace Go.Proofs.Ytjllbacefbjjaaa
open Go Go.RowKit

def TrueR12 (w : World) (e : Ending) (w' : World) : Prop := e = .returned (.bool true) ∧ Below w.heap.size w w'
theorem El.Lies.take {α : Type} {K : El α} {w : World} {B : Nat} {A : Option Addr} {l : List α} (h : K.Lies w B A l) (k : Nat) : K.Lies w B A (l.take k) := fun hl => by
 have h0 : 0 < l.length := by rw [List.length_take] at hl; omega
 obtain ⟨g, o, e, hg, hc⟩ := h h0
 refine ⟨g, o, e, hg, fun j hj f u hu => hc j (by rw [List.length_take] at hj; omega) f u ?_⟩
 rw [List.getElem_take] at hu
 exact hu
end Go.Proofs.Ytjllbacefbjjaaa

namespace Go.Proofs.Ytjllbacefbjjaaa
open Go Go.RowKit

structure JnW (W0 : World) (o1 : Option (Value × List ScM)) (o2 : Option (Value × List DcM)) (o3 : Option Nat) (W : World) : Prop where
 b : Below W0.heap.size W0 W
 r1 : ∀ v xs, o1 = some (v, xs) → eSc.Own W W0.heap.size v xs
 r2 : ∀ v xs, o2 = some (v, xs) → eDc.Own W W0.heap.size v xs
 r3 : ∀ g, o3 = some g → W0.heap.size ≤ g ∧ CAt W g 27 [.slice none 0 0, .slice none 0 0]
section
variable {W0 W Z : World} {o1 : Option (Value × List ScM)} {o2 : Option (Value × List DcM)} {o3 : Option Nat} {v v' : Value} {xs xs' : List ScM} {ys ys' : List DcM} {g : Nat}
theorem JnW.new (W0 : World) : JnW W0 none none none W0 := ⟨Below.refl _ _, fun _ _ e => (by cases e), fun _ _ e => (by cases e), fun _ e => (by cases e)⟩
theorem JnW.below (h : JnW W0 o1 o2 o3 W) (hb : Below W.heap.size W Z) : JnW W0 o1 o2 o3 Z :=
 ⟨h.b.trans (hb.mono h.b.size), fun v xs e => (h.r1 v xs e).below hb, fun v xs e => (h.r2 v xs e).below hb, fun g e => ⟨(h.r3 g e).1, (h.r3 g e).2.below hb (h.r3 g e).2.lt⟩⟩
theorem JnW.drew (h : JnW W0 o1 o2 o3 W) : JnW W0 o1 o2 o3 W.drew := h.below ((Below.refl _ W).drew)
theorem JnW.app1 (h : JnW W0 (some (v, xs)) o2 o3 W) (ho : eSc.Own Z W0.heap.size v' xs') (hg : W.grownBy Z v.ownBlock) : JnW W0 (some (v', xs')) o2 o3 Z := by
 have hown := h.r1 _ _ rfl
 have hb : ButT 69 W Z := ButT.grown hg hown.has
 exact ⟨El.below_grown h.b hg hown h.b.size, fun v xs e => by injection e with e; injection e with e1 e2; subst e1 e2; exact ho, fun v xs e => (h.r2 v xs e).but hb (by decide), fun g e => ⟨(h.r3 g e).1, (hb g _ ⟨_, _, (h.r3 g e).2⟩ (by decide)).trans (h.r3 g e).2⟩⟩
def JnE (W0 : World) (xs : List ScM) (ys : List DcM) (g : Nat) (W : World) : Prop :=
 Below W0.heap.size W0 W ∧ ∃ A c B d, CAt W g 27 [.slice A xs.length c, .slice B ys.length d] ∧ eSc.LiesT W A xs ∧ eDc.LiesT W B ys ∧ xs.length ≤ c ∧ (A = none → c = 0) ∧ ys.length ≤ d ∧ (B = none → d = 0) ∧ W0.heap.size ≤ g
theorem JnW.store {A B : Option Addr} {n c m d : Nat} (h : JnW W0 (some (.slice A n c, xs)) (some (.slice B m d, ys)) (some g) W) : JnE W0 xs ys g ((W.setCell ⟨g, 0, none⟩ (.slice A n c)).setCell ⟨g, 1, none⟩ (.slice B m d)) := by
 obtain ⟨hg, hc⟩ := h.r3 _ rfl
 have hb : ButT 27 W ((W.setCell ⟨g, 0, none⟩ (.slice A n c)).setCell ⟨g, 1, none⟩ (.slice B m d)) := (ButT.set (p := ⟨g, 0, none⟩) ⟨_, _, hc⟩ _).trans (ButT.set (p := ⟨g, 1, none⟩) ⟨_, _, hc.set 0 _⟩ _)
 have hB : Below W0.heap.size W ((W.setCell ⟨g, 0, none⟩ (.slice A n c)).setCell ⟨g, 1, none⟩ (.slice B m d)) := ((Below.refl _ W).setCell (p := ⟨g, 0, none⟩) hg _).setCell (p := ⟨g, 1, none⟩) hg _
 have o1 := (h.r1 _ _ rfl).but hb (by decide)
 have o2 := (h.r2 _ _ rfl).but hb (by decide)
 obtain ⟨A2, c2, e2, k1, k2, k3⟩ := o1.form
 injection e2 with e1 e2 e3
 obtain ⟨B2, d2, f2, q1, q2, q3⟩ := o2.form
 injection f2 with f1 f2 f3
 subst e1 e2 e3 f1 f2 f3
 exact ⟨h.b.trans hB, A, c, B, d, (hc.set 0 _).set 1 _, k3, q3, k1, k2, q1, q2, hg⟩
end
end Go.Proofs.Ytjllbacefbjjaaa

namespace Go.Proofs.Ytjllbacefbjjaaa
open Go Go.RowKit

theorem par_few (l : List To) (hl : l.length ≤ mostT) : (parP l).1.few := by
 rcases proP_cases l with ⟨u, h, _⟩ | ⟨x, h⟩
 · rw [parP_bad h]
   exact ⟨by simp, fun _ q => absurd q (by simp), fun _ q => absurd q (by simp)⟩
 · rw [parP_ok h]
   split
   · exact ⟨by simp, fun _ q => absurd q (by simp), fun _ q => absurd q (by simp)⟩
   · exact proP_few hl h
end Go.Proofs.Ytjllbacefbjjaaa

namespace Go.Proofs.Ytjllbacefbjjaaa
open Go Go.RowKit

end Go.Proofs.Ytjllbacefbjjaaa

namespace Go.Proofs.Ytjllbacefbjjaaa
open Go Go.RowKit

theorem scanP_few {s : List UInt8} {ts : List Tk} (h : scanP s = .ok ts) : ts.length ≤ s.length := by
 have h1 := (scan_all _ _ _ _ (Nat.le_refl _) h).2.2
 have h2 := sk_len false s
 omega
set_option maxRecDepth 100000 in
set_option maxHeartbeats 4000000 in
theorem sources_any (A : Option Addr) (c : Nat) (s : List UInt8) (w : World) (hls : Lies w w.heap.size A s) (hlc : s.length ≤ c) (hA : A = none → c = 0) :
 Calls Try.prog 4 #[.slice A s.length c] w (TrueR12 w) := by
 by_cases hbig : 8192 < s.length
 · have hbi : (8192 : Int) < (s.length : Int) := by omega
   go_enter Try.func4, Try.ntmps4
   go_wp2_with fail
   refine (works_any _).mono ?_
   rintro e w1 ⟨rfl, hb1⟩
   go_wp2_with fail
   go_ret
   exact ⟨rfl, hb1⟩
 have hbi : ¬ (8192 : Int) < (s.length : Int) := by omega
 have HSC := Lib.hid (refScan_any A c s w hls hlc hA (by omega))
 obtain ⟨ns, hns⟩ : ∃ n, s.length = n := ⟨_, rfl⟩
 rw [hns] at hbi HSC ⊢
 rw [hns] at hbig
 have HNS := Lib.hid hns
 clear hls hlc hA hns
 go_enter Try.func4, Try.ntmps4
 go_wp2_with fail
 refine HSC.out.mono ?_
 rintro e w5 ⟨hb5, h5⟩
 have HB5 := Lib.hid hb5
 rcases h5 with ⟨h, _⟩ | ⟨_, ⟨k, _, rfl⟩ | ⟨ts, v, hts, rfl, ho⟩⟩
 · rw [HNS.out] at h
   omega
 · clear hb5 HSC
   go_wp2_with fail
   refine (works_any _).mono ?_
   rintro e w1 ⟨rfl, hb1⟩
   go_wp2_with fail
   go_ret
   exact ⟨rfl, HB5.out.trans (hb1.mono HB5.out.size)⟩
 obtain ⟨A5, c5, rfl, _, _, ht5⟩ := ho.form
 have HT5 := Lib.hid (toTo_lies ht5)
 have hlen : ts.length ≤ s.length := scanP_few hts
 obtain ⟨a, ha⟩ : ∃ a, ts.map toTo = a := ⟨_, rfl⟩
 have hal : a.length = ts.length := by rw [← ha, List.length_map]
 rw [ha] at HT5
 obtain ⟨na, hna⟩ : ∃ n, ts.length = n := ⟨_, rfl⟩
 rw [HNS.out, hna] at hlen
 rw [hna] at hal ⊢
 have HNA := Lib.hid hal
 have HF := Lib.hid (par_few a (by simp [mostT]; omega))
 clear hb5 HSC ho ht5 hts ha hal hna
 have hp3 := parse_any A5 c5 a (HT5.out.lies) (by rw [HNA.out]; omega)
 rw [HNA.out] at hp3
 have HP3 := Lib.hid hp3
 clear hp3
 go_wp2_with fail
 refine HP3.out.mono ?_
 rintro e w7 ⟨⟨E1, e1, s3, E2, e2, f3⟩, rfl, hd3, ho3, hb3⟩
 have HD3 := Lib.hid hd3
 have hnew := below_lnew w7 (.cells #[.slice E1 s3.length e1, .slice E2 f3.length e2] 27)
 have HBX := Lib.hid (show Below w5.heap.size w5 (w7.alloc (.cells #[.slice E1 s3.length e1, .slice E2 f3.length e2] 27)) from hb3.trans (hnew.mono hb3.size))
 have HX3 := Lib.hid (show PgM.Ok (w7.alloc (.cells #[.slice E1 s3.length e1, .slice E2 f3.length e2] 27)) (fun _ => True) ⟨E1, e1, s3, E2, e2, f3⟩ from ho3.keep (fun g _ _ ht _ => (below_lnew w7 _).block g ht.lt) (fun _ _ => trivial))
 have HQ3 := Lib.hid (show CAt (w7.alloc (.cells #[.slice E1 s3.length e1, .slice E2 f3.length e2] 27)) w7.heap.size 27 [.slice E1 s3.length e1, .slice E2 f3.length e2] from heap_alloc_new w7 _)
 clear hd3 ho3 hb3 hnew HP3
 unfold PgM.cs
 dsimp only
 go_upto_region 7 with fail
 obtain ⟨g8, hg8⟩ : ∃ g, w7.heap.size = g := ⟨_, rfl⟩
 obtain ⟨w8, hw8⟩ : ∃ g, w7.alloc (.cells #[.slice E1 s3.length e1, .slice E2 f3.length e2] 27) = g := ⟨_, rfl⟩
 rw [hg8] at HQ3 ⊢
 rw [hw8] at HBX HX3 HQ3 ⊢
 clear hg8 hw8
 have hp4 := rparse_any A5 c5 a ((HT5.out.lies.below HBX.out).more HBX.out.size) (by rw [HNA.out]; omega)
 rw [HNA.out] at hp4
 have HP4 := Lib.hid hp4
 clear hp4
 go_wp2_with fail
 refine HP4.out.mono ?_
 rintro e w9 ⟨⟨F1, k1, s4, F2, k2, f4⟩, rfl, hd4, ho4, hb4⟩
 have HD4 := Lib.hid hd4
 have hnew := below_lnew w9 (.cells #[.slice F1 s4.length k1, .slice F2 f4.length k2] 27)
 have hb9 := hb4.trans (hnew.mono hb4.size)
 have HBY := Lib.hid (HBX.out.trans (hb9.mono HBX.out.size))
 have HX4 := Lib.hid (show PgM.Ok (w9.alloc (.cells #[.slice F1 s4.length k1, .slice F2 f4.length k2] 27)) (fun _ => True) ⟨F1, k1, s4, F2, k2, f4⟩ from ho4.keep (fun g _ _ ht _ => (below_lnew w9 _).block g ht.lt) (fun _ _ => trivial))
 have HX5 := Lib.hid (HX3.out.keep (Q := fun _ => True) (fun g _ _ ht _ => hb9.block g ht.lt) (fun _ _ => trivial))
 have HQ4 := Lib.hid (show CAt (w9.alloc (.cells #[.slice F1 s4.length k1, .slice F2 f4.length k2] 27)) w9.heap.size 27 [.slice F1 s4.length k1, .slice F2 f4.length k2] from heap_alloc_new w9 _)
 have HQ5 := Lib.hid (HQ3.out.below hb9 HQ3.out.lt)
 clear hd4 ho4 hb4 hnew HP4 hb9 HX3 HQ3 HBX
 unfold PgM.cs
 dsimp only
 go_upto_region 8 with fail
 obtain ⟨g9, hg9⟩ : ∃ g, w9.heap.size = g := ⟨_, rfl⟩
 obtain ⟨wA, hwA⟩ : ∃ g, w9.alloc (.cells #[.slice F1 s4.length k1, .slice F2 f4.length k2] 27) = g := ⟨_, rfl⟩
 rw [hg9] at HQ4 ⊢
 rw [hwA] at HBY HX4 HX5 HQ4 HQ5 ⊢
 clear hg9 hwA
 have c0 := HQ5.out.cell (j := 0) (by simp)
 have c1 := HQ5.out.cell (j := 1) (by simp)
 have d0 := HQ4.out.cell (j := 0) (by simp)
 have d1 := HQ4.out.cell (j := 1) (by simp)
 simp only [List.getElem_cons_zero, List.getElem_cons_succ] at c0 c1 d0 d1
 have HS := Lib.hid (same12_any _ _ ⟨E1, e1, s3, E2, e2, f3⟩ ⟨F1, k1, s4, F2, k2, f4⟩ wA HX5.out HX4.out (HD3.out.trans HD4.out.symm) (by rw [HD3.out]; exact HF.out))
 unfold PgM.cs at HS
 dsimp only at HS
 generalize (parP a).2.1 = at1 at *
 generalize (parP a).2.2 = er1 at *
 go_wp2_with fail
 refine HS.out.mono ?_
 rintro e wB ⟨rfl, hbB⟩
 have HBC := Lib.hid ((HB5.out.trans (HBY.out.mono HB5.out.size)).trans (hbB.mono (HB5.out.trans (HBY.out.mono HB5.out.size)).size))
 clear hbB c0 c1 d0 d1
 go_wp2_with fail
 refine (works_any _).mono ?_
 rintro e wD ⟨rfl, hbD⟩
 go_wp2_with fail
 go_ret
 exact ⟨rfl, HBC.out.trans (hbD.mono HBC.out.size)⟩
end Go.Proofs.Ytjllbacefbjjaaa
