/-
  Merged for a claim: S2G, S2H, S2I, S2J, GD, S2K.
-/
import Derived.Test.YtjllbacefbjjaaaZS2F
import Derived.Test.YtjllbacefbjjaaaZJ3
namespace Go.Proofs.Ytjllbacefbjjaaa
open Go Go.RowKit

theorem bnd_mem {k : Nat} (hk : k < 5) (tx : List UInt8) : tx ∈ lvK k ↔ bnd tx = k + 1 := by
 constructor
 · intro h
   match k, hk with
   | 0, _ => simp [lvK, lvT] at h; subst h; decide
   | 1, _ => simp [lvK, lvT] at h; subst h; decide
   | 2, _ => simp [lvK, lvT] at h; rcases h with rfl | rfl | rfl | rfl | rfl | rfl <;> decide
   | 3, _ => simp [lvK, lvT] at h; rcases h with rfl | rfl <;> decide
   | 4, _ => simp [lvK, lvT] at h; rcases h with rfl | rfl | rfl <;> decide
 · intro h
   unfold bnd at h
   split at h
   · rename_i e
     obtain rfl : k = 0 := by omega
     subst e
     decide
   split at h
   · rename_i e
     obtain rfl : k = 1 := by omega
     subst e
     decide
   split at h
   · rename_i e
     obtain rfl : k = 2 := by omega
     rcases e with rfl | rfl | rfl | rfl | rfl | rfl <;> decide
   split at h
   · rename_i e
     obtain rfl : k = 3 := by omega
     rcases e with rfl | rfl <;> decide
   split at h
   · rename_i e
     obtain rfl : k = 4 := by omega
     rcases e with rfl | rfl | rfl <;> decide
   · omega
theorem opT_bnd {k : Nat} (hk : k < 5) {v : List To} (h : opT k v ≠ []) : bndU v = k + 1 ∧ opT k v = (hd v).tx := by
 unfold opT at h ⊢
 split at h
 · rename_i q
   refine ⟨?_, if_pos q⟩
   unfold bndU
   rw [if_pos q.1, (bnd_mem hk _).1 q.2]
 · exact absurd rfl h
theorem opT_none {k : Nat} (hk : k < 5) {v : List To} (h : opT k v = []) : ¬ bndU v = k + 1 := by
 unfold opT at h
 unfold bndU
 split at h
 · rename_i q
   exact absurd h ((lvK_len k).2 _ q.2)
 · rename_i q
   split
   · rename_i q1
     exact fun e => q ⟨q1, (bnd_mem hk _).2 e⟩
   · omega
def lfR (w : World) (gp : Nat) (l : List To) : Nat := match w.cell? ⟨gp, 2, none⟩ with
 | some (.bool true) => 0
 | _ => match w.cell? ⟨gp, 1, none⟩ with
  | some (.int _ i) => l.length - i.toNat + 1
  | _ => 0
theorem Rp.lfR {w : World} {gp : Nat} {A : Option Addr} {c : Nat} {l u : List To} {fl : Bool} (h : Rp w gp A c l u fl) : lfR w gp l = if fl = true then 0 else u.length + 1 := by
 obtain ⟨k, hk, rfl, hc⟩ := h.k
 have p1 := hc.cell (j := 1) (by simp)
 have p2 := hc.cell (j := 2) (by simp)
 simp only [List.getElem_cons_zero, List.getElem_cons_succ] at p1 p2
 unfold Ytjllbacefbjjaaa.lfR
 rw [p1, p2]
 cases fl <;> simp
structure LoI (r : R Ex) (fl : Bool) (u : List To) (k j : Nat) (x : Ex) (v : List To) (f : Bool) : Prop where
 y : f = false → fl = false ∧ r = lop j k x v
 n : f = true → ∀ x', Ans fl u r x' v true
 s : fl = true → f = true
theorem LoI.new {n k : Nat} {fl f : Bool} {u v : List To} {x : Ex} (h : Ans fl u (lev n (k + 1) u) x v f) : LoI ((lev n (k + 1) u).bind fun x v => lop n k x v) fl u k n x v f := by
 generalize lev n (k + 1) u = q at *
 cases h with
 | fail => exact ⟨fun e => (by cases e), fun _ x' => .fail _ _ _, fun _ => rfl⟩
 | ok => exact ⟨fun _ => ⟨rfl, rfl⟩, fun e => (by cases e), fun e => (by cases e)⟩
 | bad => exact ⟨fun e => (by cases e), fun _ x' => .bad _ _ _, fun e => (by cases e)⟩
theorem LoI.go {r : R Ex} {fl f2 : Bool} {u v v2 : List To} {k j : Nat} {x y : Ex} (h : LoI r fl u k (j + 1) x v false) (hb : bndU v = k + 1) (ha : Ans false v.tail (lev j (k + 1) v.tail) y v2 f2) : LoI r fl u k j (eBin (hd v).tx x y) v2 f2 := by
 obtain ⟨rfl, hr⟩ := h.y rfl
 rw [lop, if_pos hb] at hr
 generalize lev j (k + 1) v.tail = q at *
 cases ha with
 | ok => exact ⟨fun _ => ⟨rfl, hr⟩, fun e => (by cases e), fun e => (by cases e)⟩
 | bad =>
  rw [R.bind_bad] at hr
  exact ⟨fun e => (by cases e), fun _ x' => by rw [hr]; exact .bad _ _ _, fun e => (by cases e)⟩
theorem LoI.end_ {r : R Ex} {fl f : Bool} {u v : List To} {k j : Nat} {x : Ex} (h : LoI r fl u k j x v f) (hb : f = false → ¬ bndU v = k + 1) (hj : f = false → j ≠ 0) : Ans fl u r x v f := by
 cases f with
 | true => exact h.n rfl x
 | false =>
  obtain ⟨rfl, hr⟩ := h.y rfl
  obtain ⟨j, rfl⟩ := Nat.exists_eq_succ_of_ne_zero (hj rfl)
  rw [Nat.succ_eq_add_one, lop, if_neg (hb rfl)] at hr
  rw [hr]
  exact .ok _ _ _
end Go.Proofs.Ytjllbacefbjjaaa

namespace Go.Proofs.Ytjllbacefbjjaaa
open Go Go.RowKit

structure EpH (gp : Nat) (A : Option Addr) (c : Nat) (l : List To) (fl : Bool) (k n : Nat) : Prop where
 p : k = 5 → ∀ (W : World) (v : List To) (f : Bool), (fl = true → f = true) → Rp W gp A c l v f → (f = false → prim n v ≠ .out) → Calls Try.prog 79 #[.pointer (some ⟨gp, 0, none⟩)] W (RX W gp A c l v f (prim n v))
 e : k < 5 → ∀ (W : World) (v : List To) (f : Bool) (m : Nat), m ≤ n → (fl = true → f = true) → Rp W gp A c l v f → (f = false → lev m (k + 1) v ≠ .out) → Calls Try.prog 74 #[.pointer (some ⟨gp, 0, none⟩), .int .i64 ((k : Int) + 1)] W (RX W gp A c l v f (lev m (k + 1) v))
theorem lev_5 {n : Nat} {u : List To} : lev (n + 1) 5 u = prim n u := by rw [lev, if_pos (by decide)]
theorem lev_k {n k : Nat} (hk : k < 5) {u : List To} : lev (n + 1) k u = (lev n (k + 1) u).bind fun x v => lop n k x v := by rw [lev, if_neg (by omega)]
section
variable {w : World} {gp : Nat} {A : Option Addr} {c : Nat} {l u : List To} {fl : Bool} {n k : Nat}
set_option maxRecDepth 100000 in
set_option maxHeartbeats 1000000 in
theorem rexp_five (HH : EpH gp A c l fl 5 n) (h : Rp w gp A c l u fl) (hne : fl = false → lev (n + 1) 5 u ≠ .out) :
 Calls Try.prog 74 #[.pointer (some ⟨gp, 0, none⟩), .int .i64 5] w (RX w gp A c l u fl (lev (n + 1) 5 u)) := by
 rw [lev_5] at hne ⊢
 have H0 := Lib.hid (Rw.new h 53 zE)
 obtain ⟨r, hr⟩ : ∃ r, prim n u = r := ⟨_, rfl⟩
 rw [hr]
 have HP := Lib.hid (fun (W : World) (q : Rp W gp A c l u fl) => HH.p rfl W u fl id q hne)
 rw [hr] at HP
 clear h hne hr HH
 go_enter Try.func74, Try.ntmps74
 go_wp2_with fail
 refine (levels_any _).mono ?_
 rintro e X ⟨g, rfl, hb, _⟩
 have K1 := Lib.hid (H0.out.below (hb.mono (Nat.le_refl _)))
 clear hb H0
 go_wp2_with fail
 refine (HP.out _ K1.out.p).mono ?_
 intro e Y hx
 obtain ⟨t, u2, g2, rfl, HA2, HT2, M2, _⟩ := K1.out.rx hx
 have M2 := Lib.hid M2
 clear hx K1 HP
 obtain ⟨r0, r1, r2, r3, r4, r5, rf0, rf1, rf2, rf3, rf4, rf5⟩ := zE_cells M2.out.z
 have l2 := M2.out.z.lt
 obtain ⟨kd, nu, nm, f, op, B, d, ks⟩ := t
 unfold xV XT.cs
 go_wp2_with fail
 exact rback_exp rfl rfl M2.out (XT.mk kd nu nm f op B d ks) HT2.out HA2.out
theorem loop_next {Z : World} {T : TypeId} {zs : List Value} {v : List To} {f : Bool} {b : Nat} (h : Rw w gp A c l T zs Z v f) (hb : w.heap.size < b) (x y : XT) (hc : CAt Z b 53 x.cs) (hx : x.Ok Z (fun g => w.heap.size < g ∧ g ≠ b)) (hy : y.Ok Z (fun g => w.heap.size < g ∧ g ≠ b)) (op : List UInt8) (arr1 arr2 : Array Value) (h2 : arr2 = ([x, y].flatMap XT.cs).toArray) :
 Rw w gp A c l T zs (((setE Z b (.mk 7 0 [] [] op (some ⟨Z.heap.size + 1, 0, none⟩) 2 [x, y])).alloc (.cells arr1 53)).alloc (.cells arr2 53)) v f ∧
 (XT.mk 7 0 [] [] op (some ⟨Z.heap.size + 1, 0, none⟩) 2 [x, y]).Ok (((setE Z b (.mk 7 0 [] [] op (some ⟨Z.heap.size + 1, 0, none⟩) 2 [x, y])).alloc (.cells arr1 53)).alloc (.cells arr2 53)) (fun g => w.heap.size < g ∧ g ≠ b) ∧
 CAt (((setE Z b (.mk 7 0 [] [] op (some ⟨Z.heap.size + 1, 0, none⟩) 2 [x, y])).alloc (.cells arr1 53)).alloc (.cells arr2 53)) b 53 (XT.mk 7 0 [] [] op (some ⟨Z.heap.size + 1, 0, none⟩) 2 [x, y]).cs := by
 subst h2
 have hbl : b < Z.heap.size := CAt.lt hc
 obtain ⟨t, ht⟩ : ∃ t, XT.mk 7 0 [] [] op (some ⟨Z.heap.size + 1, 0, none⟩) 2 [x, y] = t := ⟨_, rfl⟩
 rw [ht]
 have hB : Below (w.heap.size + 1) Z (setE Z b t) := setE_below t (by omega)
 have hs := setE_size Z b t
 have R1 : Rw w gp A c l T zs (setE Z b t) v f := ⟨h.p.below hB (by have := h.n; omega), h.z.below hB (by omega), grown_new h.g (hB.mono (by omega)), h.n⟩
 have C1 : CAt (setE Z b t) b 53 t.cs := by
  cases x
  exact setE_at t hc
 have X1 : x.Ok (setE Z b t) (fun g => w.heap.size < g ∧ g ≠ b) := XT.Ok.keep (fun g hg _ => setE_heap t hg.2) (fun _ q => q) x hx
 have Y1 : y.Ok (setE Z b t) (fun g => w.heap.size < g ∧ g ≠ b) := XT.Ok.keep (fun g hg _ => setE_heap t hg.2) (fun _ q => q) y hy
 obtain ⟨Z1, h1⟩ : ∃ Z1, setE Z b t = Z1 := ⟨_, rfl⟩
 rw [h1] at hs R1 C1 X1 Y1 ⊢
 have b2 := below_lnew Z1 (.cells arr1 53)
 have s2 : (Z1.alloc (.cells arr1 53)).heap.size = Z.heap.size + 1 := by rw [World.size_alloc, hs]
 obtain ⟨Z2, h2⟩ : ∃ Z2, Z1.alloc (.cells arr1 53) = Z2 := ⟨_, rfl⟩
 rw [h2] at b2 s2 ⊢
 have b3 := below_lnew Z2 (.cells ([x, y].flatMap XT.cs).toArray 53)
 have hm := many_ok (W := Z2) (P := fun g => w.heap.size < g ∧ g ≠ b) [x, y] ⟨X1.below b2, Y1.below b2, trivial⟩ ⟨by omega, by omega⟩ 7 0 [] [] op
 rw [s2] at hm
 refine ⟨(R1.below b2).below b3, ?_, CAt.below (CAt.below C1 b2 (CAt.lt C1)) b3 (by have := CAt.lt C1; omega)⟩
 rw [← ht]
 exact hm
set_option maxRecDepth 100000 in
set_option maxHeartbeats 1000000 in
theorem rexp_less (hk : k < 5) (HH : EpH gp A c l fl k n) (h : Rp w gp A c l u fl) (hne : fl = false → lev (n + 1) k u ≠ .out) :
 Calls Try.prog 74 #[.pointer (some ⟨gp, 0, none⟩), .int .i64 k] w (RX w gp A c l u fl (lev (n + 1) k u)) := by
 rw [lev_k hk] at hne ⊢
 have H0 := Lib.hid (Rw.new h 53 zE)
 obtain ⟨r, hr⟩ : ∃ r, ((lev n (k + 1) u).bind fun x v => lop n k x v) = r := ⟨_, rfl⟩
 rw [hr]
 have HNE := Lib.hid (show fl = false → r ≠ .out by rw [← hr]; exact hne)
 have HR := Lib.hid hr
 have HP := Lib.hid (fun (W : World) (q : Rp W gp A c l u fl) => HH.e hk W u fl n (Nat.le_refl _) id q (fun q => R.bind_ne (hne q)))
 have HHH := Lib.hid HH
 have hkk : (k : Int) < 5 := by omega
 clear h hne hr HH
 go_enter Try.func74, Try.ntmps74
 go_wp2_with fail
 refine (levels_any _).mono ?_
 rintro e X ⟨g, rfl, hb, _⟩
 have K1 := Lib.hid (H0.out.below (hb.mono (Nat.le_refl _)))
 clear hb H0
 go_wp2_with fail
 refine (HP.out _ K1.out.p).mono ?_
 intro e Y hx
 obtain ⟨t, u2, g2, rfl, HA2, HT2, M2, _⟩ := K1.out.rx hx
 have M2 := Lib.hid M2
 have HL := Lib.hid (show LoI r fl u k n t.d u2 g2 by rw [← HR.out]; exact LoI.new HA2.out)
 clear hx K1 HP HA2
 obtain ⟨kd, nu, nm, f, op, B, d, ks⟩ := t
 obtain ⟨L1, L2, L3⟩ := M2.out.loc (.mk kd nu nm f op B d ks) ((XT.Ok.low _ HT2.out).up (Q := fun g => w.heap.size < g ∧ g ≠ Y.heap.size) fun _ q => ⟨q.1, by omega⟩) #[.int .u8 kd, .int .i64 nu, .string (str nm), .string (str f), .string (str op), .slice B ks.length d] rfl
 have L1 := Lib.hid L1
 have L2 := Lib.hid L2
 have L3 := Lib.hid L3
 have hbig : w.heap.size < Y.heap.size := M2.out.z.lt
 unfold xV XT.cs
 go_wp2_with fail
 go_loopw [] (fun wr => ∃ (t : XT) (v : List To) (f : Bool) (j : Nat), j ≤ n ∧ Hid (Rw w gp A c l 53 zE wr v f) ∧ Hid (t.Ok wr (fun g => w.heap.size < g ∧ g ≠ Y.heap.size)) ∧ Hid (CAt wr Y.heap.size 53 t.cs) ∧ Hid (LoI r fl u k j t.d v f)) (fun wr => lfR wr gp l)
 case atStart => exact ⟨.mk kd nu nm f op B d ks, u2, g2, n, Nat.le_refl _, L1, L2, L3, HL⟩
 case round =>
  clear L1 L2 L3 HL M2 HT2
  obtain ⟨t, v, f, j, hj, K, HT, HC, HL⟩ := hrel
  go_wp2_with fail
  refine (rop_any K.out.p k hk).mono ?_
  rintro e X2 ⟨rfl, hb2⟩
  have K2 := Lib.hid (K.out.below hb2)
  have HT2 := Lib.hid (HT.out.below hb2)
  have hc2 := CAt.below HC.out hb2 (CAt.lt HC.out)
  have HC2 := Lib.hid hc2
  have l5 : Y.heap.size < X2.heap.size := CAt.lt hc2
  have HME := Lib.hid K.out.p.lfR
  clear K HT HC hb2
  obtain ⟨a0, a1, a2, a3, a4, A5, a6, xs⟩ := t
  obtain ⟨s, hs⟩ : ∃ s, (if f = true then [] else opT k v) = s := ⟨_, rfl⟩
  rw [hs]
  have HS := Lib.hid hs
  have e1 : (str s).toList.isEmpty = decide (s = []) := by rw [str_toList]; cases s <;> rfl
  clear hs
  by_cases hs0 : s = []
  · rw [decide_eq_true hs0] at e1
    have HS0 := Lib.hid hs0
    obtain ⟨r0, r1, r2, r3, r4, r5, rf0, rf1, rf2, rf3, rf4, rf5⟩ := zE_cells K2.out.z
    have l2 := K2.out.z.lt
    have c0 := hc2.cell (j := 0) (by simp [XT.cs])
    have c1 := hc2.cell (j := 1) (by simp [XT.cs])
    have c2 := hc2.cell (j := 2) (by simp [XT.cs])
    have c3 := hc2.cell (j := 3) (by simp [XT.cs])
    have c4 := hc2.cell (j := 4) (by simp [XT.cs])
    have c5 := hc2.cell (j := 5) (by simp [XT.cs])
    have cf0 := hc2.frozen 0
    have cf1 := hc2.frozen 1
    have cf2 := hc2.frozen 2
    have cf3 := hc2.frozen 3
    have cf4 := hc2.frozen 4
    have cf5 := hc2.frozen 5
    simp only [XT.cs, List.getElem_cons_zero, List.getElem_cons_succ] at c0 c1 c2 c3 c4 c5
    clear hc2
    have HE := Lib.hid (HL.out.end_ (fun q => opT_none hk (by have e2 := HS.out; rw [if_neg (by rw [q]; decide)] at e2; rw [e2]; exact HS0.out)) (fun q e => by
     obtain ⟨hfl, hr⟩ := HL.out.y q
     refine HNE.out hfl ?_
     rw [hr, e, lop]))
    clear hs0
    go_wp2_with fail
    exact rback_exp rfl rfl K2.out (.mk a0 a1 a2 a3 a4 A5 a6 xs) (HT2.out.up fun _ q => q.1) HE.out
  · rw [decide_eq_false hs0] at e1
    have hf : f = false := by
     have e2 := HS.out
     cases f
     · rfl
     · rw [if_pos rfl] at e2
       exact absurd e2.symm hs0
    subst hf
    have hop : opT k v = s := by
     have e2 := HS.out
     rwa [if_neg (by decide)] at e2
    obtain ⟨hbn, htx⟩ := opT_bnd hk (v := v) (by rw [hop]; exact hs0)
    rw [hop] at htx
    obtain ⟨hfl, hr⟩ := HL.out.y rfl
    have hj0 : j ≠ 0 := fun e => HNE.out hfl (by rw [hr, e, lop])
    obtain ⟨j, rfl⟩ := Nat.exists_eq_succ_of_ne_zero hj0
    rw [Nat.succ_eq_add_one] at hr HL
    have HLV := Lib.hid (show lev j (k + 1) v.tail ≠ .out from fun q => HNE.out hfl (by rw [hr, lop, if_pos hbn, q]; rfl))
    have HBN := Lib.hid hbn
    have HTX := Lib.hid htx
    obtain ⟨kk, hkk2, p1, f1, l1, l2, l3, l4, HI⟩ := K2.out.at_
    have K3 := Lib.hid (HI.out (bndU_ne hbn))
    have HT3 := Lib.hid (HT2.out.grown K2.out.p (grown_set X2 gp 1 (.int .i64 ((kk : Int) + 1))))
    have HC3 := Lib.hid (loc_keep HC2.out K2.out.p (grown_set X2 gp 1 (.int .i64 ((kk : Int) + 1))))
    clear hc2 HI hr hbn htx hop HT2 HC2 K2 hfl hj0 hs0
    go_wp2_with fail
    refine (HHH.out.e hk _ _ _ j (by omega) HL.out.s K3.out.p (fun _ => HLV.out)).mono ?_
    intro e Z hx
    obtain ⟨t3, v3, f3, rfl, ha3, ho3, hp4, hg4⟩ := hx
    have HA3 := Lib.hid ha3
    have K4 := Lib.hid (K3.out.step hp4 hg4)
    have hyb : Y.heap.size < (X2.setCell ⟨gp, 1, none⟩ (.int .i64 ((kk : Int) + 1))).heap.size := CAt.lt HC3.out
    have HT4 := Lib.hid (ho3.up (Q := fun g => w.heap.size < g ∧ g ≠ Y.heap.size) fun g q => ⟨by omega, by omega⟩)
    have HX4 := Lib.hid (HT3.out.grown K3.out.p hg4)
    have hc4 := loc_keep HC3.out K3.out.p hg4
    have HC4 := Lib.hid hc4
    have l6 : Y.heap.size < Z.heap.size := CAt.lt hc4
    obtain ⟨b0, b1, b2, b3, b4, B5, b6, ys⟩ := t3
    clear ha3 ho3 hp4 hyb hg4 p1 f1 l1 l2 HC3 HT3 l5
    have c0 := hc4.cell (j := 0) (by simp [XT.cs])
    have c1 := hc4.cell (j := 1) (by simp [XT.cs])
    have c2 := hc4.cell (j := 2) (by simp [XT.cs])
    have c3 := hc4.cell (j := 3) (by simp [XT.cs])
    have c4 := hc4.cell (j := 4) (by simp [XT.cs])
    have c5 := hc4.cell (j := 5) (by simp [XT.cs])
    have cf0 := hc4.frozen 0
    have cf1 := hc4.frozen 1
    have cf2 := hc4.frozen 2
    have cf3 := hc4.frozen 3
    have cf4 := hc4.frozen 4
    have cf5 := hc4.frozen 5
    simp only [XT.cs, List.getElem_cons_zero, List.getElem_cons_succ] at c0 c1 c2 c3 c4 c5
    clear hc4
    obtain ⟨R1, R2, R3⟩ := loop_next K4.out hbig (.mk a0 a1 a2 a3 a4 A5 a6 xs) (.mk b0 b1 b2 b3 b4 B5 b6 ys) HC4.out HX4.out HT4.out s #[.int .u8 b0, .int .i64 b1, .string (str b2), .string (str b3), .string (str b4), .slice B5 ys.length b6] #[.int .u8 a0, .int .i64 a1, .string (str a2), .string (str a3), .string (str a4), .slice A5 xs.length a6, .int .u8 b0, .int .i64 b1, .string (str b2), .string (str b3), .string (str b4), .slice B5 ys.length b6] rfl
    have hl := R1.p.lfR
    have HR1 := Lib.hid R1
    have HR2 := Lib.hid R2
    have HR3 := Lib.hid R3
    have HLL := Lib.hid hl
    have HN := Lib.hid (show LoI r fl u k j (XT.mk 7 0 [] [] s (some ⟨Z.heap.size + 1, 0, none⟩) 2 [.mk a0 a1 a2 a3 a4 A5 a6 xs, .mk b0 b1 b2 b3 b4 B5 b6 ys]).d v3 f3 by
     rw [XT.d, xsd, xsd, xsd, HTX.out]
     exact HL.out.go HBN.out HA3.out)
    have HLE := Lib.hid (show (if f3 = true then 0 else v3.length + 1) < v.length + 1 by
     cases f3 with
     | true => rw [if_pos rfl]; omega
     | false =>
      rw [if_neg (by decide)]
      have ha := HA3.out
      have he := ((enough j).2.1 (k + 1) v.tail).2
      have ht := tail_len (bndU_ne HBN.out)
      generalize lev j (k + 1) v.tail = q at *
      cases ha
      have := he _ _ rfl
      omega)
    clear R1 R2 R3 hl HA3 HL
    unfold xV XT.cs
    go_wp2_with fail
    refine ⟨⟨_, v3, f3, j, by omega, HR1, HR2, HR3, HN⟩, ?_⟩
    have e2 := HLL.out
    have e3 := HME.out
    rw [if_neg (by decide)] at e3
    rw [e3]
    exact Nat.lt_of_le_of_lt (Nat.le_of_eq e2) HLE.out
end
end Go.Proofs.Ytjllbacefbjjaaa

namespace Go.Proofs.Ytjllbacefbjjaaa
open Go Go.RowKit

section
variable {gp : Nat} {A : Option Addr} {c : Nat} {l : List To}
theorem RX.any {W w' : World} {v : List To} {r : R Ex} {e : Ending} (r' : R Ex) (h : RX W gp A c l v true r e w') : RX W gp A c l v true r' e w' := by
 obtain ⟨t, u', f', he, ha, ho, hp, hg⟩ := h
 cases ha
 exact ⟨t, v, true, he, .fail _ _ _, ho, hp, hg⟩
theorem prH_zero : PrH gp A c l 0 := ⟨fun W v _ h => absurd (by rw [prim]) h, fun W v _ h => absurd (by rw [lev]) h⟩
theorem prim_fail (W : World) (v : List To) (r : R Ex) (h : Rp W gp A c l v true) : Calls Try.prog 79 #[.pointer (some ⟨gp, 0, none⟩)] W (RX W gp A c l v true r) :=
 (rprim_step prH_zero h (fun e => (by cases e))).mono fun _ _ q => q.any r
theorem exp_fail : ∀ (d k : Nat), k + d = 5 → ∀ (W : World) (v : List To) (r : R Ex), Rp W gp A c l v true → Calls Try.prog 74 #[.pointer (some ⟨gp, 0, none⟩), .int .i64 k] W (RX W gp A c l v true r)
 | 0, k, hd, W, v, r, h => by
  obtain rfl : k = 5 := by omega
  refine (rexp_five (fl := true) (n := 0) ⟨fun _ W v f hf q _ => ?_, fun h => absurd h (by omega)⟩ h (fun e => (by cases e))).mono fun _ _ q => q.any r
  obtain rfl := hf rfl
  exact prim_fail W v _ q
 | d + 1, k, hd, W, v, r, h => by
  have ih := exp_fail d (k + 1) (by omega)
  refine (rexp_less (fl := true) (n := 0) (by omega) ⟨fun h => absurd h (by omega), fun _ W v f m _ hf q _ => ?_⟩ h (fun e => (by cases e))).mono fun _ _ q => q.any r
  obtain rfl := hf rfl
  have := ih W v (lev m (k + 1) v) q
  rwa [show ((k + 1 : Nat) : Int) = (k : Int) + 1 from rfl] at this
theorem ref_exp : ∀ n : Nat, (∀ (W : World) (v : List To) (f : Bool), Rp W gp A c l v f → (f = false → prim n v ≠ .out) → Calls Try.prog 79 #[.pointer (some ⟨gp, 0, none⟩)] W (RX W gp A c l v f (prim n v))) ∧
 (∀ k : Nat, k ≤ 5 → ∀ (W : World) (v : List To) (f : Bool), Rp W gp A c l v f → (f = false → lev n k v ≠ .out) → Calls Try.prog 74 #[.pointer (some ⟨gp, 0, none⟩), .int .i64 k] W (RX W gp A c l v f (lev n k v))) := by
 intro n
 induction n using Nat.strongRecOn with
 | _ n ih =>
  cases n with
  | zero =>
   refine ⟨fun W v f h hn => ?_, fun k hk W v f h hn => ?_⟩
   · cases f with
     | true => exact prim_fail W v _ h
     | false => exact absurd (by rw [prim]) (hn rfl)
   · cases f with
     | true => exact exp_fail (5 - k) k (by omega) W v _ h
     | false => exact absurd (by rw [lev]) (hn rfl)
  | succ m =>
   have im := ih m (by omega)
   refine ⟨fun W v f h hn => rprim_step ⟨fun W v q r => im.1 W v false q (fun _ => r), fun W v q r => im.2 0 (by omega) W v false q (fun _ => r)⟩ h hn, fun k hk W v f h hn => ?_⟩
   by_cases h5 : k = 5
   · subst h5
     exact rexp_five ⟨fun _ W v f _ q r => im.1 W v f q r, fun h => absurd h (by omega)⟩ h hn
   · refine rexp_less (by omega) ⟨fun h => absurd h h5, fun hk W v f j hj _ q r => ?_⟩ h hn
     have := (ih j (by omega)).2 (k + 1) (by omega) W v f q r
     rwa [show ((k + 1 : Nat) : Int) = (k : Int) + 1 from rfl] at this
theorem rexp_any {w : World} {u : List To} {fl : Bool} (h : Rp w gp A c l u fl) : Calls Try.prog 74 #[.pointer (some ⟨gp, 0, none⟩), .int .i64 0] w (RX w gp A c l u fl (exP u)) :=
 (ref_exp _).2 0 (by omega) w u fl h (fun _ => exP_ne u)
end
end Go.Proofs.Ytjllbacefbjjaaa

namespace Go.Proofs.Ytjllbacefbjjaaa
open Go Go.RowKit

def argR (u : List To) : R (List Ex) := (sgR 4 [40] u).bind fun _ v => argP v
structure CoI (r : R (List Ex)) (fl : Bool) (u : List To) (xs : List Ex) (v : List To) (f : Bool) (n : Nat) : Prop where
 y : f = false → fl = false ∧ v.length ≤ n ∧ r = if isS [44] v = true then (comP exP n v.tail).bind fun l w => .ok (xs ++ l) w else (sgR 4 [41] v).bind fun _ w => .ok xs w
 n : f = true → ∀ ys, Ans fl u r ys v true
theorem comP_one (n : Nat) (u : List To) : comP exP (n + 1) u = (exP u).bind fun x v => if isS [44] v = true then (comP exP n v.tail).bind fun l w => .ok (x :: l) w else (sgR 4 [41] v).bind fun _ w => .ok [x] w := by
 rw [comP]
 simp only [sgS_bind]
theorem CoI.new {fl f : Bool} {u v : List To} {x : Ex} {n : Nat} (hn : u.length ≤ n + 1) (h : Ans fl u (exP u) x v f) : CoI (comP exP (n + 1) u) fl u [x] v f n := by
 rw [comP_one]
 have hl := fun q => exP_len (u := u) (v := v) (x := x) q
 generalize exP u = q at *
 cases h with
 | fail => exact ⟨fun e => (by cases e), fun _ ys => .fail _ _ _⟩
 | ok =>
  have := hl rfl
  exact ⟨fun _ => ⟨rfl, by omega, rfl⟩, fun e => (by cases e)⟩
 | bad => exact ⟨fun e => (by cases e), fun _ ys => .bad _ _ _⟩
theorem CoI.go {r : R (List Ex)} {fl f2 : Bool} {u v v2 : List To} {xs : List Ex} {y : Ex} {n : Nat} (h : CoI r fl u xs v false (n + 1)) (hc : isS [44] v = true) (ha : Ans false v.tail (exP v.tail) y v2 f2) : CoI r fl u (xs ++ [y]) v2 f2 n := by
 obtain ⟨rfl, hv, hr⟩ := h.y rfl
 rw [if_pos hc, comP_one] at hr
 have ht := tail_len (isS_ne hc)
 have hl := fun q => exP_len (u := v.tail) (v := v2) (x := y) q
 generalize exP v.tail = q at *
 cases ha with
 | ok =>
  have := hl rfl
  refine ⟨fun _ => ⟨rfl, by omega, ?_⟩, fun e => (by cases e)⟩
  rw [hr, R.bind_ok]
  split
  · rw [R.bind_assoc]
    congr 1
    funext l w
    rw [R.bind_ok, List.append_assoc]
    rfl
  · rw [R.bind_assoc]
    congr 1
 | bad =>
  rw [R.bind_bad, R.bind_bad] at hr
  exact ⟨fun e => (by cases e), fun _ ys => by rw [hr]; exact .bad _ _ _⟩
theorem CoI.end_ {r : R (List Ex)} {fl f f2 : Bool} {u v v2 : List To} {xs : List Ex} {n : Nat} (h : CoI r fl u xs v f n) (hc : f = false → ¬ isS [44] v = true) (ha : Ans f v (sgR 4 [41] v) () v2 f2) : Ans fl u r xs v2 f2 := by
 cases f with
 | true =>
  cases ha
  exact h.n rfl xs
 | false =>
  obtain ⟨rfl, hv, hr⟩ := h.y rfl
  rw [if_neg (hc rfl)] at hr
  rw [hr]
  exact (Ans.end_ ha fun _ => xs).re
end Go.Proofs.Ytjllbacefbjjaaa

namespace Go.Proofs.Ytjllbacefbjjaaa
open Go.ChangeShapes Go.WideShapes Go.ChangeAt Go.RowKit Go.Deep

namespace El
variable {α : Type} {ops : Array Oper} {rest : List Oper} {o : Oper} {a : Act} {Q : Exit → Act → World → Prop} {C : Act → World → Prop}
theorem op_app1x (K : El α) (w : World) (sl : TypeId) (z : Value) (by_ : Nat) (hu : Try.prog.underlying sl = some (.slice K.e)) (hi : (Try.prog.info? K.e).map (fun i => (i.zero, i.size, i.bytes)) = some (some z, K.sz, by_)) (hzc : z.cells.size = K.sz) (hby : by_ ≤ 300) (_hsz : K.sz ≤ 100)
 (s x : Operand) (ho : o.op = .call { callee := .builtin .append, args := #[s, x], argTypes := #[sl, sl] })
 (B : Nat) (v : Value) (xs : List α) (hs : a.eval s = v) (hown : K.Own w B v xs) (g c : Nat) (y : α) (hx : a.eval x = .slice (some ⟨g, 0, none⟩) 1 c) (t : TypeId) (hy : w.heap[g]? = some (.cells (K.f y).toArray t (0, 0)))
 (hn : xs.length ≤ 1000000) (hB : B ≤ w.heap.size) (h : ∀ v' w', K.Own w' B v' (xs ++ [y]) → w.grownBy w' v.ownBlock → (∀ k, v'.ownBlock = some k → v.ownBlock = some k ∨ w.heap.size ≤ k) → C (a.put o.dst v') w') : Oper.wp Try.prog o a w C Q := by
 obtain ⟨i0, hi0, hz0, hz1, hz2⟩ := info_parts hi
 have hbb : (xs.length + 1) * by_ ≤ 140737488355328 := by
  have := Nat.mul_le_mul (show xs.length + 1 ≤ 1000001 by omega) hby
  omega
 have hnew : ∀ j u, (K.f y)[j]? = some u → w.cell? ((⟨g, 0, none⟩ : Addr).add j) = some u := fun j u hu => by
  rw [add_zero_off]
  simp only [World.cell?, hy]
  simpa using hu
 have hl : (K.f y).length = 1 * K.sz := by rw [K.len, Nat.one_mul]
 have hone : ∀ u ∈ K.f y, u.oneCell' = true := K.one y
 have h63 : xs.length + 1 ≤ maxLen := by simp only [maxLen]; omega
 obtain ⟨v', w', hrun, r1, r2, _⟩ := run_append_own (P := Try.prog) w B sl o.type K.e i0 z K.sz by_ hu hi0 hz0 hz1 hz2 hzc K.pos v xs.length (xs.flatMap K.f) hown ⟨g, 0, none⟩ 1 c (K.f y) hl hnew hone h63 hbb hB
 have hk : ∀ k, v'.ownBlock = some k → v.ownBlock = some k ∨ w.heap.size ≤ k := by
  rcases hown.2 with ⟨e, h0⟩ | ⟨gr, cap, cur, e, hbg, hg, hnc, hcm, hcs, _⟩
  · subst e
    have hr := run_append_nil (P := Try.prog) w sl o.type K.e i0 z hu hi0 hz0 ⟨g, 0, none⟩ 1 c (K.f y) (by rw [hl, hz1]) hnew (by omega) (by omega) (by rw [hz2]; omega)
    rw [hrun] at hr
    injection hr with e1 _
    subst e1
    intro k e
    injection e with e
    exact .inr (Nat.le_of_eq e)
  · subst e
    by_cases hroom : xs.length + 1 ≤ cap
    · have hfit : xs.length * i0.size + (K.f y).length ≤ cur.size := by rw [hl, hz1, hcs, ← Nat.add_mul]; exact Nat.mul_le_mul_right _ hroom
      have hr := run_append_room (P := Try.prog) w sl o.type K.e i0 hu hi0 gr xs.length cap cur hg ⟨g, 0, none⟩ 1 c (K.f y) (by rw [hl, hz1]) hnew hone hroom hfit
      rw [hrun] at hr
      injection hr with e1 _
      subst e1
      exact fun k e => .inl e
    · have holds : ∀ j u, (xs.flatMap K.f)[j]? = some u → w.cell? ((⟨gr, 0, none⟩ : Addr).add j) = some u := World.ownsRow.cells hown (g := gr) rfl
      have hr := run_append_grow (P := Try.prog) w sl o.type K.e i0 z hu hi0 hz0 ⟨gr, 0, none⟩ xs.length cap (xs.flatMap K.f) (by rw [flat_len, hz1]) holds ⟨g, 0, none⟩ 1 c (K.f y) (by rw [hl, hz1]) hnew (by omega) (by omega) (growslice_fits (by omega) (by rw [hz2]; omega))
      rw [hrun] at hr
      injection hr with e1 _
      subst e1
      intro k e
      injection e with e
      exact .inr (Nat.le_of_eq e)
 unfold Oper.wp execOp
 simp only [ho, resolve, invoke, builtin, Sem.run_bind, Sem.run_pure, Result.andThen_ok, List.map_toArray, List.map_cons, List.map_nil, hs, hx, hrun]
 refine h v' w' ?_ r2 hk
 show w'.ownsRow B _ K.sz v' (xs ++ [y]).length ((xs ++ [y]).flatMap K.f)
 rw [List.flatMap_append, List.length_append]
 simpa using r1
theorem app1x (K : El α) (w : World) (hgd : o.guard = none) (sl : TypeId) (z : Value) (by_ : Nat) (hu : Try.prog.underlying sl = some (.slice K.e)) (hi : (Try.prog.info? K.e).map (fun i => (i.zero, i.size, i.bytes)) = some (some z, K.sz, by_)) (hzc : z.cells.size = K.sz) (hby : by_ ≤ 300) (hsz : K.sz ≤ 100)
 (s x : Operand) (ho : o.op = .call { callee := .builtin .append, args := #[s, x], argTypes := #[sl, sl] })
 (B : Nat) (v : Value) (xs : List α) (hs : a.eval s = v) (hown : K.Own w B v xs) (g c : Nat) (y : α) (hx : a.eval x = .slice (some ⟨g, 0, none⟩) 1 c) (t : TypeId) (hy : w.heap[g]? = some (.cells (K.f y).toArray t (0, 0)))
 (hn : xs.length ≤ 1000000) (hB : B ≤ w.heap.size) (h : ∀ v' w', K.Own w' B v' (xs ++ [y]) → w.grownBy w' v.ownBlock → (∀ k, v'.ownBlock = some k → v.ownBlock = some k ∨ w.heap.size ≤ k) → wpList Try.prog ops Q rest (a.put o.dst v') w') : wpList Try.prog ops Q (o :: rest) a w :=
 wpList_plain hgd fun _ hK' => op_app1x K w sl z by_ hu hi hzc hby hsz s x ho B v xs hs hown g c y hx t hy hn hB (fun v' w' r1 r2 r3 => hK' _ _ (h v' w' r1 r2 r3))
end El
end Go.Proofs.Ytjllbacefbjjaaa

namespace Go.Proofs.Ytjllbacefbjjaaa
open Go Go.RowKit

structure Ar (w : World) (gp : Nat) (A : Option Addr) (c : Nat) (l : List To) (v : Value) (xs : List XT) (W : World) (u : List To) (fl : Bool) : Prop where
 p : Rp W gp A c l u fl
 r : eX.Own W w.heap.size v xs
 k : xsOk W (fun g => w.heap.size ≤ g ∧ v.ownBlock ≠ some g) xs
 g : w.grownBy W (some gp)
 n : gp < w.heap.size
def RA (w : World) (gp : Nat) (A : Option Addr) (c : Nat) (l u : List To) (fl : Bool) (r : R (List Ex)) (e : Ending) (w' : World) : Prop :=
 ∃ (xs : List XT) (v : Value) (u' : List To) (f' : Bool), e = .returned v ∧ Ans fl u r (xsd xs) u' f' ∧ Ar w gp A c l v xs w' u' f'
theorem xsOk.append {W : World} {P : Nat → Prop} : ∀ {xs ys : List XT}, xsOk W P xs → xsOk W P ys → xsOk W P (xs ++ ys)
 | [], _, _, h => h
 | x :: xs, ys, h, h2 => by
  rw [xsOk] at h
  rw [List.cons_append, xsOk]
  exact ⟨h.1, xsOk.append h.2 h2⟩
theorem own_one (W : World) (B : Nat) (hB : B ≤ W.heap.size) (t : XT) (arr : Array Value) (ha : arr = t.cs.toArray) : eX.Own (W.alloc (.cells arr 53)) B (.slice (some ⟨W.heap.size, 0, none⟩) 1 1) [t] := by
 subst ha
 have hl : t.cs.length = 6 := eX.len t
 refine ⟨by simp [eX, hl], .inr ⟨W.heap.size, 1, _, rfl, hB, heap_alloc_new W _, Nat.le_refl _, by simp [maxLen], by simpa [eX] using hl, ?_⟩⟩
 simp [eX, ← hl]
section
variable {w W Z : World} {gp : Nat} {A : Option Addr} {c : Nat} {l u u' : List To} {fl f' : Bool} {v v9 : Value} {xs : List XT} {x : XT}
theorem Ar.below (h : Ar w gp A c l v xs W u fl) (hb : Below W.heap.size W Z) : Ar w gp A c l v xs Z u fl :=
 ⟨h.p.next hb, h.r.below hb, xsOk.keep (fun g _ hg => hb.block g hg.lt) (fun _ q => q) xs h.k, grown_trans h.g (grown_below hb _), h.n⟩
theorem Ar.step (h : Ar w gp A c l v xs W u fl) (hp : Rp Z gp A c l u' f') (hg : W.grownBy Z (some gp)) : Ar w gp A c l v xs Z u' f' := by
 have hb : ButT 64 W Z := ButT.grown hg fun k e => by injection e with e; subst e; exact h.p.has
 exact ⟨hp, h.r.but hb (by decide), xsOk.keep (fun g _ ht => hb g _ ht (by decide)) (fun _ q => q) xs h.k, grown_trans h.g hg, h.n⟩
theorem Ar.add (h : Ar w gp A c l v xs W u fl) (hx : x.Ok W (fun g => w.heap.size ≤ g ∧ v.ownBlock ≠ some g)) (hg : W.grownBy Z v.ownBlock) (ho : eX.Own Z w.heap.size v9 (xs ++ [x])) (hk : ∀ k, v9.ownBlock = some k → v.ownBlock = some k ∨ W.heap.size ≤ k) : Ar w gp A c l v9 (xs ++ [x]) Z u fl := by
 have hn := h.n
 have hb : ButT 53 W Z := ButT.grown hg fun k e => h.r.has k e
 have hB : Below w.heap.size W Z := (Below.refl _ _).grown hg h.g.size (fun k e => (h.r.lt k e).1)
 have key : ∀ ys : List XT, xsOk W (fun g => w.heap.size ≤ g ∧ v.ownBlock ≠ some g) ys → xsOk Z (fun g => w.heap.size ≤ g ∧ v9.ownBlock ≠ some g) ys := fun ys hy => by
  refine xsOk.keep (P := fun g => (w.heap.size ≤ g ∧ v.ownBlock ≠ some g) ∧ g < W.heap.size) (fun g q hg' => hg.block g hg'.lt (fun e => q.1.2 e.symm)) (fun g q => ⟨q.1.1, fun e => ?_⟩) ys (xsOk.low ys hy)
  rcases hk g e with e2 | e2
  · exact q.1.2 e2
  · omega
 exact ⟨h.p.below hB hn, ho, (key xs h.k).append (key [x] ⟨hx, trivial⟩), grown_new h.g hB, hn⟩
theorem Ar.new1 (hp : Rp W gp A c l u fl) (hg : w.grownBy W (some gp)) (hn : gp < w.heap.size) (t : XT) (ht : t.Ok W (fun g => w.heap.size ≤ g)) (arr : Array Value) (ha : arr = t.cs.toArray) :
 Ar w gp A c l (.slice (some ⟨W.heap.size, 0, none⟩) 1 1) [t] (W.alloc (.cells arr 53)) u fl :=
 ⟨hp.next (below_lnew W _), own_one W _ hg.size t arr ha, ⟨XT.Ok.keep (fun _ _ hg => (below_lnew W _).block _ hg.lt) (fun g q => ⟨q.1, fun e => by injection e with e; have := q.2; exact absurd e (by show W.heap.size ≠ g; omega)⟩) t (XT.Ok.low t ht), trivial⟩, grown_trans hg (grown_below (below_lnew W _) _), hn⟩
theorem Ar.new0 (hp : Rp W gp A c l u fl) (hg : w.grownBy W (some gp)) (hn : gp < w.heap.size) : Ar w gp A c l (.slice none 0 0) [] W u fl :=
 ⟨hp, El.Own.nil W _, trivial, hg, hn⟩
end
end Go.Proofs.Ytjllbacefbjjaaa
