/-
  Merged for a claim: S1N.
-/
import Derived.Test.YtjllbacefbjjaaaZJ19
import Derived.Deep.QuietTactic
namespace Go.Proofs.Ytjllbacefbjjaaa
open Go Go.RowKit

def XT.ks : XT → List XT | .mk _ _ _ _ _ _ _ ks => ks
theorem XT.ks_lt (t : XT) : SizeOf.sizeOf t.ks < SizeOf.sizeOf t := by
 cases t
 simp [XT.ks]
 omega
theorem ks_mem {t : XT} {xs : List XT} (h : t ∈ xs) : SizeOf.sizeOf t.ks < SizeOf.sizeOf xs := Nat.lt_trans t.ks_lt (List.sizeOf_lt_of_mem h)
theorem lies_eq {α : Type} {K : El α} {w w' : World} {A : Option Addr} {xs : List α} (h : K.LiesT w A xs) (hk : ∀ g, HasT w g K.e → w'.heap[g]? = w.heap[g]?) : K.LiesT w' A xs := fun hl => by
 obtain ⟨g, o, e, hg, hc⟩ := h hl
 exact ⟨g, o, e, hg.same (hk g hg), fun j hj f u hu => (World.cell?_of_block (hk g hg)).trans (hc j hj f u hu)⟩
theorem xsOk_draws {w : World} {P : Nat → Prop} {xs : List XT} (n : Nat) (h : xsOk w P xs) : xsOk (w.drewN n) P xs := xsOk.keep (w := w) (w' := w.drewN n) (fun _ _ _ => rfl) (fun _ q => q) xs h
theorem lies_draws {α : Type} {K : El α} {w : World} {A : Option Addr} {xs : List α} (n : Nat) (h : K.LiesT w A xs) : K.LiesT (w.drewN n) A xs := lies_eq (w := w) (w' := w.drewN n) h fun _ _ => rfl
set_option maxRecDepth 100000 in
set_option maxHeartbeats 8000000 in
theorem sameExps_any (P Q : Nat → Prop) : ∀ (xs ys : List XT) (A B : Option Addr) (c d : Nat) (w : World), eX.LiesT w A xs → eX.LiesT w B ys → xsOk w P xs → xsOk w Q ys → xsd xs = xsd ys → exsF (xsd xs) →
 Calls Try.prog 42 #[.slice A xs.length c, .slice B ys.length d] w (fun e w' => e = .returned (.bool true) ∧ ∃ m, w' = w.drewN m)
 | xs, ys, A, B, c, d, w, h1, h2, h3, h4, h5, h6 => by
  have HIH : ∀ t ∈ xs, ∀ (ys : List XT) (A B : Option Addr) (c d : Nat) (w : World), eX.LiesT w A t.ks → eX.LiesT w B ys → xsOk w P t.ks → xsOk w Q ys → xsd t.ks = xsd ys → exsF (xsd t.ks) →
   Calls Try.prog 42 #[.slice A t.ks.length c, .slice B ys.length d] w (fun e w' => e = .returned (.bool true) ∧ ∃ m, w' = w.drewN m) := fun t ht ys A B c d w k1 k2 k3 k4 k5 k6 =>
    have : SizeOf.sizeOf t.ks < SizeOf.sizeOf xs := ks_mem ht
    sameExps_any P Q t.ks ys A B c d w k1 k2 k3 k4 k5 k6
  have hlen : ys.length = xs.length := by
   have := congrArg List.length h5
   rw [xsd_map, xsd_map, List.length_map, List.length_map] at this
   exact this.symm
  have hxs : xs.length ≤ 1000000 := by have := (exsF_get h6).1; rw [xsd_map, List.length_map] at this; exact this
  have HL := Lib.hid hlen
  have H1 := Lib.hid h1
  have H2 := Lib.hid h2
  have H3 := Lib.hid h3
  have H4 := Lib.hid h4
  have H5 := Lib.hid h5
  have H6 := Lib.hid h6
  rw [hlen]
  clear h1 h2 h3 h4 h5 h6 hlen
  go_enter Try.func42, Try.ntmps42
  go_wp2_with fail
  go_loopw [5] (fun i wr => ∃ k : Nat, k ≤ xs.length ∧ i = .int .i64 k ∧ Hid (∃ m, wr = w.drewN m)) (fun i _ => xs.length - (intOf i).toNat)
  case atStart => exact ⟨0, by omega, rfl, 0, rfl⟩
  case round =>
   obtain ⟨k, hk, rfl, hm⟩ := hrel
   obtain ⟨m, hwm⟩ := hm.out
   have K1 := Lib.hid (show eX.LiesT wr A xs by rw [hwm]; exact lies_draws m H1.out)
   have K2 := Lib.hid (show eX.LiesT wr B ys by rw [hwm]; exact lies_draws m H2.out)
   have K3 := Lib.hid (show xsOk wr P xs by rw [hwm]; exact xsOk_draws m H3.out)
   have K4 := Lib.hid (show xsOk wr Q ys by rw [hwm]; exact xsOk_draws m H4.out)
   have HWM := Lib.hid hwm
   clear hwm hm
   by_cases hlt : k < xs.length
   · obtain ⟨g, o, rfl, hg, hcx⟩ := K1.out.lies.at_ hlt
     obtain ⟨g2, o2, rfl, hg2, hcy⟩ := K2.out.lies.at_ (show k < ys.length by rw [HL.out]; exact hlt)
     have hx := xsOk_all K3.out _ (List.getElem_mem hlt)
     have hy := xsOk_all K4.out _ (List.getElem_mem (show k < ys.length by rw [HL.out]; exact hlt))
     have hd : xs[k].d = (ys[k]'(by rw [HL.out]; exact hlt)).d := by
      have := H5.out
      rw [xsd_map, xsd_map] at this
      have h9 := congrArg (fun q => q[k]?) this
      simpa [hlt, HL.out] using h9
     have hf := (exsF_get H6.out).2 xs[k].d (by rw [xsd_map]; exact List.mem_map.2 ⟨_, List.getElem_mem hlt, rfl⟩)
     have hI := HIH _ (List.getElem_mem hlt)
     generalize xs[k] = t at *
     generalize ys[k]'(by rw [HL.out]; exact hlt) = s at *
     obtain ⟨kd, nu, nm, fl, op, kA, kc, ks⟩ := t
     obtain ⟨kd2, nu2, nm2, fl2, op2, kB, kc2, ks2⟩ := s
     rw [XT.d, XT.d] at hd
     injection hd with e1 e2 e3 e4 e5 e6
     subst e1 e2 e3 e4 e5
     rw [XT.Ok] at hx hy
     rw [XT.d, Ex.few] at hf
     have HC := Lib.hid (fun n (c9 d9 : Nat) => hI ks2 kA kB c9 d9 (wr.drewN n) (lies_draws n hx.1.1) (lies_draws n hy.1.1) (xsOk_draws n hx.2) (xsOk_draws n hy.2) e6 hf)
     have d0 := hcx 0 _ rfl
     have d1 := hcx 1 _ rfl
     have d2 := hcx 2 _ rfl
     have d3 := hcx 3 _ rfl
     have d4 := hcx 4 _ rfl
     have d5 := hcx 5 _ rfl
     have f0 := hcy 0 _ rfl
     have f1 := hcy 1 _ rfl
     have f2 := hcy 2 _ rfl
     have f3 := hcy 3 _ rfl
     have f4 := hcy 4 _ rfl
     have f5 := hcy 5 _ rfl
     simp only [Nat.add_zero, show eX.sz = 6 from rfl] at d0 d1 d2 d3 d4 d5 f0 f1 f2 f3 f4 f5
     have hki : (k : Int) < (xs.length : Int) := by omega
     clear hcx hcy hx hy hf hI HIH e6 H1 H2 H3 H4 H5 H6 HL K1 K2 K3 K4
     unfold XT.ks at HC
     go_wp2_with fail
     go_quiet (first | (go_at_call 42; exact Calls.quiet_of (HC.out _ _ _)))
     go_wp2_with fail
     exact ⟨⟨k + 1, by omega, by go_num, Lib.hid ⟨m + nq, by rw [HWM.out, World.drewN_drewN]⟩⟩, by simp [intOf]; omega⟩
   · obtain rfl : k = xs.length := by omega
     go_wp2_with fail
     go_ret
     exact ⟨rfl, m, HWM.out⟩
termination_by xs => SizeOf.sizeOf xs
def XS.bd : XS → List XS | .mk _ _ _ _ _ _ _ _ _ _ _ bd _ _ _ => bd
def XS.el : XS → List XS | .mk _ _ _ _ _ _ _ _ _ _ _ _ _ _ el => el
theorem XS.bd_lt (t : XS) : SizeOf.sizeOf t.bd < SizeOf.sizeOf t := by
 cases t
 simp [XS.bd]
 omega
theorem XS.el_lt (t : XS) : SizeOf.sizeOf t.el < SizeOf.sizeOf t := by
 cases t
 simp [XS.el]
 omega
set_option maxRecDepth 100000 in
set_option maxHeartbeats 16000000 in
theorem sameStmts_any (P Q : Nat → Prop) : ∀ (xs ys : List XS) (A B : Option Addr) (c d : Nat) (w : World), eSt.LiesT w A xs → eSt.LiesT w B ys → xssOk w P xs → xssOk w Q ys → xssd xs = xssd ys → stsF (xssd xs) →
 Calls Try.prog 25 #[.slice A xs.length c, .slice B ys.length d] w (fun e w' => e = .returned (.bool true) ∧ Below w.heap.size w w')
 | xs, ys, A, B, c, d, w, h1, h2, h3, h4, h5, h6 => by
  have HIB : ∀ t ∈ xs, ∀ (ys : List XS) (A B : Option Addr) (c d : Nat) (w : World), eSt.LiesT w A t.bd → eSt.LiesT w B ys → xssOk w P t.bd → xssOk w Q ys → xssd t.bd = xssd ys → stsF (xssd t.bd) →
   Calls Try.prog 25 #[.slice A t.bd.length c, .slice B ys.length d] w (fun e w' => e = .returned (.bool true) ∧ Below w.heap.size w w') := fun t ht ys A B c d w k1 k2 k3 k4 k5 k6 =>
    have : SizeOf.sizeOf t.bd < SizeOf.sizeOf xs := Nat.lt_trans t.bd_lt (List.sizeOf_lt_of_mem ht)
    sameStmts_any P Q t.bd ys A B c d w k1 k2 k3 k4 k5 k6
  have HIE : ∀ t ∈ xs, ∀ (ys : List XS) (A B : Option Addr) (c d : Nat) (w : World), eSt.LiesT w A t.el → eSt.LiesT w B ys → xssOk w P t.el → xssOk w Q ys → xssd t.el = xssd ys → stsF (xssd t.el) →
   Calls Try.prog 25 #[.slice A t.el.length c, .slice B ys.length d] w (fun e w' => e = .returned (.bool true) ∧ Below w.heap.size w w') := fun t ht ys A B c d w k1 k2 k3 k4 k5 k6 =>
    have : SizeOf.sizeOf t.el < SizeOf.sizeOf xs := Nat.lt_trans t.el_lt (List.sizeOf_lt_of_mem ht)
    sameStmts_any P Q t.el ys A B c d w k1 k2 k3 k4 k5 k6
  have hlen : ys.length = xs.length := by
   have := congrArg List.length h5
   rw [xssd_map, xssd_map, List.length_map, List.length_map] at this
   exact this.symm
  have hxs : xs.length ≤ 1000000 := by have := (stsF_get h6).1; rw [xssd_map, List.length_map] at this; exact this
  have HL := Lib.hid hlen
  have H1 := Lib.hid h1
  have H2 := Lib.hid h2
  have H3 := Lib.hid h3
  have H4 := Lib.hid h4
  have H5 := Lib.hid h5
  have H6 := Lib.hid h6
  rw [hlen]
  clear h1 h2 h3 h4 h5 h6 hlen
  go_enter Try.func25, Try.ntmps25
  go_wp2_with fail
  go_loopw [5] (fun i wr => ∃ k : Nat, k ≤ xs.length ∧ i = .int .i64 k ∧ Hid (Below w.heap.size w wr)) (fun i _ => xs.length - (intOf i).toNat)
  case atStart => exact ⟨0, by omega, rfl, Below.refl _ _⟩
  case round =>
   obtain ⟨k, hk, rfl, hB⟩ := hrel
   by_cases hlt : k < xs.length
   · have hbk : ∀ g e, HasT w g e → wr.heap[g]? = w.heap[g]? := fun g e ht => hB.out.block g ht.lt
     obtain ⟨g, o, rfl, hg, hcx⟩ := (lies_eq H1.out (hbk · _)).lies.at_ hlt
     obtain ⟨g2, o2, rfl, hg2, hcy⟩ := (lies_eq H2.out (hbk · _)).lies.at_ (show k < ys.length by rw [HL.out]; exact hlt)
     have hx := xssOk.all H3.out _ (List.getElem_mem hlt)
     have hy := xssOk.all H4.out _ (List.getElem_mem (show k < ys.length by rw [HL.out]; exact hlt))
     have hd : xs[k].d = (ys[k]'(by rw [HL.out]; exact hlt)).d := by
      have := H5.out
      rw [xssd_map, xssd_map] at this
      have h9 := congrArg (fun q => q[k]?) this
      simpa [hlt, HL.out] using h9
     have hf := (stsF_get H6.out).2 xs[k].d (by rw [xssd_map]; exact List.mem_map.2 ⟨_, List.getElem_mem hlt, rfl⟩)
     have hI := HIB _ (List.getElem_mem hlt)
     have hE := HIE _ (List.getElem_mem hlt)
     generalize xs[k] = t at *
     generalize ys[k]'(by rw [HL.out]; exact hlt) = s at *
     obtain ⟨kd, ln, nm, fl, cl, ⟨tk, tn, tm⟩, kA, kc, kk, bA, bc, bd, eA, ec, el⟩ := t
     obtain ⟨kd2, ln2, nm2, fl2, cl2, ⟨tk2, tn2, tm2⟩, kB, kc2, kk2, bB, bc2, bd2, eB, ec2, el2⟩ := s
     rw [XS.d, XS.d] at hd
     injection hd with e1 e2 e3 e4 e5 e6 e7 e8 e9
     injection e6 with e61 e62 e63
     subst e1 e2 e3 e4 e5 e61 e62 e63
     rw [XS.Ok] at hx hy
     rw [XS.d, St.few] at hf
     have l1 : kk2.length = kk.length := by
      have := congrArg List.length e7
      rw [xsd_map, xsd_map, List.length_map, List.length_map] at this
      exact this.symm
     have l2 : bd2.length = bd.length := by
      have := congrArg List.length e8
      rw [xssd_map, xssd_map, List.length_map, List.length_map] at this
      exact this.symm
     have l3 : el2.length = el.length := by
      have := congrArg List.length e9
      rw [xssd_map, xssd_map, List.length_map, List.length_map] at this
      exact this.symm
     unfold XS.bd at hI
     unfold XS.el at hE
     have HK := Lib.hid (fun W2 (hb : Below w.heap.size w W2) => sameExps_any P Q kk kk2 kA kB kc kc2 W2 (lies_eq hx.1.1.1 fun g ht => hb.block g ht.lt) (lies_eq hy.1.1.1 fun g ht => hb.block g ht.lt) (xsOk.keep (fun g _ ht => hb.block g ht.lt) (fun _ q => q) _ hx.2.1) (xsOk.keep (fun g _ ht => hb.block g ht.lt) (fun _ q => q) _ hy.2.1) e7 hf.1)
     have HB := Lib.hid (fun W2 (hb : Below w.heap.size w W2) => hI bd2 bA bB bc bc2 W2 (lies_eq hx.1.2.1.1 fun g ht => hb.block g ht.lt) (lies_eq hy.1.2.1.1 fun g ht => hb.block g ht.lt) (xssOk.keep (fun g _ ht => hb.block g ht.lt) (fun g _ ht => hb.block g ht.lt) (fun _ q => q) _ hx.2.2.1) (xssOk.keep (fun g _ ht => hb.block g ht.lt) (fun g _ ht => hb.block g ht.lt) (fun _ q => q) _ hy.2.2.1) e8 hf.2.1)
     have HE := Lib.hid (fun W2 (hb : Below w.heap.size w W2) => hE el2 eA eB ec ec2 W2 (lies_eq hx.1.2.2.1 fun g ht => hb.block g ht.lt) (lies_eq hy.1.2.2.1 fun g ht => hb.block g ht.lt) (xssOk.keep (fun g _ ht => hb.block g ht.lt) (fun g _ ht => hb.block g ht.lt) (fun _ q => q) _ hx.2.2.2) (xssOk.keep (fun g _ ht => hb.block g ht.lt) (fun g _ ht => hb.block g ht.lt) (fun _ q => q) _ hy.2.2.2) e9 hf.2.2)
     rw [l1] at HK
     rw [l2] at HB
     rw [l3] at HE
     have d0 := hcx 0 _ rfl
     have d1 := hcx 1 _ rfl
     have d2 := hcx 2 _ rfl
     have d3 := hcx 3 _ rfl
     have d4 := hcx 4 _ rfl
     have d5 := hcx 5 _ rfl
     have d6 := hcx 6 _ rfl
     have d7 := hcx 7 _ rfl
     have d8 := hcx 8 _ rfl
     have d9 := hcx 9 _ rfl
     have d10 := hcx 10 _ rfl
     have f0 := hcy 0 _ rfl
     have f1 := hcy 1 _ rfl
     have f2 := hcy 2 _ rfl
     have f3 := hcy 3 _ rfl
     have f4 := hcy 4 _ rfl
     have f5 := hcy 5 _ rfl
     have f6 := hcy 6 _ rfl
     have f7 := hcy 7 _ rfl
     have f8 := hcy 8 _ rfl
     have f9 := hcy 9 _ rfl
     have f10 := hcy 10 _ rfl
     simp only [Nat.add_zero, show eSt.sz = 11 from rfl, l1, l2, l3] at d0 f0 d1 f1 d2 f2 d3 f3 d4 f4 d5 f5 d6 f6 d7 f7 d8 f8 d9 f9 d10 f10
     have hki : (k : Int) < (xs.length : Int) := by omega
     have hal := below_al2 wr (.cells #[.int .u8 kd, .int .i64 ln, .string (str nm), .string (str fl), .string (str cl), .int .u8 tk, .int .i64 tn, .string (str tm), .slice kA kk.length kc, .slice bA bd.length bc, .slice eA el.length ec] 51) (.cells #[.int .u8 kd, .int .i64 ln, .string (str nm), .string (str fl), .string (str cl), .int .u8 tk, .int .i64 tn, .string (str tm), .slice kB kk.length kc2, .slice bB bd.length bc2, .slice eB el.length ec2] 51)
     have HC1 := Lib.hid (show CAt ((wr.alloc (.cells #[.int .u8 kd, .int .i64 ln, .string (str nm), .string (str fl), .string (str cl), .int .u8 tk, .int .i64 tn, .string (str tm), .slice kA kk.length kc, .slice bA bd.length bc, .slice eA el.length ec] 51)).alloc (.cells #[.int .u8 kd, .int .i64 ln, .string (str nm), .string (str fl), .string (str cl), .int .u8 tk, .int .i64 tn, .string (str tm), .slice kB kk.length kc2, .slice bB bd.length bc2, .slice eB el.length ec2] 51)) wr.heap.size 51 [.int .u8 kd, .int .i64 ln, .string (str nm), .string (str fl), .string (str cl), .int .u8 tk, .int .i64 tn, .string (str tm), .slice kA kk.length kc, .slice bA bd.length bc, .slice eA el.length ec] from ((below_lnew _ _).block wr.heap.size (by simp)).trans (heap_alloc_new wr _))
     have HC2 := Lib.hid (show CAt ((wr.alloc (.cells #[.int .u8 kd, .int .i64 ln, .string (str nm), .string (str fl), .string (str cl), .int .u8 tk, .int .i64 tn, .string (str tm), .slice kA kk.length kc, .slice bA bd.length bc, .slice eA el.length ec] 51)).alloc (.cells #[.int .u8 kd, .int .i64 ln, .string (str nm), .string (str fl), .string (str cl), .int .u8 tk, .int .i64 tn, .string (str tm), .slice kB kk.length kc2, .slice bB bd.length bc2, .slice eB el.length ec2] 51)) (wr.heap.size + 1) 51 [.int .u8 kd, .int .i64 ln, .string (str nm), .string (str fl), .string (str cl), .int .u8 tk, .int .i64 tn, .string (str tm), .slice kB kk.length kc2, .slice bB bd.length bc2, .slice eB el.length ec2] from new_at _ _ (by simp) _)
     have HBA := Lib.hid (hB.out.trans (hal.mono hB.out.size))
     clear hcx hcy hx hy hf hI hE HIB HIE e7 e8 e9 H1 H2 H3 H4 H5 H6 HL hbk hal
     go_wp2_with fail
     refine (HK.out _ HBA.out).mono ?_
     rintro e w2 ⟨rfl, m2, hm2⟩
     have hb2 : Below ((wr.alloc (.cells #[.int .u8 kd, .int .i64 ln, .string (str nm), .string (str fl), .string (str cl), .int .u8 tk, .int .i64 tn, .string (str tm), .slice kA kk.length kc, .slice bA bd.length bc, .slice eA el.length ec] 51)).alloc (.cells #[.int .u8 kd, .int .i64 ln, .string (str nm), .string (str fl), .string (str cl), .int .u8 tk, .int .i64 tn, .string (str tm), .slice kB kk.length kc2, .slice bB bd.length bc2, .slice eB el.length ec2] 51)).heap.size ((wr.alloc (.cells #[.int .u8 kd, .int .i64 ln, .string (str nm), .string (str fl), .string (str cl), .int .u8 tk, .int .i64 tn, .string (str tm), .slice kA kk.length kc, .slice bA bd.length bc, .slice eA el.length ec] 51)).alloc (.cells #[.int .u8 kd, .int .i64 ln, .string (str nm), .string (str fl), .string (str cl), .int .u8 tk, .int .i64 tn, .string (str tm), .slice kB kk.length kc2, .slice bB bd.length bc2, .slice eB el.length ec2] 51)) w2 := by rw [hm2]; exact below_draws m2
     have HB2 := Lib.hid (HBA.out.trans (hb2.mono HBA.out.size))
     have HX2 := Lib.hid (HC1.out.below hb2 HC1.out.lt)
     have HY2 := Lib.hid (HC2.out.below hb2 HC2.out.lt)
     clear hm2 hb2 HC1 HC2 HK
     have qx9 := HX2.out.cell (j := 9) (by simp)
     have qy9 := HY2.out.cell (j := 9) (by simp)
     have qx10 := HX2.out.cell (j := 10) (by simp)
     have qy10 := HY2.out.cell (j := 10) (by simp)
     simp only [List.getElem_cons_zero, List.getElem_cons_succ] at qx9 qy9 qx10 qy10
     go_wp2_with fail
     refine (HB.out _ HB2.out).mono ?_
     rintro e w3 ⟨rfl, hb3⟩
     have HB3 := Lib.hid (HB2.out.trans (hb3.mono HB2.out.size))
     have HX3 := Lib.hid (HX2.out.below hb3 HX2.out.lt)
     have HY3 := Lib.hid (HY2.out.below hb3 HY2.out.lt)
     clear hb3 HX2 HY2 HB qx9 qy9 qx10 qy10
     have rx10 := HX3.out.cell (j := 10) (by simp)
     have ry10 := HY3.out.cell (j := 10) (by simp)
     simp only [List.getElem_cons_zero, List.getElem_cons_succ] at rx10 ry10
     go_wp2_with fail
     refine (HE.out _ HB3.out).mono ?_
     rintro e w4 ⟨rfl, hb4⟩
     have HB4 := Lib.hid (HB3.out.trans (hb4.mono HB3.out.size))
     clear hb4 HX3 HY3 HE
     go_wp2_with fail
     exact ⟨⟨k + 1, by omega, by go_num, HB4⟩, by simp [intOf]; omega⟩
   · obtain rfl : k = xs.length := by omega
     go_wp2_with fail
     go_ret
     exact ⟨rfl, hB.out⟩
termination_by xs => SizeOf.sizeOf xs
end Go.Proofs.Ytjllbacefbjjaaa
