/-
  Merged for a claim: S2M, S2N, S3J.
-/
import Derived.Test.YtjllbacefbjjaaaZS1N
import Derived.Test.YtjllbacefbjjaaaZJ19
namespace Go.Proofs.Ytjllbacefbjjaaa
open Go Go.RowKit

theorem exsD_app (a b : List Ex) : exsD (a ++ b) = max (exsD a) (exsD b) := by
 induction a with
 | nil => simp [exsD]
 | cons x l ih => rw [List.cons_append, exsD, exsD, ih]; omega
theorem exsD_mem {x : Ex} : ∀ {l : List Ex}, x ∈ l → x.dp ≤ exsD l
 | [], h => absurd h (by simp)
 | y :: l, h => by
  rw [exsD]
  rcases List.mem_cons.1 h with rfl | h
  · omega
  · have := exsD_mem h
    omega
set_option maxRecDepth 100000 in
set_option maxHeartbeats 1000000 in
theorem rdepth_any (P : Nat → Prop) : ∀ (t : XT) (w : World), t.Ok w P → t.d.few → t.d.dp ≤ 1000000 →
 Calls Try.prog 53 #[xV t] w (fun e w' => e = .returned (.int .i64 t.d.dp) ∧ Below w.heap.size w w')
 | .mk kd nu nm fl op B d ks, w, ho, hf, hd => by
  rw [XT.d] at hf hd ⊢
  rw [Ex.few] at hf
  rw [Ex.dp] at hd ⊢
  rw [XT.Ok] at ho
  have HIH : ∀ t ∈ ks, ∀ w, t.Ok w P → t.d.few → t.d.dp ≤ 1000000 → Calls Try.prog 53 #[xV t] w (fun e w' => e = .returned (.int .i64 t.d.dp) ∧ Below w.heap.size w w') := fun t ht w h1 h2 h3 =>
   have : SizeOf.sizeOf t < SizeOf.sizeOf (XT.mk kd nu nm fl op B d ks) := by have := List.sizeOf_lt_of_mem ht; simp; omega
   rdepth_any P t w h1 h2 h3
  have hlk : ks.length ≤ 1000000 := by have := (exsF_get hf).1; rw [xsd_map, List.length_map] at this; exact this
  have HO := Lib.hid ho
  have HF := Lib.hid hf
  have hnew := heap_alloc_new w (.cells #[.int .u8 kd, .int .i64 nu, .string (str nm), .string (str fl), .string (str op), .slice B ks.length d] 53)
  have hbb := below_lnew w (.cells #[.int .u8 kd, .int .i64 nu, .string (str nm), .string (str fl), .string (str op), .slice B ks.length d] 53)
  obtain ⟨X, hX⟩ : ∃ X, w.alloc (.cells #[.int .u8 kd, .int .i64 nu, .string (str nm), .string (str fl), .string (str op), .slice B ks.length d] 53) = X := ⟨_, rfl⟩
  rw [hX] at hnew hbb
  have HN := Lib.hid (show CAt X w.heap.size 53 [.int .u8 kd, .int .i64 nu, .string (str nm), .string (str fl), .string (str op), .slice B ks.length d] from hnew)
  have HB := Lib.hid hbb
  have HX := Lib.hid hX
  have hd' : exsD (xsd ks) ≤ 999999 := by omega
  have HD := Lib.hid hd'
  clear ho hf hnew hbb hX hd hd'
  unfold xV XT.cs
  go_enter Try.func53, Try.ntmps53
  go_wp2_with fail
  rw [HX.out]
  go_loopw [3, 4] (fun n i wr => ∃ k : Nat, k ≤ ks.length ∧ i = .int .i64 k ∧ n = .int .i64 (exsD (xsd (ks.take k)) : Nat) ∧ Hid (Below X.heap.size X wr)) (fun _ i _ => ks.length - (intOf i).toNat)
  case atStart => exact ⟨0, by omega, rfl, by rw [List.take_zero]; rfl, Below.refl _ _⟩
  case round =>
   obtain ⟨k, hk, rfl, rfl, hB⟩ := hrel
   have hcb := HN.out.below hB.out HN.out.lt
   have p5 := hcb.cell (j := 5) (by simp)
   simp only [List.getElem_cons_zero, List.getElem_cons_succ] at p5
   have l0 : w.heap.size < wr.heap.size := hcb.lt
   clear hcb
   by_cases hlt : k < ks.length
   · have hbw := HB.out.trans (hB.out.mono HB.out.size)
     have hRw := RowP.keep (w' := wr) (Q := P) HO.out.1 (fun g _ ht => hbw.block g ht.lt) (fun _ q => q)
     obtain ⟨g, o, rfl, hg, hcell⟩ := hRw.1.lies.at_ hlt
     have hko := xsOk.keep (w' := wr) (Q := P) (fun g _ ht => hbw.block g ht.lt) (fun _ q => q) ks HO.out.2
     have HM : ks[k] ∈ ks := List.getElem_mem hlt
     have hfe := (exsF_get HF.out).2 ks[k].d (by rw [xsd_map]; exact List.mem_map.2 ⟨_, HM, rfl⟩)
     have hde : ks[k].d.dp ≤ exsD (xsd ks) := exsD_mem (by rw [xsd_map]; exact List.mem_map.2 ⟨_, HM, rfl⟩)
     have HC := Lib.hid (HIH _ HM wr (xsOk_all hko _ HM) hfe (by have := HD.out; omega))
     have HT := Lib.hid (show exsD (xsd (ks.take (k + 1))) = max (exsD (xsd (ks.take k))) ks[k].d.dp by
      rw [List.take_succ_eq_append_getElem hlt, xsd_snoc, exsD_app]
      simp [exsD])
     have hde2 : ks[k].d.dp ≤ 999999 := by have := HD.out; omega
     clear hde
     generalize ks[k] = t at *
     obtain ⟨a0, a1, a2, a3, a4, A5, a6, ys⟩ := t
     have d0 := hcell 0 _ rfl
     have d1 := hcell 1 _ rfl
     have d2 := hcell 2 _ rfl
     have d3 := hcell 3 _ rfl
     have d4 := hcell 4 _ rfl
     have d5 := hcell 5 _ rfl
     simp only [Nat.add_zero, show eX.sz = 6 from rfl] at d0 d1 d2 d3 d4 d5
     have hki : (k : Int) < (ks.length : Int) := by omega
     generalize (XT.mk a0 a1 a2 a3 a4 A5 a6 ys).d.dp = D at *
     generalize exsD (xsd (ks.take k)) = N at *
     clear hcell hko hfe hRw HM HIH hbw
     unfold xV XT.cs at HC
     go_wp2_with fail
     refine HC.out.mono ?_
     rintro e Z ⟨rfl, hbZ⟩
     have HZ := Lib.hid (hB.out.trans (hbZ.mono hB.out.size))
     clear hbZ
     go_wp2_with fail
     refine ⟨⟨k + 1, by omega, by go_num, ?_, HZ⟩, by simp [intOf]; omega⟩
     rw [HT.out]
     rw [show (if N < D then (D : Int) else (N : Int)) = ((max N D : Nat) : Int) by split <;> omega]
   · obtain rfl : k = ks.length := by omega
     have HT := Lib.hid (show ks.take ks.length = ks from List.take_length)
     rw [HT.out]
     have hd2 := HD.out
     obtain ⟨N, hN⟩ : ∃ N, exsD (xsd ks) = N := ⟨_, rfl⟩
     rw [hN] at hd2 ⊢
     have HNN := Lib.hid hN
     clear hN
     go_wp2_with fail
     go_ret
     refine ⟨?_, HB.out.trans (hB.out.mono HB.out.size)⟩
     rw [HNN.out]
     rfl
termination_by t => SizeOf.sizeOf t
end Go.Proofs.Ytjllbacefbjjaaa

namespace Go.Proofs.Ytjllbacefbjjaaa
open Go Go.RowKit

mutual
def St.dr : St → Option Nat
 | .mk _ _ _ _ _ _ ks bd el => if 40 < exsD ks then none else some (max (1 + stsR bd 0) (1 + stsR el 0))
def stsR : List St → Nat → Nat
 | [], n => n
 | s :: l, n => match s.dr with
  | none => 41
  | some m => stsR l (max n m)
end
mutual
theorem dr_dp : ∀ s : St, (s.dr = none → 41 ≤ s.dp) ∧ ∀ m, s.dr = some m → min m 41 = min s.dp 41
 | .mk _ _ _ _ _ _ ks bd el => by
  rw [St.dr, St.dp]
  by_cases h : 40 < exsD ks
  · rw [if_pos h, if_pos h]
    exact ⟨fun _ => Nat.le_refl _, fun m e => (by cases e)⟩
  · rw [if_neg h, if_neg h]
    refine ⟨fun e => (by cases e), fun m e => ?_⟩
    injection e with e
    subst e
    have h1 := stsR_dp bd 0
    have h2 := stsR_dp el 0
    omega
theorem stsR_dp : ∀ (l : List St) (n : Nat), min (stsR l n) 41 = min (max n (stsD l)) 41
 | [], n => by rw [stsR, stsD]; omega
 | s :: l, n => by
  rw [stsR, stsD]
  have h := dr_dp s
  cases hs : s.dr with
  | none =>
   have := h.1 hs
   simp only
   omega
  | some m =>
   have h1 := h.2 m hs
   have h2 := stsR_dp l (max n m)
   simp only
   omega
end
theorem stsR_deep (l : List St) : decide (40 < stsR l 0) = decide (40 < stsD l) := by
 have h := stsR_dp l 0
 by_cases q : 40 < stsD l
 · rw [decide_eq_true q, decide_eq_true (by omega)]
 · rw [decide_eq_false q, decide_eq_false (by omega)]
end Go.Proofs.Ytjllbacefbjjaaa

namespace Go.Proofs.Ytjllbacefbjjaaa
open Go

theorem prim_dp : ∀ n, (∀ u x v, prim n u = .ok x v → x.dp + v.length ≤ u.length) ∧ (∀ k u x v, lev n k u = .ok x v → x.dp + v.length ≤ u.length) ∧ ∀ k x u y v, lop n k x u = .ok y v → y.dp + v.length ≤ x.dp + u.length
 | 0 => ⟨fun _ _ _ h => (by cases h), fun _ _ _ _ h => (by cases h), fun _ _ _ _ _ h => (by cases h)⟩
 | n + 1 => by
  obtain ⟨hp, hl, ho⟩ := prim_dp n
  refine ⟨fun u x v h => ?_, fun k u x v h => ?_, fun k x u y v h => ?_⟩
  · rw [prim] at h
    split at h
    · rename_i hs
      have := tail_len (isU_ne hs)
      obtain ⟨y, w, e, h⟩ := bind_is h
      have := hp _ _ _ e
      injection h with h1 h2
      subst h1 h2
      rw [eUn, Ex.dp, exsD, exsD]
      omega
    · split at h
      · rename_i hs
        have := tail_len (isS_ne hs)
        obtain ⟨y, w, e, h⟩ := bind_is h
        have := hl _ _ _ _ e
        obtain ⟨h3, h⟩ := takeS_len h
        have := tail_len h3
        injection h with h1 h2
        subst h1 h2
        omega
      · split at h
        · rename_i hs
          have := tail_len (isE_ne hs).1
          have := tail_len (isE_ne hs).2
          obtain ⟨y, w, e, h⟩ := bind_is h
          have := hl _ _ _ _ e
          obtain ⟨h3, h⟩ := takeS_len h
          have := tail_len h3
          injection h with h1 h2
          subst h1 h2
          rw [eElem, Ex.dp, exsD, exsD]
          omega
        · have h1 := leafP_len h
          have h2 : x.dp = 1 := by
           unfold leafP at h
           split at h
           · injection h with h _; subst h; rfl
           · split at h
             · injection h with h _; subst h; rfl
             · split at h
               · injection h with h _; subst h; rfl
               · obtain ⟨_, h⟩ := takeK_len h
                 unfold leafN at h
                 split at h
                 · obtain ⟨_, h⟩ := takeK_len h
                   injection h with h _; subst h; rfl
                 · injection h with h _; subst h; rfl
          omega
  · rw [lev] at h
    split at h
    · exact hp _ _ _ h
    · obtain ⟨y, w, e, h⟩ := bind_is h
      have := hl _ _ _ _ e
      have := ho _ _ _ _ _ h
      omega
  · rw [lop] at h
    split at h
    · rename_i hs
      have := tail_len (bndU_ne hs)
      obtain ⟨z, w, e, h⟩ := bind_is h
      have h1 := hl _ _ _ _ e
      have h2 := ho _ _ _ _ _ h
      have h3 := ((enough n).2.1 (k + 1) u.tail).2 _ _ e
      have h4 : (eBin (hd u).tx x z).dp = max x.dp z.dp + 1 := by
       rw [eBin, Ex.dp, exsD, exsD, exsD]
       omega
      have h5 : 0 < x.dp := by
       cases x
       rw [Ex.dp]
       omega
      omega
    · injection h with h1 h2
      subst h1 h2
      omega
theorem exP_dp {u v : List To} {x : Ex} (h : exP u = .ok x v) : x.dp + v.length ≤ u.length := (prim_dp _).2.1 _ _ _ _ h
theorem com_dp : ∀ n u l v, comP exP n u = .ok l v → exsD l + v.length ≤ u.length
 | 0, _, _, _, h => by cases h
 | n + 1, u, l, v, h => by
  rw [comP] at h
  obtain ⟨x, w, e, h⟩ := bind_is h
  have := exP_dp e
  split at h
  · rename_i hs
    have := tail_len (isS_ne hs)
    obtain ⟨l2, z, e2, h⟩ := bind_is h
    have h9 := com_dp n _ _ _ e2
    have h8 := (comP_all exP_ne (fun _ _ _ h => exP_len h) n _).2 _ _ e2
    injection h with h1 h2
    subst h1 h2
    rw [exsD]
    omega
  · obtain ⟨h3, h⟩ := takeS_len h
    have := tail_len h3
    injection h with h1 h2
    subst h1 h2
    rw [exsD, exsD]
    omega
theorem argP_dp {u v : List To} {l : List Ex} (h : argP u = .ok l v) : exsD l + v.length ≤ u.length := by
 unfold argP lisP at h
 split at h
 · injection h with h1 h2
   subst h1 h2
   rw [exsD]
   simp
 · exact com_dp _ _ _ _ h
mutual
def St.ht : St → Nat
 | .mk _ _ _ _ _ _ ks bd el => max (exsD ks) (max (stsH bd) (stsH el)) + 1
def stsH : List St → Nat
 | [] => 0
 | s :: l => max s.ht (stsH l)
end
theorem stm_ht (kd ln : Int) (nm fl cl : List UInt8) (ty : Ty) (ks : List Ex) : (stm kd ln nm fl cl ty ks).ht = exsD ks + 1 := by
 rw [stm, St.ht, stsH]
 omega
theorem one_dp (x : Ex) : exsD [x] = x.dp := by rw [exsD, exsD]; omega
theorem setP_ht {ln : Int} {nm : List UInt8} {u v : List To} {x : St} (h : setP ln nm u = .ok x v) : x.ht + v.length ≤ u.length + 1 := by
 have hl := setP_len h
 unfold setP at h
 split at h
 · obtain ⟨_, h⟩ := takeS_len h
   obtain ⟨_, h⟩ := takeS_len h
   injection h with h1 h2
   subst h1
   rw [stm_ht, exsD]
   omega
 · split at h
   · rename_i hs
     have := tail_len (isC_ne hs).1
     have := tail_len (isC_ne hs).2
     obtain ⟨y, w, e, h⟩ := bind_is h
     have := argP_dp e
     injection h with h1 h2
     subst h1 h2
     rw [stm_ht]
     omega
   · obtain ⟨y, w, e, h⟩ := bind_is h
     have := exP_dp e
     injection h with h1 h2
     subst h1 h2
     rw [stm_ht, one_dp]
     omega
theorem nmdP_ht {ln : Int} {u v : List To} {x : St} (h : nmdP ln u = .ok x v) : x.ht + v.length ≤ u.length + 1 := by
 unfold nmdP at h
 split at h
 · rename_i hs
   have := tail_len (isC_ne hs).1
   have := tail_len (isC_ne hs).2
   obtain ⟨y, w, e, h⟩ := bind_is h
   have := argP_dp e
   injection h with h1 h2
   subst h1 h2
   rw [stm_ht]
   omega
 · obtain ⟨h1, h⟩ := takeK_len h
   have := tail_len h1
   split at h
   · rename_i hs
     have := tail_len (isS_ne hs)
     obtain ⟨y, w, e, h⟩ := bind_is h
     have h7 := exP_dp e
     have := exP_len e
     obtain ⟨h2, h⟩ := takeS_len h
     obtain ⟨h3, h⟩ := takeS_len h
     have := tail_len h2
     have := tail_len h3
     obtain ⟨y2, w2, e2, h⟩ := bind_is h
     have := exP_dp e2
     have := exP_len e2
     injection h with h1 h2
     subst h1 h2
     rw [stm_ht, exsD, exsD, exsD]
     omega
   · split at h
     · rename_i hs
       have := tail_len (isS_ne hs)
       obtain ⟨h2, h⟩ := takeK_len h
       obtain ⟨h3, h⟩ := takeS_len h
       have := tail_len h2
       have := tail_len h3
       obtain ⟨y2, w2, e2, h⟩ := bind_is h
       have := exP_dp e2
       injection h with h1 h2
       subst h1 h2
       rw [stm_ht, one_dp]
       omega
     · obtain ⟨h2, h⟩ := takeS_len h
       have := tail_len h2
       have := setP_ht h
       omega
theorem varP_ht {ln : Int} {u v : List To} {x : St} (h : varP ln u = .ok x v) : x.ht + v.length ≤ u.length + 1 := by
 have hl := varP_len h
 unfold varP at h
 obtain ⟨h1, h⟩ := takeK_len h
 have := tail_len h1
 obtain ⟨ty, w, e, h⟩ := bind_is h
 have := tyP_len e
 split at h
 · rename_i hs
   have := tail_len (isS_ne hs)
   obtain ⟨y2, w2, e2, h⟩ := bind_is h
   have := exP_dp e2
   injection h with h1 h2
   subst h1 h2
   rw [stm_ht, one_dp]
   omega
 · injection h with h1 h2
   subst h1 h2
   rw [stm_ht, exsD]
   omega
theorem semi_ht {s x : St} {u v : List To} (h : semi s u = .ok x v) : x = s ∧ v.length + 1 = u.length := by
 obtain ⟨h1, h⟩ := takeS_len h
 have := tail_len h1
 injection h with h1 h2
 subst h1 h2
 exact ⟨rfl, this⟩
theorem hdP_ht {u v : List To} {x : St} (h : hdP u = .ok x v) : x.ht + v.length ≤ u.length := by
 unfold hdP at h
 split at h
 · rename_i hs
   have := tail_len (isW_ne hs)
   obtain ⟨y, w, e, h⟩ := bind_is h
   have := exP_dp e
   injection h with h1 h2
   subst h1 h2
   rw [stm_ht, one_dp]
   omega
 · split at h
   · rename_i hs
     have := tail_len (isW_ne hs)
     obtain ⟨y, w, e, h⟩ := bind_is h
     have := exP_dp e
     injection h with h1 h2
     subst h1 h2
     rw [stm_ht, one_dp]
     omega
   · split at h
     · rename_i hs
       have := tail_len (isW_ne hs)
       obtain ⟨y, w, e, h⟩ := bind_is h
       have := varP_ht e
       obtain ⟨rfl, _⟩ := semi_ht h
       omega
     · split at h
       · rename_i hs
         have := tail_len (isW_ne hs)
         obtain ⟨h1, h⟩ := takeS_len h
         have := tail_len h1
         obtain ⟨y, w, e, h⟩ := bind_is h
         have := exP_dp e
         obtain ⟨h2, h⟩ := takeS_len h
         have := tail_len h2
         obtain ⟨rfl, _⟩ := semi_ht h
         rw [stm_ht, one_dp]
         omega
       · split at h
         · rename_i hs
           have := tail_len (isW_ne hs)
           split at h
           · obtain ⟨rfl, _⟩ := semi_ht h
             rw [stm_ht, exsD]
             omega
           · obtain ⟨y, w, e, h⟩ := bind_is h
             have := exP_dp e
             obtain ⟨rfl, _⟩ := semi_ht h
             rw [stm_ht, one_dp]
             omega
         · obtain ⟨y, w, e, h⟩ := bind_is h
           have := nmdP_ht e
           obtain ⟨rfl, _⟩ := semi_ht h
           omega
theorem setB_ht (s : St) (b : List St) : (s.setB b).ht ≤ max s.ht (stsH b + 1) := by
 obtain ⟨kd, ln, nm, fl, cl, ty, ks, bd, el⟩ := s
 rw [St.setB, St.ht, St.ht]
 omega
theorem setE_ht (s : St) (b : List St) : (s.setE b).ht ≤ max s.ht (stsH b + 1) := by
 obtain ⟨kd, ln, nm, fl, cl, ty, ks, bd, el⟩ := s
 rw [St.setE, St.ht, St.ht]
 omega
theorem sta_ht : ∀ n, (∀ u x v, staP n u = .ok x v → x.ht + v.length ≤ u.length) ∧ (∀ u l v, blkP n u = .ok l v → stsH l + v.length ≤ u.length) ∧ ∀ u l v, lstP n u = .ok l v → stsH l + v.length ≤ u.length
 | 0 => ⟨fun _ _ _ h => (by cases h), fun _ _ _ h => (by cases h), fun _ _ _ h => (by cases h)⟩
 | n + 1 => by
  obtain ⟨hs, hb, hl⟩ := sta_ht n
  refine ⟨fun u x v h => ?_, fun u l v h => ?_, fun u l v h => ?_⟩
  · rw [staP] at h
    obtain ⟨s, w, e, h⟩ := bind_is h
    have h1 := hdP_ht e
    have h2 := hdP_len e
    split at h
    · obtain ⟨b, z, e2, h⟩ := bind_is h
      have h3 := hb _ _ _ e2
      have h4 := (enoughS n).2.1 w |>.2 _ _ e2
      have h6 := setB_ht s b
      split at h
      · rename_i hq
        have := tail_len (isW_ne hq)
        obtain ⟨el, y, e3, h⟩ := bind_is h
        have h5 := hb _ _ _ e3
        have h8 := (enoughS n).2.1 z.tail |>.2 _ _ e3
        have h7 := setE_ht (s.setB b) el
        injection h with q1 q2
        subst q1 q2
        omega
      · injection h with q1 q2
        subst q1 q2
        omega
    · split at h
      · obtain ⟨b, z, e2, h⟩ := bind_is h
        have h3 := hb _ _ _ e2
        have h4 := (enoughS n).2.1 w |>.2 _ _ e2
        have h6 := setB_ht s b
        injection h with q1 q2
        subst q1 q2
        omega
      · injection h with q1 q2
        subst q1 q2
        omega
  · rw [blkP] at h
    obtain ⟨h1, h⟩ := takeS_len h
    have := tail_len h1
    have := hl _ _ _ h
    omega
  · rw [lstP] at h
    split at h
    · rename_i hq
      have := tail_len (isS_ne hq)
      injection h with q1 q2
      subst q1 q2
      rw [stsH]
      omega
    · obtain ⟨s, w, e1, h⟩ := bind_is h
      obtain ⟨l2, w2, e2, h⟩ := bind_is h
      have h1 := hs _ _ _ e1
      have h2 := hl _ _ _ e2
      have h3 := (enoughS n).2.2 w |>.2 _ _ e2
      injection h with q1 q2
      subst q1 q2
      rw [stsH]
      omega
theorem blP_ht {u v : List To} {l : List St} (h : blP u = .ok l v) : stsH l + v.length ≤ u.length := (sta_ht _).2.1 _ _ _ h
theorem dcP_ht {u v : List To} {d : Dc} (h : dcP u = .ok d v) : stsH d.bd ≤ u.length := by
 obtain ⟨h1, h⟩ := takeW_len h
 obtain ⟨h2, h⟩ := takeK_len h
 obtain ⟨h3, h⟩ := takeS_len h
 have := tail_len h1
 have := tail_len h2
 have := tail_len h3
 obtain ⟨l, w, e, h⟩ := bind_is h
 have := lisP_len pmP_out (fun _ _ _ h => pmP_len h) e
 obtain ⟨l2, w2, e2, h⟩ := bind_is h
 have := rsP_len e2
 obtain ⟨l3, w3, e3, h⟩ := bind_is h
 have := blP_ht e3
 injection h with h _
 subst h
 show stsH l3 ≤ _
 omega
theorem pg_ht (N : Nat) : ∀ n x u y v, pgP n x u = .ok y v → u.length ≤ N → (∀ d ∈ x.fs, stsH d.bd ≤ N) → ∀ d ∈ y.fs, stsH d.bd ≤ N
 | 0, _, _, _, _, h, _, _ => by cases h
 | n + 1, x, u, y, v, h, hu, hx => by
  rw [pgP] at h
  split at h
  · injection h with h _
    subst h
    exact hx
  · split at h
    · obtain ⟨s, w, e, h⟩ := bind_is h
      have := scP_len e
      exact pg_ht N n _ _ _ _ h (by omega) hx
    · obtain ⟨d, w, e, h⟩ := bind_is h
      have h1 := dcP_len e
      have h2 := dcP_ht e
      refine pg_ht N n _ _ _ _ h (by omega) fun q hq => ?_
      rcases List.mem_append.1 hq with hq | hq
      · exact hx q hq
      · rw [List.mem_singleton.1 hq]
        omega
theorem proP_ht {u v : List To} {y : Pg} (h : proP u = .ok y v) : ∀ d ∈ y.fs, stsH d.bd ≤ u.length := pg_ht _ _ _ _ _ _ h (Nat.le_refl _) fun _ q => absurd q (by simp)
mutual
theorem dr_ht : ∀ (s : St) (m : Nat), s.dr = some m → m ≤ 41 + s.ht
 | .mk _ _ _ _ _ _ ks bd el, m, h => by
  rw [St.dr] at h
  rw [St.ht]
  split at h
  · cases h
  · injection h with h
    subst h
    have h1 := stsR_ht bd 0
    have h2 := stsR_ht el 0
    omega
theorem stsR_ht : ∀ (l : List St) (n : Nat), stsR l n ≤ max n (41 + stsH l)
 | [], n => by rw [stsR]; omega
 | s :: l, n => by
  rw [stsR, stsH]
  cases hs : s.dr with
  | none => simp only; omega
  | some m =>
   have h1 := dr_ht s m hs
   have h2 := stsR_ht l (max n m)
   simp only
   omega
end
theorem stsH_mem {s : St} : ∀ {l : List St}, s ∈ l → s.ht ≤ stsH l
 | [], h => absurd h (by simp)
 | y :: l, h => by
  rw [stsH]
  rcases List.mem_cons.1 h with rfl | h
  · omega
  · have := stsH_mem h
    omega
end Go.Proofs.Ytjllbacefbjjaaa
