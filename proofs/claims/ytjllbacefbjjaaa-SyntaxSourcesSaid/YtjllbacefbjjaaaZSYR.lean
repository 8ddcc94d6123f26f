/-
  Merged for a claim: SYR.
-/
import Derived.Test.YtjllbacefbjjaaaZJ9
namespace Go.Proofs.Ytjllbacefbjjaaa
open Go Go.RowKit

def lft (W : World) (gp : Nat) (l : List To) : Nat := match W.cell? ⟨gp, 1, none⟩ with
 | some (.int _ k) => l.length - k.toNat
 | _ => 0
theorem Ps.lft {W : World} {gp : Nat} {A : Option Addr} {c : Nat} {l u : List To} (h : Ps W gp A c l u) : Go.Proofs.Ytjllbacefbjjaaa.lft W gp l = u.length := by
 obtain ⟨k, hk, rfl, hc⟩ := h.k
 have p1 := hc.cell (j := 1) (by simp)
 simp only [List.getElem_cons_zero, List.getElem_cons_succ] at p1
 unfold Go.Proofs.Ytjllbacefbjjaaa.lft
 rw [p1]
 simp
theorem M_some {o : List Ha} {u v : List To} {hh : Ha} (h : begP u = some (hh, v)) : M o u = M (hh :: o) v ∧ v.length + 1 ≤ u.length := by
 unfold begP at h
 rw [M_eq]
 split at h
 · rename_i hu
   injection h with h
   injection h with h1 h2
   subst h1 h2
   rw [if_pos hu]
   exact ⟨rfl, by have := tail_len (isU_ne hu); omega⟩
 · rename_i hu
   rw [if_neg hu]
   split at h
   · rename_i hs
     injection h with h
     injection h with h1 h2
     subst h1 h2
     rw [if_pos hs]
     exact ⟨rfl, by have := tail_len (isS_ne hs); omega⟩
   · rename_i hs
     rw [if_neg hs]
     split at h
     · rename_i he
       injection h with h
       injection h with h1 h2
       subst h1 h2
       rw [if_pos he]
       exact ⟨rfl, by have := tail_len (isE_ne he).1; have := tail_len (isE_ne he).2; omega⟩
     · cases h
theorem M_none {o : List Ha} {u : List To} (h : begP u = none) : M o u = (leafP u).bind (Af o) := by
 unfold begP at h
 rw [M_eq]
 split at h
 · cases h
 · rename_i hu
   rw [if_neg hu]
   split at h
   · cases h
   · rename_i hs
     rw [if_neg hs]
     split at h
     · cases h
     · rename_i he
       rw [if_neg he]
def InH (l : List To) (r : R Ex) (rs : List HM) (o : List Ha) (u : List To) (gh : Nat) (W : World) : Bool → Prop
 | true => ∃ (m : HM) (hh : Ha), CAt W gh 139 m.cs ∧ (∀ W P, m.Is hh W P) ∧ r = M (hh :: o) u ∧ rs.length + 1 + u.length ≤ l.length
 | false => (∃ m : HM, CAt W gh 139 m.cs) ∧ r = (leafP u).bind (Af o)
theorem BgR.both {w w' : World} {gp c : Nat} {A : Option Addr} {l u : List To} {e : Ending} (h : BgR w gp A c l u (begP u) e w') : ∃ (m : HM) (b : Bool) (v : List To), e = .returned (.tuple #[hV m, .bool b]) ∧ Ps w' gp A c l v ∧ w.grownBy w' (some gp) ∧ v.length + (if b = true then 1 else 0) ≤ u.length
 ∧ ∀ (W : World) (gh : Nat) (rs : List HM) (o : List Ha) (r : R Ex), CAt W gh 139 m.cs → rs.length + u.length ≤ l.length → r = M o u → InH l r rs o v gh W b := by
 rcases hbg : begP u with _ | ⟨hh, v⟩
 · rw [hbg] at h
   obtain ⟨h1, h2, h3⟩ := h
   refine ⟨_, false, u, h1, h2, h3, by simp, fun W gh rs o r hc hl hr => ⟨⟨_, hc⟩, by rw [hr, M_none hbg]⟩⟩
 · rw [hbg] at h
   obtain ⟨m, h1, h2, h3, h4⟩ := h
   refine ⟨m, true, v, h1, h3, h4, by have := (M_some (o := []) hbg).2; simpa using this, fun W gh rs o r hc hl hr => ⟨m, hh, hc, h2, by rw [hr, (M_some hbg).1], by have := (M_some (o := []) hbg).2; omega⟩⟩
theorem InH.at_ {l : List To} {r : R Ex} {rs : List HM} {o : List Ha} {u : List To} {gh : Nat} {W : World} {b : Bool} (h : InH l r rs o u gh W b) : ∃ m : HM, CAt W gh 139 m.cs := by
 cases b
 · exact h.1
 · obtain ⟨m, _, h1, _⟩ := h
   exact ⟨m, h1⟩
theorem El.Own.blk {α : Type} {K : El α} {w w' : World} {B : Nat} {v : Value} {xs : List α} (h : K.Own w B v xs) (hk : ∀ k, v.ownBlock = some k → w'.heap[k]? = w.heap[k]?) : K.Own w' B v xs := by
 refine ⟨h.1, ?_⟩
 rcases h.2 with h0 | ⟨g, cap, cur, e, hB, hh, q⟩
 · exact .inl h0
 · subst e
   exact .inr ⟨g, cap, cur, rfl, hB, (hk g rfl).trans hh, q⟩
theorem setH_heap {W : World} {g k : Nat} (m : HM) (h : k ≠ g) : (setH W g m).heap[k]? = W.heap[k]? := by
 unfold setH
 rw [Below.heap_setCell _ _ _ k h, Below.heap_setCell _ _ _ k h, setE_heap _ h]
theorem ExW.setH {w W : World} {gp c : Nat} {A : Option Addr} {l u : List To} {v : Value} {rs : List HM} {o : List Ha} {gh : Nat} (h : ExW w gp A c l v rs o W u) (hg : w.heap.size < gh) (hk : ∀ k, v.ownBlock = some k → k ≠ gh) (ht : HasT W gh 139) (m : HM) : ExW w gp A c l v rs o (Go.Proofs.Ytjllbacefbjjaaa.setH W gh m) u := by
 have hb := setH_below (W := W) (B := w.heap.size) (g := gh) m (Nat.le_of_lt hg)
 refine ⟨h.p.below hb h.n.1, h.r.blk fun k e => setH_heap m (hk k e), Stk.keep (fun g _ hgT => setH_heap m (fun e => ?_)) (fun _ q => q) h.s, (setH_heap m (by omega)).trans h.a, grown_new h.g hb, h.n⟩
 subst e
 exact absurd (hgT.one ht) (by decide)
theorem Stk.low {W : World} {P : Nat → Prop} : ∀ {rs : List HM} {o : List Ha}, Stk W P rs o → Stk W (fun g => P g ∧ g < W.heap.size) rs o
 | [], [], _ => trivial
 | _ :: _, _ :: _, h => ⟨⟨h.1.d, h.1.b, h.1.e, h.1.f, XT.Ok.low _ h.1.o⟩, Stk.low h.2⟩
 | [], _ :: _, h => h
 | _ :: _, [], h => h
theorem bnd_hd (u : List To) : ((if (hd u).kd = 4 then bnd (hd u).tx else 0 : Nat)) = bndU u := by
 unfold bndU
 have := isK_hd (kd := 4) (u := u) (by decide)
 by_cases h4 : (hd u).kd = 4
 · rw [if_pos h4, ← this, decide_eq_true h4, if_pos rfl]
 · rw [if_neg h4, ← this, decide_eq_false h4, if_neg (by decide)]
theorem ExW.lf {w W : World} {gp c : Nat} {A : Option Addr} {l u : List To} {v : Value} {rs : List HM} {o : List Ha} (h : ExW w gp A c l v rs o W u) : LfW w gp A c l W u := ⟨h.p, h.a, h.g, h.n.1⟩
def b01 : Value → Nat | .bool true => 1 | _ => 0
section
variable {w : World} {gp : Nat} {A : Option Addr} {c : Nat} {l u : List To}
set_option maxRecDepth 100000 in
set_option maxHeartbeats 8000000 in
theorem expression_any (hP : Ps w gp A c l u) : Calls Try.prog 87 #[.pointer (some ⟨gp, 0, none⟩)] w (XR w gp A c l (exP u)) := by
 obtain ⟨r, hr⟩ : ∃ r, exP u = r := ⟨_, rfl⟩
 rw [hr]
 have HR := Lib.hid (show r = M [] u by rw [M_exP, hr])
 have hul : u.length ≤ l.length := by
  obtain ⟨k, _, rfl, _⟩ := hP.k
  simp
 have H0 := Lib.hid (ExW.new hP hul)
 clear hP hr hul
 go_enter Try.func87, Try.ntmps87
 go_wp2_with fail
 go_loopw [3] (fun ov wr => ∃ (rs : List HM) (o : List Ha) (u' : List To), Hid (ExW w gp A c l ov rs o wr u') ∧ Hid (r = M o u')) (fun _ wr => lft wr gp l)
 case atStart => exact ⟨[], [], u, H0, HR⟩
 case round =>
  obtain ⟨rs, o, u1, hX, hM⟩ := hrel
  clear H0 HR
  have HB := Lib.hid (begin_any hX.out.p)
  obtain ⟨Ao, no, co, rfl, hno, hnc, hAc, hT⟩ := hX.out.r.formN
  clear hT
  go_wp2_with fail
  refine HB.out.mono ?_
  rintro e w1 hb
  obtain ⟨⟨⟨k0, n0, m0, f0, q0, A0, c0, ks0⟩, b0, en0⟩, bb, u2, rfl, hp1, hg1, hl1, hM1⟩ := hb.both
  have hc1 := half_at w1 ⟨.mk k0 n0 m0 f0 q0 A0 c0 ks0, b0, en0⟩
  have hX1 := (hX.out.step hp1 hg1 (by omega)).below (below_lnew w1 (.cells (HM.cs ⟨.mk k0 n0 m0 f0 q0 A0 c0 ks0, b0, en0⟩).toArray 139))
  have hI1 := hM1 _ w1.heap.size rs o r hc1 (by have := hX.out.n.2; exact this) hM.out
  have hgh : w.heap.size < w1.heap.size := by have h9 := (hX.out.step hp1 hg1 (by omega)).a.lt; exact h9
  have HX1 := Lib.hid hX1
  have HI1 := Lib.hid hI1
  have HL1 := Lib.hid (show u2.length ≤ u1.length by omega)
  have HK1 := Lib.hid (show ∀ k, (Value.slice Ao no co).ownBlock = some k → k ≠ w1.heap.size from fun k e => by have := (hX.out.r.lt k e).2.1; have := hg1.size; omega)
  unfold hV HM.cs XT.cs
  dsimp only
  simp only [List.cons_append, List.nil_append]
  clear hb hp1 hg1 hM1 hc1 hX1 hI1 HB hM
  go_wp2_with fail
  go_loopw [3, 4, 5] (fun ov pv bv wr2 => ∃ (rs : List HM) (o : List Ha) (u' : List To) (gh : Nat) (b : Bool), pv = .pointer (some ⟨gh, 0, none⟩) ∧ bv = .bool b ∧ w.heap.size < gh ∧ u'.length ≤ u1.length ∧ Hid (∀ k, ov.ownBlock = some k → k ≠ gh) ∧ Hid (ExW w gp A c l ov rs o wr2 u') ∧ Hid (InH l r rs o u' gh wr2 b)) (fun _ _ bv wr2 => 2 * lft wr2 gp l + b01 bv)
  case atStart => exact ⟨rs, o, u2, w1.heap.size, bb, rfl, rfl, hgh, HL1.out, HK1, HX1, HI1⟩
  case round =>
   clear HX1 HI1
   obtain ⟨rs3, o3, u3, gh, b3, rfl, rfl, hgh3, hu3, hk3, hX3, hI3⟩ := hrel
   obtain ⟨A3, n3, c3, rfl, hn3, hnc3, hAc3, hT3⟩ := hX3.out.r.formN
   obtain rfl : n3 = rs3.length := by rw [← hn3.out, List.length_reverse]
   cases b3
   · have h9 := hI3.out
     dsimp only [InH] at h9
     have HR3 := Lib.hid h9.2
     have HLV := Lib.hid (leaf_any hX3.out.p)
     have hrl : rs3.length ≤ 1000000 := by have := hX3.out.n.2; have := hX3.out.p.n; omega
     have hwr : w.heap.size < wr.heap.size := hX3.out.a.lt
     clear h9 hI3 hT3 hAc3 hn3
     go_wp2_with fail
     refine HLV.out.mono ?_
     rintro e w2 hlf
     rcases hlp : leafP u3 with ⟨x, v⟩ | v | _
     · rw [hlp] at hlf HR3
       rw [R.bind_ok] at HR3
       obtain ⟨t, rfl, htd, hto, hp2, hg2⟩ := hlf
       have hvl := leafP_len hlp
       have K2 := Lib.hid (hX3.out.step hp2 hg2 (by omega))
       have hT2 : eH.LiesT w2 A3 rs3.reverse := by
        obtain ⟨_, _, e4, _, _, h4⟩ := K2.out.r.form
        injection e4 with e5 _ e6
        subst e5
        exact h4
       have HEN := Lib.hid (end_any K2.out.p (fun g => w.heap.size < g ∧ g < w2.heap.size) (fun g q => q.2) A3 c3 rs3 o3 t hT2 (Stk.low K2.out.s) ((XT.Ok.low t hto).up fun g q => ⟨Nat.lt_of_lt_of_le hwr q.1, q.2⟩) hnc3 hrl)
       rw [htd] at HEN
       clear HLV hT2 hto hp2 hg2 htd hX3 hlp
       go_wp2_with fail
       refine HEN.out.mono ?_
       rintro e w3 ⟨z, rs4, rfl, hsf, hzd, hl4, hs4, hz4, hp4, hg4⟩
       have hlv := endsL_len o3 x v
       have hP4 : ∀ g, ((w.heap.size < g ∧ g < w2.heap.size) ∨ w2.heap.size + 1 < g) → w.heap.size < g := fun g q => by
        have := K2.out.a.lt
        omega
       have K4 := Lib.hid (K2.out.left hsf hp4 hg4 hlv hs4 hP4)
       have HZ4 := Lib.hid (hz4.up hP4)
       have HR4 := Lib.hid (show r = _ from by rw [HR3.out, Af])
       have hv4 : (endsL o3 x v).2.2.length ≤ u1.length - 1 := by omega
       have hu1 : 0 < u1.length := by omega
       clear HEN hsf hl4 hs4 hz4 hp4 hg4 K2 HR3 hP4 hlv hvl
       generalize endsL o3 x v = E at *
       obtain ⟨y, o4, v4⟩ := E
       dsimp only at hzd K4 HR4 hv4
       have HLEN := Lib.hid (Stk.len K4.out.s)
       obtain ⟨k4, n4, m4, f4, q4, A4, c4, ks4⟩ := z
       have HLK := Lib.hid (look_any (K4.out.below (below_lnew w3 (.cells (XT.cs (.mk k4 n4 m4 f4 q4 A4 c4 ks4)).toArray 53))).p 0 (by omega))
       rw [List.drop_zero] at HLK
       have HXC := Lib.hid (show CAt (w3.alloc (.cells (XT.cs (.mk k4 n4 m4 f4 q4 A4 c4 ks4)).toArray 53)) w3.heap.size 53 (XT.cs (.mk k4 n4 m4 f4 q4 A4 c4 ks4)) from heap_alloc_new w3 _)
       unfold xV XT.cs at *
       go_wp2_with fail
       refine HLK.out.mono ?_
       rintro e w5 ⟨rfl, hb5⟩
       have K5 := Lib.hid ((K4.out.below (below_lnew w3 _)).below hb5)
       go_wp2_with fail
       refine (binds_any (hd v4) w5).mono ?_
       rintro e w6 ⟨rfl, hb6⟩
       rw [bnd_hd]
       have K6 := Lib.hid (K5.out.below hb6)
       have HX6 := Lib.hid ((HXC.out.below hb5 HXC.out.lt).below hb6 (Nat.lt_of_lt_of_le HXC.out.lt hb5.size))
       have HZ6 := Lib.hid (((HZ4.out.below (below_lnew w3 _)).below hb5).below hb6)
       have hxc := HX6.out
       have hza := K6.out.a
       unfold zE at hza
       have x0 := hxc.cell (j := 0) (by simp)
       have z0 := hza.cell (j := 0) (by simp)
       have zf0 := hza.frozen 0
       have x1 := hxc.cell (j := 1) (by simp)
       have z1 := hza.cell (j := 1) (by simp)
       have zf1 := hza.frozen 1
       have x2 := hxc.cell (j := 2) (by simp)
       have z2 := hza.cell (j := 2) (by simp)
       have zf2 := hza.frozen 2
       have x3 := hxc.cell (j := 3) (by simp)
       have z3 := hza.cell (j := 3) (by simp)
       have zf3 := hza.frozen 3
       have x4 := hxc.cell (j := 4) (by simp)
       have z4 := hza.cell (j := 4) (by simp)
       have zf4 := hza.frozen 4
       have x5 := hxc.cell (j := 5) (by simp)
       have z5 := hza.cell (j := 5) (by simp)
       have zf5 := hza.frozen 5
       simp only [List.getElem_cons_zero, List.getElem_cons_succ] at x0 x1 x2 x3 x4 x5 z0 z1 z2 z3 z4 z5
       have hxl := hxc.lt
       have hzl := hza.lt
       clear hb5 hb6 HZ4 HXC K4 K5 HLK hxc hza
       by_cases hnb : bndU v4 = 0
       · rw [hnb] at HR4 ⊢
         rw [if_pos rfl] at HR4
         rcases rs4 with _ | ⟨m4', rs5⟩
         · obtain rfl : o4 = [] := List.eq_nil_of_length_eq_zero HLEN.out.symm
           rw [if_pos rfl] at HR4
           simp only [List.length_nil]
           go_wp2_with fail
           exact back_leaf rfl rfl K6.out.lf (.mk k4 n4 m4 f4 q4 A4 c4 ks4) HZ6.out r (by rw [HR4.out, hzd])
         · have hF : r = .bad v4 := by rw [HR4.out, if_neg (by intro q; have h8 := HLEN.out; rw [q] at h8; simp at h8)]
           simp only [List.length_cons]
           have hne : ¬ ((rs5.length : Int) + 1 = 0) := by omega
           go_wp2_with fail
           subst hF
           exact ⟨rfl, rfl, K6.out.p, K6.out.g⟩
       · have hk4 : isK 4 v4 = true := by
          cases h4 : isK 4 v4
          · exact absurd (show bndU v4 = 0 by unfold bndU; rw [h4]; rfl) hnb
          · rfl
         have hne4 := isK_ne hk4
         have hnbI : ¬ ((bndU v4 : Nat) : Int) = 0 := by omega
         rw [if_neg hnb] at HR4
         have hf1 := tok_f1
         have KD := Lib.hid K6.out.drew
         have HXD := Lib.hid (show CAt w6.drew w3.heap.size 53 _ from HX6.out)
         have HZD := Lib.hid (show XT.Ok w6.drew _ _ from HZ6.out.below ((Below.refl _ w6).drew))
         generalize bndU v4 = nb at *
         go_wp2_with fail
         refine wp_region_held_drew (S := fun W9 => (W9.cell? ⟨w3.heap.size, 0, none⟩ = some (.int .u8 k4) ∧ W9.cell? ⟨w3.heap.size, 1, none⟩ = some (.int .i64 n4) ∧ W9.cell? ⟨w3.heap.size, 2, none⟩ = some (.string (str m4)) ∧ W9.cell? ⟨w3.heap.size, 3, none⟩ = some (.string (str f4)) ∧ W9.cell? ⟨w3.heap.size, 4, none⟩ = some (.string (str q4)) ∧ W9.cell? ⟨w3.heap.size, 5, none⟩ = some (.slice A4 ks4.length c4))) (by kernel_rfl) (⟨x0, x1, x2, x3, x4, x5⟩) (fun hHeld => ?_)
         refine heldTake (i := 0) (d := some 50) (v := ?_) rfl rfl (by kernel_rfl) (by kernel_rfl) (by kernel_rfl) (fun _ _ _ h => h) (by kernel_rfl) ?hyq_1 (by assumption) ?restq_1
         case hyq_1 => (intro W9 hSw; (try dsimp only at hSw); go_simp; try (with_reducible rfl))
         (try simp only [Act.put, nA, nB, nC])
         refine heldTake (i := 1) (d := some 51) (v := ?_) rfl rfl (by kernel_rfl) (by kernel_rfl) (by kernel_rfl) (fun _ _ _ h => h) (by kernel_rfl) ?hyq_2 (by assumption) ?restq_2
         case hyq_2 => (intro W9 hSw; (try dsimp only at hSw); go_simp; try (with_reducible rfl))
         (try simp only [Act.put, nA, nB, nC])
         refine heldTake (i := 2) (d := some 52) (v := ?_) rfl rfl (by kernel_rfl) (by kernel_rfl) (by kernel_rfl) (fun _ _ _ h => h) (by kernel_rfl) ?hyq_3 (by assumption) ?restq_3
         case hyq_3 => (intro W9 hSw; (try dsimp only at hSw); go_simp; try (with_reducible rfl))
         (try simp only [Act.put, nA, nB, nC])
         refine heldTake (i := 3) (d := some 53) (v := ?_) rfl rfl (by kernel_rfl) (by kernel_rfl) (by kernel_rfl) (fun _ _ _ h => h) (by kernel_rfl) ?hyq_4 (by assumption) ?restq_4
         case hyq_4 => (intro W9 hSw; (try dsimp only at hSw); go_simp; try (with_reducible rfl))
         (try simp only [Act.put, nA, nB, nC])
         refine heldTake (i := 6) (d := some 56) (v := ?_) rfl rfl (by kernel_rfl) (by kernel_rfl) (by kernel_rfl) (fun _ _ _ h => h) (by kernel_rfl) ?hyq_5 (by assumption) ?restq_5
         case hyq_5 => (intro W9 hSw; (try dsimp only at hSw); go_simp; try (with_reducible rfl))
         (try simp only [Act.put, nA, nB, nC])
         refine heldTake (i := 9) (d := some 59) (v := ?_) rfl rfl (by kernel_rfl) (by kernel_rfl) (by kernel_rfl) (fun _ _ _ h => h) (by kernel_rfl) ?hyq_6 (by assumption) ?restq_6
         case hyq_6 => (intro W9 hSw; (try dsimp only at hSw); go_simp; try (with_reducible rfl))
         (try simp only [Act.put, nA, nB, nC])
         refine wpAnyH_ready (rs := [4, 7]) (by kernel_rfl) (by simp) ?_
         refine AllReadyH.cons rfl (fun K hK => ?_) (AllReadyH.cons rfl (fun K hK => ?_) AllReadyH.nil)
         · go_simp
           go_at_call 70
           refine (one_yes KD.out.p 4 (by decide) hk4).mono ?_
           rintro e9 Y1 ⟨rfl, hpO, hgO⟩
           have KO := Lib.hid (KD.out.step hpO hgO (by simp))
           have hbO : ButT 57 _ Y1 := ButT.grown hgO (fun k e => by injection e with e; subst e; exact KD.out.p.has)
           have HXO := Lib.hid ((hbO w3.heap.size _ ⟨_, _, HXD.out⟩ (by decide)).trans HXD.out)
           have HZO := Lib.hid (XT.Ok.keep (fun g _ ht => hbO g _ ht (by decide)) (fun _ q => q) _ HZD.out)
           have HXO2 : CAt Y1 w3.heap.size 53 _ := HXO.out
           unfold tV tS
           go_wp2_with fail
           refine hK.out _ _ ⟨HXO2.cell (j := 0) (by simp), HXO2.cell (j := 1) (by simp), HXO2.cell (j := 2) (by simp), HXO2.cell (j := 3) (by simp), HXO2.cell (j := 4) (by simp), HXO2.cell (j := 5) (by simp)⟩ (fun hHeld => ?_)
           clear hK K
           (try simp only [Act.put, nA, nB, nC])
           refine heldTake (i := 5) (d := some 55) (v := ?_) rfl rfl (by kernel_rfl) (by kernel_rfl) (by kernel_rfl) (fun _ _ _ h => h) (by kernel_rfl) ?hyq_7 (by assumption) ?restq_7
           case hyq_7 => (intro W9 hSw; (try dsimp only at hSw); go_simp; try (with_reducible rfl))
           (try simp only [Act.put, nA, nB, nC])
           refine wpAnyH_ready (rs := [7]) (by kernel_rfl) (by simp) ?_
           refine AllReadyH.cons rfl (fun K hK => ?_) AllReadyH.nil
           go_simp
           have hbS := below_lnew Y1 (.cells #[.int .u8 k4, .int .i64 n4, .string (str m4), .string (str f4), .string (str q4), .slice A4 ks4.length c4] 53)
           have HKY := Lib.hid (show eX.LiesT (Y1.alloc (.cells #[.int .u8 k4, .int .i64 n4, .string (str m4), .string (str f4), .string (str q4), .slice A4 ks4.length c4] 53)) (some ⟨Y1.heap.size, 0, none⟩) [.mk k4 n4 m4 f4 q4 A4 c4 ks4] from El.liesT_new eX Y1 [.mk k4 n4 m4 f4 q4 A4 c4 ks4] #[.int .u8 k4, .int .i64 n4, .string (str m4), .string (str f4), .string (str q4), .slice A4 ks4.length c4] (fun i v h => by simpa [eX, XT.cs] using h))
           have KY := Lib.hid (KO.out.below hbS)
           have HZY := Lib.hid (HZO.out.below hbS)
           have HXY := Lib.hid (show CAt (Y1.alloc (.cells #[.int .u8 k4, .int .i64 n4, .string (str m4), .string (str f4), .string (str q4), .slice A4 ks4.length c4] 53)) w3.heap.size 53 _ from HXO2.below hbS HXO2.lt)
           have hgk : w.heap.size < Y1.heap.size := KO.out.a.lt
           obtain ⟨Y, hY⟩ : ∃ Y, Y1.alloc (.cells #[.int .u8 k4, .int .i64 n4, .string (str m4), .string (str f4), .string (str q4), .slice A4 ks4.length c4] 53) = Y := ⟨_, rfl⟩
           rw [hY] at HKY KY HZY HXY ⊢
           obtain ⟨gk, hgk9⟩ : ∃ gk, Y1.heap.size = gk := ⟨_, rfl⟩
           rw [hgk9] at HKY hgk ⊢
           have HXY2 : CAt Y w3.heap.size 53 _ := HXY.out
           clear hbS hY hgk9
           refine hK.out _ _ ⟨HXY2.cell (j := 0) (by simp), HXY2.cell (j := 1) (by simp), HXY2.cell (j := 2) (by simp), HXY2.cell (j := 3) (by simp), HXY2.cell (j := 4) (by simp), HXY2.cell (j := 5) (by simp)⟩ (fun hHeld => ?_)
           clear hK K
           (try simp only [Act.put, nA, nB, nC])
           refine heldTake (i := 8) (d := some 58) (v := ?_) rfl rfl (by kernel_rfl) (by kernel_rfl) (by kernel_rfl) (fun _ _ _ h => h) (by kernel_rfl) ?hyq_8 (by assumption) ?restq_8
           case hyq_8 => (intro W9 hSw; (try dsimp only at hSw); go_simp; try (with_reducible rfl))
           (try simp only [Act.put, nA, nB, nC])
           refine heldTake (i := 10) (d := some 60) (v := ?_) rfl rfl (by kernel_rfl) (by kernel_rfl) (by kernel_rfl) (fun _ _ _ h => h) (by kernel_rfl) ?hyq_9 (by assumption) ?restq_9
           case hyq_9 => (intro W9 hSw; (try dsimp only at hSw); go_simp; try (with_reducible rfl))
           (try simp only [Act.put, nA, nB, nC])
           refine wpAnyH_ready (rs := [11]) (by kernel_rfl) (by simp) ?_
           refine AllReadyH.cons rfl (fun K hK => ?_) AllReadyH.nil
           go_simp
           have hbH := below_lnew Y (.cells #[.int .u8 7, .int .i64 0, .string ⟨#[]⟩, .string ⟨#[]⟩, .string (str (hd v4).tx), .slice (some ⟨gk, 0, none⟩) 1 1, .int .i64 nb, .string ⟨#[]⟩] 139)
           have hcH := heap_alloc_new Y (.cells #[.int .u8 7, .int .i64 0, .string ⟨#[]⟩, .string ⟨#[]⟩, .string (str (hd v4).tx), .slice (some ⟨gk, 0, none⟩) 1 1, .int .i64 nb, .string ⟨#[]⟩] 139)
           obtain ⟨Y2, hY2⟩ : ∃ Y2, Y.alloc (.cells #[.int .u8 7, .int .i64 0, .string ⟨#[]⟩, .string ⟨#[]⟩, .string (str (hd v4).tx), .slice (some ⟨gk, 0, none⟩) 1 1, .int .i64 nb, .string ⟨#[]⟩] 139) = Y2 := ⟨_, rfl⟩
           rw [hY2] at hbH hcH ⊢
           have KH := Lib.hid (KY.out.below hbH)
           have HKH := Lib.hid (HKY.out.below hbH)
           have HZH := Lib.hid (HZY.out.below hbH)
           have HXH : CAt Y2 w3.heap.size 53 _ := HXY2.below hbH HXY2.lt
           clear hbH hY2
           refine hK.out _ _ ⟨HXH.cell (j := 0) (by simp), HXH.cell (j := 1) (by simp), HXH.cell (j := 2) (by simp), HXH.cell (j := 3) (by simp), HXH.cell (j := 4) (by simp), HXH.cell (j := 5) (by simp)⟩ (fun hHeld => ?_)
           clear hK K
           (try simp only [Act.put, nA, nB, nC])
           refine wpAnyH_ready (rs := [12]) (by kernel_rfl) (by simp) ?_
           refine AllReadyH.cons rfl (fun K hK => ?_) AllReadyH.nil
           (try rw [if_pos (by kernel_rfl)])
           refine El.op_app1 eH Y2 137 _ 112 Try.underlying137 half_info rfl (by decide) (by decide) (.tmp 50) (.tmp 61) rfl w.heap.size (.slice A3 rs4.length c3) rs4.reverse rfl KH.out.r Y.heap.size 1 (⟨.mk 7 0 [] [] (hd v4).tx (some ⟨gk, 0, none⟩) 1 [.mk k4 n4 m4 f4 q4 A4 c4 ks4], nb, []⟩ : HM) rfl 139 hcH (by rw [List.length_reverse]; have := KH.out.n.2; have := KH.out.p.n; omega) KH.out.g.size ?_
           intro v9 Z ho9 hg9
           have hbZ : ButT 139 Y2 Z := ButT.grown hg9 (fun k e => KH.out.r.has k e)
           have HXZ : CAt Z w3.heap.size 53 _ := (hbZ w3.heap.size _ ⟨_, _, HXH⟩ (by decide)).trans HXH
           have hisM : HM.Is (⟨.mk 7 0 [] [] (hd v4).tx (some ⟨gk, 0, none⟩) 1 [.mk k4 n4 m4 f4 q4 A4 c4 ks4], nb, []⟩ : HM) (.bin (hd v4).tx y nb) Y2 (fun g => w.heap.size < g) := ⟨by rw [XT.d, xsd, xsd, hzd]; rfl, rfl, rfl, Nat.le_refl _, by rw [XT.Ok, xsOk, xsOk]; exact ⟨⟨HKH.out, Nat.le_refl _, fun e => (by cases e), fun _ a e => by injection e with e; subst e; exact hgk⟩, HZH.out, trivial⟩⟩
           have KZ := Lib.hid (KH.out.push (hh := .bin (hd v4).tx y nb) hg9 ho9 hisM (by have h7 := K6.out.n.2; have h8 := tail_len hne4; omega))
           obtain ⟨A9, n9, c9, rfl, _, _, _, _⟩ := ho9.formN
           change K (Act.put _ (some 62) (.slice A9 n9 c9)) Z
           refine hK.out _ _ ⟨HXZ.cell (j := 0) (by simp), HXZ.cell (j := 1) (by simp), HXZ.cell (j := 2) (by simp), HXZ.cell (j := 3) (by simp), HXZ.cell (j := 4) (by simp), HXZ.cell (j := 5) (by simp)⟩ (fun hHeld => ?_)
           clear hK K
           (try simp only [Act.put, nA, nB, nC])
           refine heldTake (i := 13) (d := some 3) (v := ?_) rfl rfl (by kernel_rfl) (by kernel_rfl) (by kernel_rfl) (fun _ _ _ h => h) (by kernel_rfl) ?hyq_10 (by assumption) ?restq_10
           case hyq_10 => (intro W9 hSw; (try dsimp only at hSw); go_simp; try (with_reducible rfl))
           (try simp only [Act.put, nA, nB, nC])
           refine wpAnyH_done (by kernel_rfl) ?_ _
           go_wp2_with fail
           go_roundw
           case rel => exact ⟨(⟨.mk 7 0 [] [] (hd v4).tx (some ⟨gk, 0, none⟩) 1 [.mk k4 n4 m4 f4 q4 A4 c4 ks4], nb, []⟩ : HM) :: rs4, .bin (hd v4).tx y nb :: o4, v4.tail, KZ, HR4⟩
           case measure =>
            have h1 := KZ.out.p.lft
            have h2 := hX.out.p.lft
            have h8 := tail_len hne4
            rw [h1, h2]
            omega
         · go_simp
           have hbS := (below_lnew w6 (.cells #[.int .u8 k4, .int .i64 n4, .string (str m4), .string (str f4), .string (str q4), .slice A4 ks4.length c4] 53)).drew
           have HKS := Lib.hid (show eX.LiesT (w6.alloc (.cells #[.int .u8 k4, .int .i64 n4, .string (str m4), .string (str f4), .string (str q4), .slice A4 ks4.length c4] 53)).drew (some ⟨w6.heap.size, 0, none⟩) [.mk k4 n4 m4 f4 q4 A4 c4 ks4] from El.liesT_new eX w6 [.mk k4 n4 m4 f4 q4 A4 c4 ks4] #[.int .u8 k4, .int .i64 n4, .string (str m4), .string (str f4), .string (str q4), .slice A4 ks4.length c4] (fun i v h => by simpa [eX, XT.cs] using h))
           have KS := Lib.hid (K6.out.below hbS)
           have HZS := Lib.hid (HZ6.out.below hbS)
           have HXS := Lib.hid (show CAt (w6.alloc (.cells #[.int .u8 k4, .int .i64 n4, .string (str m4), .string (str f4), .string (str q4), .slice A4 ks4.length c4] 53)).drew w3.heap.size 53 _ from HX6.out.below hbS HX6.out.lt)
           have hgk : w.heap.size < w6.heap.size := K6.out.a.lt
           obtain ⟨Y1, hY⟩ : ∃ Y1, (w6.alloc (.cells #[.int .u8 k4, .int .i64 n4, .string (str m4), .string (str f4), .string (str q4), .slice A4 ks4.length c4] 53)).drew = Y1 := ⟨_, rfl⟩
           rw [hY] at HKS KS HZS HXS ⊢
           obtain ⟨gk, hgk8⟩ : ∃ gk, w6.heap.size = gk := ⟨_, rfl⟩
           rw [hgk8] at HKS hgk
           (try rw [hgk8])
           have HXS2 : CAt Y1 w3.heap.size 53 _ := HXS.out
           clear hbS hY hgk8
           refine hK.out _ _ ⟨HXS2.cell (j := 0) (by simp), HXS2.cell (j := 1) (by simp), HXS2.cell (j := 2) (by simp), HXS2.cell (j := 3) (by simp), HXS2.cell (j := 4) (by simp), HXS2.cell (j := 5) (by simp)⟩ (fun hHeld => ?_)
           clear hK K
           (try simp only [Act.put, nA, nB, nC])
           refine wpAnyH_ready (rs := [4]) (by kernel_rfl) (by simp) ?_
           refine AllReadyH.cons rfl (fun K hK => ?_) AllReadyH.nil
           go_simp
           go_at_call 70
           refine (one_yes KS.out.p 4 (by decide) hk4).mono ?_
           rintro e9 Y ⟨rfl, hpO, hgO⟩
           have KO := Lib.hid (KS.out.step hpO hgO (by simp))
           have hbO : ButT 57 _ Y := ButT.grown hgO (fun k e => by injection e with e; subst e; exact KS.out.p.has)
           have HXO := Lib.hid ((hbO w3.heap.size _ ⟨_, _, HXS.out⟩ (by decide)).trans HXS.out)
           have HKY := Lib.hid (HKS.out.but hbO (by decide))
           have HZY := Lib.hid (XT.Ok.keep (fun g _ ht => hbO g _ ht (by decide)) (fun _ q => q) _ HZS.out)
           have KY := Lib.hid KO.out
           have HXY2 : CAt Y w3.heap.size 53 _ := HXO.out
           unfold tV tS
           go_wp2_with fail
           refine hK.out _ _ ⟨HXY2.cell (j := 0) (by simp), HXY2.cell (j := 1) (by simp), HXY2.cell (j := 2) (by simp), HXY2.cell (j := 3) (by simp), HXY2.cell (j := 4) (by simp), HXY2.cell (j := 5) (by simp)⟩ (fun hHeld => ?_)
           clear hK K
           (try simp only [Act.put, nA, nB, nC])
           refine heldTake (i := 5) (d := some 55) (v := ?_) rfl rfl (by kernel_rfl) (by kernel_rfl) (by kernel_rfl) (fun _ _ _ h => h) (by kernel_rfl) ?hyq_11 (by assumption) ?restq_11
           case hyq_11 => (intro W9 hSw; (try dsimp only at hSw); go_simp; try (with_reducible rfl))
           (try simp only [Act.put, nA, nB, nC])
           refine heldTake (i := 8) (d := some 58) (v := ?_) rfl rfl (by kernel_rfl) (by kernel_rfl) (by kernel_rfl) (fun _ _ _ h => h) (by kernel_rfl) ?hyq_12 (by assumption) ?restq_12
           case hyq_12 => (intro W9 hSw; (try dsimp only at hSw); go_simp; try (with_reducible rfl))
           (try simp only [Act.put, nA, nB, nC])
           refine heldTake (i := 10) (d := some 60) (v := ?_) rfl rfl (by kernel_rfl) (by kernel_rfl) (by kernel_rfl) (fun _ _ _ h => h) (by kernel_rfl) ?hyq_13 (by assumption) ?restq_13
           case hyq_13 => (intro W9 hSw; (try dsimp only at hSw); go_simp; try (with_reducible rfl))
           (try simp only [Act.put, nA, nB, nC])
           refine wpAnyH_ready (rs := [11]) (by kernel_rfl) (by simp) ?_
           refine AllReadyH.cons rfl (fun K hK => ?_) AllReadyH.nil
           go_simp
           have hbH := below_lnew Y (.cells #[.int .u8 7, .int .i64 0, .string ⟨#[]⟩, .string ⟨#[]⟩, .string (str (hd v4).tx), .slice (some ⟨gk, 0, none⟩) 1 1, .int .i64 nb, .string ⟨#[]⟩] 139)
           have hcH := heap_alloc_new Y (.cells #[.int .u8 7, .int .i64 0, .string ⟨#[]⟩, .string ⟨#[]⟩, .string (str (hd v4).tx), .slice (some ⟨gk, 0, none⟩) 1 1, .int .i64 nb, .string ⟨#[]⟩] 139)
           obtain ⟨Y2, hY2⟩ : ∃ Y2, Y.alloc (.cells #[.int .u8 7, .int .i64 0, .string ⟨#[]⟩, .string ⟨#[]⟩, .string (str (hd v4).tx), .slice (some ⟨gk, 0, none⟩) 1 1, .int .i64 nb, .string ⟨#[]⟩] 139) = Y2 := ⟨_, rfl⟩
           rw [hY2] at hbH hcH ⊢
           have KH := Lib.hid (KY.out.below hbH)
           have HKH := Lib.hid (HKY.out.below hbH)
           have HZH := Lib.hid (HZY.out.below hbH)
           have HXH : CAt Y2 w3.heap.size 53 _ := HXY2.below hbH HXY2.lt
           clear hbH hY2
           refine hK.out _ _ ⟨HXH.cell (j := 0) (by simp), HXH.cell (j := 1) (by simp), HXH.cell (j := 2) (by simp), HXH.cell (j := 3) (by simp), HXH.cell (j := 4) (by simp), HXH.cell (j := 5) (by simp)⟩ (fun hHeld => ?_)
           clear hK K
           (try simp only [Act.put, nA, nB, nC])
           refine wpAnyH_ready (rs := [12]) (by kernel_rfl) (by simp) ?_
           refine AllReadyH.cons rfl (fun K hK => ?_) AllReadyH.nil
           (try rw [if_pos (by kernel_rfl)])
           refine El.op_app1 eH Y2 137 _ 112 Try.underlying137 half_info rfl (by decide) (by decide) (.tmp 50) (.tmp 61) rfl w.heap.size (.slice A3 rs4.length c3) rs4.reverse rfl KH.out.r Y.heap.size 1 (⟨.mk 7 0 [] [] (hd v4).tx (some ⟨gk, 0, none⟩) 1 [.mk k4 n4 m4 f4 q4 A4 c4 ks4], nb, []⟩ : HM) rfl 139 hcH (by rw [List.length_reverse]; have := KH.out.n.2; have := KH.out.p.n; omega) KH.out.g.size ?_
           intro v9 Z ho9 hg9
           have hbZ : ButT 139 Y2 Z := ButT.grown hg9 (fun k e => KH.out.r.has k e)
           have HXZ : CAt Z w3.heap.size 53 _ := (hbZ w3.heap.size _ ⟨_, _, HXH⟩ (by decide)).trans HXH
           have hisM : HM.Is (⟨.mk 7 0 [] [] (hd v4).tx (some ⟨gk, 0, none⟩) 1 [.mk k4 n4 m4 f4 q4 A4 c4 ks4], nb, []⟩ : HM) (.bin (hd v4).tx y nb) Y2 (fun g => w.heap.size < g) := ⟨by rw [XT.d, xsd, xsd, hzd]; rfl, rfl, rfl, Nat.le_refl _, by rw [XT.Ok, xsOk, xsOk]; exact ⟨⟨HKH.out, Nat.le_refl _, fun e => (by cases e), fun _ a e => by injection e with e; subst e; exact hgk⟩, HZH.out, trivial⟩⟩
           have KZ := Lib.hid (KH.out.push (hh := .bin (hd v4).tx y nb) hg9 ho9 hisM (by have h7 := K6.out.n.2; have h8 := tail_len hne4; omega))
           obtain ⟨A9, n9, c9, rfl, _, _, _, _⟩ := ho9.formN
           change K (Act.put _ (some 62) (.slice A9 n9 c9)) Z
           refine hK.out _ _ ⟨HXZ.cell (j := 0) (by simp), HXZ.cell (j := 1) (by simp), HXZ.cell (j := 2) (by simp), HXZ.cell (j := 3) (by simp), HXZ.cell (j := 4) (by simp), HXZ.cell (j := 5) (by simp)⟩ (fun hHeld => ?_)
           clear hK K
           (try simp only [Act.put, nA, nB, nC])
           refine heldTake (i := 13) (d := some 3) (v := ?_) rfl rfl (by kernel_rfl) (by kernel_rfl) (by kernel_rfl) (fun _ _ _ h => h) (by kernel_rfl) ?hyq_14 (by assumption) ?restq_14
           case hyq_14 => (intro W9 hSw; (try dsimp only at hSw); go_simp; try (with_reducible rfl))
           (try simp only [Act.put, nA, nB, nC])
           refine wpAnyH_done (by kernel_rfl) ?_ _
           go_wp2_with fail
           go_roundw
           case rel => exact ⟨(⟨.mk 7 0 [] [] (hd v4).tx (some ⟨gk, 0, none⟩) 1 [.mk k4 n4 m4 f4 q4 A4 c4 ks4], nb, []⟩ : HM) :: rs4, .bin (hd v4).tx y nb :: o4, v4.tail, KZ, HR4⟩
           case measure =>
            have h1 := KZ.out.p.lft
            have h2 := hX.out.p.lft
            have h8 := tail_len hne4
            rw [h1, h2]
            omega
     · rw [hlp] at hlf HR3
       obtain ⟨rfl, hp2, hg2⟩ := hlf
       have hF : r = .bad v := HR3.out
       have hg := grown_trans hX3.out.g hg2
       clear HR3 HLV hX3 hlp hk3
       go_wp2_with fail
       subst hF
       exact ⟨rfl, rfl, hp2, hg⟩
     · exact absurd hlp (leafP_out _)
   · have h9 := hI3.out
     dsimp only [InH] at h9
     obtain ⟨⟨⟨k1, n1, m1, f1, q1, A1, c1, ks1⟩, b1, en1⟩, hh, hc, his, hr3, hl3⟩ := h9
     unfold HM.cs XT.cs at hc
     dsimp only [List.cons_append, List.nil_append] at hc
     have x0 := hc.cell (j := 0) (by simp)
     have xf0 := hc.frozen 0
     have x1 := hc.cell (j := 1) (by simp)
     have xf1 := hc.frozen 1
     have x2 := hc.cell (j := 2) (by simp)
     have xf2 := hc.frozen 2
     have x3 := hc.cell (j := 3) (by simp)
     have xf3 := hc.frozen 3
     have x4 := hc.cell (j := 4) (by simp)
     have xf4 := hc.frozen 4
     have x5 := hc.cell (j := 5) (by simp)
     have xf5 := hc.frozen 5
     have x6 := hc.cell (j := 6) (by simp)
     have xf6 := hc.frozen 6
     have x7 := hc.cell (j := 7) (by simp)
     have xf7 := hc.frozen 7
     simp only [List.getElem_cons_zero, List.getElem_cons_succ] at x0 x1 x2 x3 x4 x5 x6 x7
     have HIS := Lib.hid his
     have HR3 := Lib.hid hr3
     have HC := Lib.hid hc
     have hrl : rs3.reverse.length ≤ 1000000 := by have := hX3.out.n.2; have := hX3.out.p.n; rw [List.length_reverse]; omega
     have hsz3 : w.heap.size ≤ (wr.alloc (.cells #[.int .u8 k1, .int .i64 n1, .string (str m1), .string (str f1), .string (str q1), .slice A1 ks1.length c1, .int .i64 b1, .string (str en1)] 139)).heap.size := by have := hX3.out.g.size; simp; omega
     clear his hr3 hc
     go_wp2_with (at_builtin
                  go_must (refine El.app1 eH _ rfl 137 _ 112 Try.underlying137 half_info rfl (by decide) (by decide) (.tmp 20) (.tmp 22) rfl w.heap.size _ rs3.reverse rfl (hX3.out.r.below (below_lnew wr _)) wr.heap.size 1 ⟨.mk k1 n1 m1 f1 q1 A1 c1 ks1, b1, en1⟩ rfl 139 (heap_alloc_new wr _) hrl hsz3 ?_)
                  intro v6 w6 ho6 hg6
                  have K6 := Lib.hid ((hX3.out.below (below_lnew wr (.cells #[.int .u8 k1, .int .i64 n1, .string (str m1), .string (str f1), .string (str q1), .slice A1 ks1.length c1, .int .i64 b1, .string (str en1)] 139))).push (hh := hh) hg6 ho6 (HIS.out _ _) hl3)
                  have hghl := HC.out.lt
                  have hc6 := (hg6.block gh (by simp; omega) (fun q => hk3.out gh q.symm rfl)).trans (HC.out.below (below_lnew wr (.cells #[.int .u8 k1, .int .i64 n1, .string (str m1), .string (str f1), .string (str q1), .slice A1 ks1.length c1, .int .i64 b1, .string (str en1)] 139)) hghl)
                  have HK6 := Lib.hid (show ∀ k, v6.ownBlock = some k → k ≠ w6.heap.size from fun k e => by have := (ho6.lt k e).2.1; omega)
                  have HC6 := Lib.hid (show CAt w6 gh 139 _ from hc6)
                  obtain ⟨A6, n6, c6, rfl, hn6, _, _, _⟩ := ho6.formN
                  clear hc6 hg6 ho6 x0 x1 x2 x3 x4 x5 x6 x7 xf0 xf1 xf2 xf3 xf4 xf5 xf6 xf7
                  have hc6 := HC6.out
                  have x0 := hc6.cell (j := 0) (by simp)
                  have xf0 := hc6.frozen 0
                  have x1 := hc6.cell (j := 1) (by simp)
                  have xf1 := hc6.frozen 1
                  have x2 := hc6.cell (j := 2) (by simp)
                  have xf2 := hc6.frozen 2
                  have x3 := hc6.cell (j := 3) (by simp)
                  have xf3 := hc6.frozen 3
                  have x4 := hc6.cell (j := 4) (by simp)
                  have xf4 := hc6.frozen 4
                  have x5 := hc6.cell (j := 5) (by simp)
                  have xf5 := hc6.frozen 5
                  have x6 := hc6.cell (j := 6) (by simp)
                  have xf6 := hc6.frozen 6
                  have x7 := hc6.cell (j := 7) (by simp)
                  have xf7 := hc6.frozen 7
                  simp only [List.getElem_cons_zero, List.getElem_cons_succ] at x0 x1 x2 x3 x4 x5 x6 x7
                  clear hc6)
     have HB6 := Lib.hid (begin_any (K6.out.below (below_lnew w6 (.cells (HM.cs ⟨.mk k1 n1 m1 f1 q1 A1 c1 ks1, b1, en1⟩).toArray 139))).p)
     have HH6 := Lib.hid (half_at w6 ⟨.mk k1 n1 m1 f1 q1 A1 c1 ks1, b1, en1⟩)
     refine HB6.out.mono ?_
     rintro e w8 hb8
     obtain ⟨⟨⟨k9, n9, m9, f9, q9, A9, c9, ks9⟩, b9, en9⟩, bb8, u8, rfl, hp8, hg8, hl8, hM8⟩ := hb8.both
     have h6l := K6.out.g.size
     have hgp := K6.out.n.1
     have K8 := Lib.hid ((K6.out.below (below_lnew w6 (.cells (HM.cs ⟨.mk k1 n1 m1 f1 q1 A1 c1 ks1, b1, en1⟩).toArray 139))).step hp8 hg8 (by omega))
     have hc8 := (hg8.block w6.heap.size (by simp) (fun q => by injection q with q; omega)).trans HH6.out
     unfold HM.cs XT.cs at hc8
     dsimp only [List.cons_append, List.nil_append] at hc8
     have HC8 := Lib.hid (show CAt w8 w6.heap.size 139 _ from hc8)
     clear hc8
     have hc8 := HC8.out
     have y0 := hc8.cell (j := 0) (by simp)
     have yf0 := hc8.frozen 0
     have y1 := hc8.cell (j := 1) (by simp)
     have yf1 := hc8.frozen 1
     have y2 := hc8.cell (j := 2) (by simp)
     have yf2 := hc8.frozen 2
     have y3 := hc8.cell (j := 3) (by simp)
     have yf3 := hc8.frozen 3
     have y4 := hc8.cell (j := 4) (by simp)
     have yf4 := hc8.frozen 4
     have y5 := hc8.cell (j := 5) (by simp)
     have yf5 := hc8.frozen 5
     have y6 := hc8.cell (j := 6) (by simp)
     have yf6 := hc8.frozen 6
     have y7 := hc8.cell (j := 7) (by simp)
     have yf7 := hc8.frozen 7
     simp only [List.getElem_cons_zero, List.getElem_cons_succ] at y0 y1 y2 y3 y4 y5 y6 y7
     have h8l := hc8.lt
     have hglt : w.heap.size < w6.heap.size := by have h5 := K6.out.a.lt; exact h5
     have KX := Lib.hid (K8.out.setH hglt HK6.out ⟨_, _, HC8.out⟩ ⟨.mk k9 n9 m9 f9 q9 A9 c9 ks9, b9, en9⟩)
     have KI := Lib.hid (hM8 _ w6.heap.size (⟨.mk k1 n1 m1 f1 q1 A1 c1 ks1, b1, en1⟩ :: rs3) (hh :: o3) r (setH_at ⟨.mk k9 n9 m9 f9 q9 A9 c9 ks9, b9, en9⟩ HC8.out) (by have := K6.out.n.2; exact this) HR3.out)
     have HLF := Lib.hid (show lft (setH w8 w6.heap.size ⟨.mk k9 n9 m9 f9 q9 A9 c9 ks9, b9, en9⟩) gp l = u8.length from KX.out.p.lft)
     have HLW := Lib.hid (show lft wr gp l = u3.length from hX3.out.p.lft)
     unfold hV HM.cs XT.cs
     dsimp only
     simp only [List.cons_append, List.nil_append]
     clear hc8 hM8 hp8 hg8 hb8 HB6 hX3 hI3 HC HC6 K8
     go_wp2_with fail
     go_roundw
     case rel => exact ⟨⟨.mk k1 n1 m1 f1 q1 A1 c1 ks1, b1, en1⟩ :: rs3, hh :: o3, u8, w6.heap.size, bb8, rfl, rfl, hglt, by omega, HK6, KX, KI⟩
     case measure =>
      have h1 := HLF.out
      have h2 := HLW.out
      unfold setH setE at h1
      dsimp only at h1
      rw [h1, h2]
      cases bb8 <;> simp [b01] <;> simp at hl8 <;> omega
end
end Go.Proofs.Ytjllbacefbjjaaa
