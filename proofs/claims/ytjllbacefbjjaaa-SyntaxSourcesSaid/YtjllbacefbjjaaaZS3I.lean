/-
  Merged for a claim: S3I.
-/
import Derived.Test.YtjllbacefbjjaaaZS3H
namespace Go.Proofs.Ytjllbacefbjjaaa
open Go Go.RowKit

def zDc : List Value := [.string ⟨#[]⟩, .int .i64 0, .slice none 0 0, .int .u8 0, .int .i64 0, .string ⟨#[]⟩, .slice none 0 0]
def RD (w : World) (gp : Nat) (A : Option Addr) (c : Nat) (l u : List To) (fl : Bool) (r : R Dc) (e : Ending) (w' : World) : Prop :=
 ∃ (d : DcM) (u' : List To) (f' : Bool), e = .returned (.agg d.cs.toArray) ∧ Ans fl u r d.d u' f' ∧ d.Ok w' (fun g => w.heap.size ≤ g) ∧ Rp w' gp A c l u' f' ∧ w.grownBy w' (some gp)
theorem dc_back {fn : Func} {p : Tmp} (h : fn.results = #[.cell p 48]) {tmps : Array Value} {w : World} {g : Nat} (hp : tmps.getD p undef = .pointer (some ⟨g, 0, none⟩))
 {d : DcM} (hg : CAt w g 48 d.cs) : (results fn tmps).run Try.prog w = .ok (.agg d.cs.toArray) w := by
 cases d
 exact results_cell_row h tmps w g _ _ _ _ hp hg Try.underlying48 rfl dc_size
def putD (W : World) (g : Nat) (d : DcM) : World := ((((((W.setCell ⟨g, 0, none⟩ (.string (str d.nm))).setCell ⟨g, 1, none⟩ (.int .i64 d.ln)).setCell ⟨g, 2, none⟩ (.slice d.pA d.ps.length d.pc)).setCell ⟨g, 3, none⟩ (.int .u8 d.rs.kd)).setCell ⟨g, 4, none⟩ (.int .i64 d.rs.n)).setCell ⟨g, 5, none⟩ (.string (str d.rs.nm))).setCell ⟨g, 6, none⟩ (.slice d.bA d.bd.length d.bc)
def dcC (nm : List UInt8) (ln : Int) (rs : Ty) (vb : Value) (v : Value) : List Value := [.string (str nm), .int .i64 ln, v, .int .u8 rs.kd, .int .i64 rs.n, .string (str rs.nm), vb]
section
variable {w W1 W Z : World} {gp gs pb : Nat} {A : Option Addr} {c : Nat} {l u u' : List To} {fl f' : Bool} {vc v v9 : Value} {ps : List Pm} {nm : List UInt8} {ln : Int} {rs : Ty} {vb : Value} {T : World → Prop}
abbrev FnW (W1 : World) (gp gs : Nat) (A : Option Addr) (c : Nat) (l : List To) (nm : List UInt8) (ln : Int) (rs : Ty) (vb v : Value) (ps : List Pm) (W : World) (u : List To) (fl : Bool) : Prop := RwD ePm 48 (dcC nm ln rs vb) (fun _ => True) W1 gp gs A c l v v ps W u fl
theorem FnW.new (h : Rp W1 gp A c l u fl) : FnW W1 gp W1.heap.size A c l nm ln ty0 (.slice none 0 0) (.slice none 0 0) [] (W1.alloc (.cells #[.string (str nm), .int .i64 ln, .slice none 0 0, .int .u8 0, .int .i64 0, .string ⟨#[]⟩, .slice none 0 0] 48)) u fl :=
 ⟨h.next (below_lnew W1 _), heap_alloc_new W1 _, El.Own.nil _ _, trivial, grown_below (below_lnew W1 _) _, ⟨h.lt, Nat.le_refl _⟩, fun _ _ _ _ => trivial, by decide, by decide, by decide⟩
theorem FnW.cells (h : RwD ePm 48 (dcC nm ln rs vb) T W1 gp gs A c l vc v ps W u fl) : (W.cell? ⟨gs, 0, none⟩ = some (.string (str nm)) ∧ W.cell? ⟨gs, 1, none⟩ = some (.int .i64 ln) ∧ W.cell? ⟨gs, 2, none⟩ = some vc ∧ W.cell? ⟨gs, 3, none⟩ = some (.int .u8 rs.kd) ∧ W.cell? ⟨gs, 4, none⟩ = some (.int .i64 rs.n) ∧ W.cell? ⟨gs, 5, none⟩ = some (.string (str rs.nm)) ∧ W.cell? ⟨gs, 6, none⟩ = some vb) ∧
 (W.frozen? ⟨gs, 0, none⟩ = false ∧ W.frozen? ⟨gs, 1, none⟩ = false ∧ W.frozen? ⟨gs, 2, none⟩ = false ∧ W.frozen? ⟨gs, 3, none⟩ = false ∧ W.frozen? ⟨gs, 4, none⟩ = false ∧ W.frozen? ⟨gs, 5, none⟩ = false ∧ W.frozen? ⟨gs, 6, none⟩ = false) :=
 ⟨⟨h.s.cell (j := 0) (by simp [dcC]), h.s.cell (j := 1) (by simp [dcC]), h.s.cell (j := 2) (by simp [dcC]), h.s.cell (j := 3) (by simp [dcC]), h.s.cell (j := 4) (by simp [dcC]), h.s.cell (j := 5) (by simp [dcC]), h.s.cell (j := 6) (by simp [dcC])⟩, h.s.frozen 0, h.s.frozen 1, h.s.frozen 2, h.s.frozen 3, h.s.frozen 4, h.s.frozen 5, h.s.frozen 6⟩
theorem zDc_cells {z : Nat} (h : CAt W z 48 zDc) : (W.cell? ⟨z, 0, none⟩ = some (.string ⟨#[]⟩) ∧ W.cell? ⟨z, 1, none⟩ = some (.int .i64 0) ∧ W.cell? ⟨z, 2, none⟩ = some (.slice none 0 0) ∧ W.cell? ⟨z, 3, none⟩ = some (.int .u8 0) ∧ W.cell? ⟨z, 4, none⟩ = some (.int .i64 0) ∧ W.cell? ⟨z, 5, none⟩ = some (.string ⟨#[]⟩) ∧ W.cell? ⟨z, 6, none⟩ = some (.slice none 0 0)) ∧
 (W.frozen? ⟨z, 0, none⟩ = false ∧ W.frozen? ⟨z, 1, none⟩ = false ∧ W.frozen? ⟨z, 2, none⟩ = false ∧ W.frozen? ⟨z, 3, none⟩ = false ∧ W.frozen? ⟨z, 4, none⟩ = false ∧ W.frozen? ⟨z, 5, none⟩ = false ∧ W.frozen? ⟨z, 6, none⟩ = false) :=
 ⟨⟨h.cell (j := 0) (by simp [zDc]), h.cell (j := 1) (by simp [zDc]), h.cell (j := 2) (by simp [zDc]), h.cell (j := 3) (by simp [zDc]), h.cell (j := 4) (by simp [zDc]), h.cell (j := 5) (by simp [zDc]), h.cell (j := 6) (by simp [zDc])⟩, h.frozen 0, h.frozen 1, h.frozen 2, h.frozen 3, h.frozen 4, h.frozen 5, h.frozen 6⟩
structure PmW (W1 : World) (gp gs pb : Nat) (A : Option Addr) (c : Nat) (l : List To) (nm : List UInt8) (ln : Int) (v : Value) (ps : List Pm) (p : Pm) (W : World) (u : List To) (fl : Bool) : Prop where
 r : FnW W1 gp gs A c l nm ln ty0 (.slice none 0 0) v ps W u fl
 x : CAt W pb 75 (ePm.f p)
 n : W1.heap.size ≤ pb ∧ pb ≠ gs ∧ ∀ k, v.ownBlock = some k → k ≠ pb
theorem PmW.new (h : FnW W1 gp gs A c l nm ln ty0 (.slice none 0 0) v ps W u fl) (p : Pm) (hp : p.ty = ty0) : PmW W1 gp gs W.heap.size A c l nm ln v ps p (W.alloc (.cells #[.string (str p.nm), .int .u8 0, .int .i64 0, .string ⟨#[]⟩] 75)) u fl := by
 obtain ⟨n, t⟩ := p
 dsimp only at hp
 subst hp
 refine ⟨h.below (below_lnew W _), heap_alloc_new W _, h.g.size, ?_, fun k e => ?_⟩
 · have := h.s.lt
   omega
 · have := (h.r.lt k e).2.1
   omega
theorem PmW.step {p : Pm} (h : PmW W1 gp gs pb A c l nm ln v ps p W u fl) (hp : Rp Z gp A c l u' f') (hg : W.grownBy Z (some gp)) : PmW W1 gp gs pb A c l nm ln v ps p Z u' f' :=
 ⟨h.r.step hp hg, (hg.block pb h.x.lt (fun e => by injection e with e; have := h.n.1; have := h.r.n.1; omega)).trans h.x, h.n⟩
theorem PmW.setTy {p : Pm} (h : PmW W1 gp gs pb A c l nm ln v ps p W u fl) (t : Ty) : PmW W1 gp gs pb A c l nm ln v ps ⟨p.nm, t⟩ (((W.setCell ⟨pb, 1, none⟩ (.int .u8 t.kd)).setCell ⟨pb, 2, none⟩ (.int .i64 t.n)).setCell ⟨pb, 3, none⟩ (.string (str t.nm))) u fl := by
 obtain ⟨W9, hW9⟩ : ∃ W9, ((W.setCell ⟨pb, 1, none⟩ (.int .u8 t.kd)).setCell ⟨pb, 2, none⟩ (.int .i64 t.n)).setCell ⟨pb, 3, none⟩ (.string (str t.nm)) = W9 := ⟨_, rfl⟩
 have hn := h.n
 have hrn := h.r.n
 have key : ∀ k, k ≠ pb → W9.heap[k]? = W.heap[k]? := fun k hk => by
  rw [← hW9, Below.heap_setCell _ _ _ k hk, Below.heap_setCell _ _ _ k hk, Below.heap_setCell _ _ _ k hk]
 have hB : Below W1.heap.size W W9 := by
  rw [← hW9]
  exact (((Below.refl _ W).setCell (p := ⟨pb, 1, none⟩) hn.1 _).setCell (p := ⟨pb, 2, none⟩) hn.1 _).setCell (p := ⟨pb, 3, none⟩) hn.1 _
 have hx : CAt W9 pb 75 (ePm.f ⟨p.nm, t⟩) := by
  rw [← hW9]
  exact ((h.x.set 1 _).set 2 _).set 3 _
 rw [hW9]
 exact ⟨⟨h.r.p.below hB hrn.1, (key gs (fun e => hn.2.1 e.symm)).trans h.r.s, h.r.r.blk (fun k e => key k (hn.2.2 k e)), trivial, grown_new h.r.g hB, hrn, h.r.kx, h.r.t⟩, hx, hn⟩
theorem PmW.cells {p : Pm} (h : PmW W1 gp gs pb A c l nm ln v ps p W u fl) : (W.cell? ⟨pb, 0, none⟩ = some (.string (str p.nm)) ∧ W.cell? ⟨pb, 1, none⟩ = some (.int .u8 p.ty.kd) ∧ W.cell? ⟨pb, 2, none⟩ = some (.int .i64 p.ty.n) ∧ W.cell? ⟨pb, 3, none⟩ = some (.string (str p.ty.nm))) ∧ W.frozen? ⟨pb, 0, none⟩ = false ∧ W.frozen? ⟨pb, 1, none⟩ = false ∧ W.frozen? ⟨pb, 2, none⟩ = false ∧ W.frozen? ⟨pb, 3, none⟩ = false :=
 ⟨⟨h.x.cell (j := 0) (by simp [ePm]), h.x.cell (j := 1) (by simp [ePm]), h.x.cell (j := 2) (by simp [ePm]), h.x.cell (j := 3) (by simp [ePm])⟩, h.x.frozen 0, h.x.frozen 1, h.x.frozen 2, h.x.frozen 3⟩
theorem PmW.kind {p : Pm} (h : PmW W1 gp gs pb A c l nm ln v ps p W u fl) (mu : Bool) :
 Calls Try.prog 40 #[.pointer (some ⟨gp, 0, none⟩), .bool mu] W (fun e W' => ∃ t u' f', e = .returned (tyV t) ∧ Hid (Ans fl u (tyR mu u) t u' f') ∧ PmW W1 gp gs pb A c l nm ln v ps p W' u' f') :=
 (rkind_any h.r.p mu).mono fun _ _ ⟨t, u', f', he, ha, hp, hg⟩ => ⟨t, u', f', he, Lib.hid ha, h.step hp hg⟩
theorem dcd_end {fn : Func} {p : Tmp} {r : R Dc} {u0 : List To} {fl0 : Bool} {z : Nat} {pA bA : Option Addr} {pc bc : Nat} {bd : List XS} (hf : fn.results = #[.cell p 48]) {tmps : Array Value} (hp : tmps.getD p undef = .pointer (some ⟨z, 0, none⟩))
 (h : FnW W1 gp gs A c l nm ln rs (.slice bA bd.length bc) (.slice pA ps.length pc) ps W u fl) (hb : RowP eSt W (fun g => W1.heap.size ≤ g) bA bc bd ∧ xssOk W (fun g => W1.heap.size ≤ g) bd) (hz : CAt W1 z 48 zDc) (hwz : w.heap.size ≤ z) (hgp : gp < w.heap.size) (hg1 : w.grownBy W1 (some gp))
 {W9 : World} (hW : W9 = putD W z ⟨nm, ln, pA, pc, ps, rs, bA, bc, bd⟩) (hr : Ans fl0 u0 r ⟨nm, ln, ps, rs, xssd bd⟩ u fl) :
 bodyPost Try.prog fn (RD w gp A c l u0 fl0 r) .ret { tmps := tmps, defers := [] } W9 := by
 have hzW : CAt W z 48 zDc := (h.g.block z hz.lt (fun e => by injection e with e; omega)).trans hz
 have hB : Below w.heap.size W W9 := by
  rw [hW]
  exact (((((((Below.refl _ W).setCell (p := ⟨z, 0, none⟩) hwz _).setCell (p := ⟨z, 1, none⟩) hwz _).setCell (p := ⟨z, 2, none⟩) hwz _).setCell (p := ⟨z, 3, none⟩) hwz _).setCell (p := ⟨z, 4, none⟩) hwz _).setCell (p := ⟨z, 5, none⟩) hwz _).setCell (p := ⟨z, 6, none⟩) hwz _
 have key : ∀ k, k ≠ z → W9.heap[k]? = W.heap[k]? := fun k hk => by
  rw [hW]
  unfold putD
  rw [Below.heap_setCell _ _ _ k hk, Below.heap_setCell _ _ _ k hk, Below.heap_setCell _ _ _ k hk, Below.heap_setCell _ _ _ k hk, Below.heap_setCell _ _ _ k hk, Below.heap_setCell _ _ _ k hk, Below.heap_setCell _ _ _ k hk]
 have hc : CAt W9 z 48 (DcM.cs ⟨nm, ln, pA, pc, ps, rs, bA, bc, bd⟩) := by
  rw [hW]
  exact ((((((hzW.set 0 _).set 1 _).set 2 _).set 3 _).set 4 _).set 5 _).set 6 _
 have hlz := hz.lt
 have hs := hg1.size
 obtain ⟨A2, c2, e2, hrow⟩ := h.r.rowP
 injection e2 with e2 _ e3
 subst e2 e3
 have k2 : ∀ g, W1.heap.size ≤ g → W9.heap[g]? = W.heap[g]? := fun g q => key g (by omega)
 refine bodyPost_ret (dc_back hf hp hc) rfl ⟨_, u, fl, rfl, hr, ⟨hrow.keep (fun g q _ => k2 g q) (fun g q => Nat.le_trans hs q), hb.1.keep (fun g q _ => k2 g q) (fun g q => Nat.le_trans hs q), xssOk.keep (fun g q _ => k2 g q) (fun g q _ => k2 g q) (fun g q => Nat.le_trans hs q) bd hb.2⟩, h.p.below hB hgp, grown_new (grown_trans hg1 h.g) hB⟩
set_option maxRecDepth 100000 in
set_option maxHeartbeats 1000000 in
theorem rfunction_any (h : Rp w gp A c l u fl) (ln : Int) : Calls Try.prog 24 #[.pointer (some ⟨gp, 0, none⟩), .int .i64 ln] w (RD w gp A c l u fl (fnR ln u)) := by
 have HGP := Lib.hid h.lt
 have H0 := Lib.hid (Rw.new h 48 zDc)
 obtain ⟨r, hr⟩ : ∃ r, fnR ln u = r := ⟨_, rfl⟩
 rw [hr]
 have HR := Lib.hid hr.symm
 clear h hr
 go_enter Try.func24, Try.ntmps24
 go_wp2_with fail
 refine (H0.out.name).mono ?_
 rintro e W1 ⟨t, u1, g1, rfl, HA0, K0⟩
 have HZ := Lib.hid K0.z
 have HG1 := Lib.hid K0.g
 have K1 := Lib.hid (FnW.new (nm := t.tx) (ln := ln) K0.p)
 have lz := K0.z.lt
 clear K0 H0
 have lgp := HGP.out
 go_wp2_with fail
 refine (K1.out.sign [40] (by decide)).mono ?_
 rintro e W2 ⟨rfl, u2, g2, HAs, K2⟩
 have K2 := Lib.hid K2
 clear K1
 go_wp2_with fail
 have HI := Lib.hid (PmI.new u2 g2)
 have HN := Lib.hid (show u2.length ≤ l.length by obtain ⟨k, _, hk, _⟩ := K2.out.p.k; rw [hk]; simp)
 go_loopw [] (fun wr => ∃ (ps : List Pm) (vp : Value) (v : List To) (f : Bool), Hid (FnW W1 gp W1.heap.size A c l t.tx ln ty0 (.slice none 0 0) vp ps wr v f) ∧ Hid (PmI (lisP pmP u2) g2 u2 ps v f) ∧ Hid (f = false → ps.length + v.length ≤ l.length)) (fun wr => lfR wr gp l)
 case atStart => exact ⟨[], _, u2, g2, K2, HI, Lib.hid (fun _ => by simpa using HN.out)⟩
 case round =>
  clear K2 HI HN
  obtain ⟨ps, vp, v, f, K, HI, HM⟩ := hrel
  obtain ⟨pA, pc, rfl, _⟩ := K.out.r.rowP
  have HME := Lib.hid K.out.p.lfR
  obtain ⟨p2, pf2, lg, _, _, _⟩ := K.out.fl_
  cases f with
  | true =>
   go_wp2_with fail
   refine (K.out.sign [41] (by decide)).mono ?_
   rintro e Y1 ⟨rfl, v1, f1, HA1, M1⟩
   have M1 := Lib.hid M1
   clear K
   go_wp2_with fail
   refine (M1.out.kind false).mono ?_
   rintro e Y2 ⟨rs, v2, f2, rfl, HA2, M2⟩
   have M2 := Lib.hid M2
   clear M1
   obtain ⟨⟨fc0, fc1, fc2, fc3, fc4, fc5, fc6⟩, ff0, ff1, ff2, ff3, ff4, ff5, ff6⟩ := FnW.cells M2.out
   obtain ⟨_, _, l1, l2, l3, l4⟩ := RwD.fl_ M2.out
   unfold tyV tyS
   go_wp2_with fail
   clear fc0 fc1 fc2 fc3 fc4 fc5 fc6 ff0 ff1 ff2 ff3 ff4 ff5 ff6 l1 l2 l3 l4
   have M3 := Lib.hid (RwD.cell (cs' := dcC t.tx ln rs (.slice none 0 0)) (RwD.cell (cs' := dcC t.tx ln ⟨rs.kd, rs.n, []⟩ (.slice none 0 0)) (RwD.cell (cs' := dcC t.tx ln ⟨rs.kd, 0, []⟩ (.slice none 0 0)) M2.out 3 (.int .u8 rs.kd) _ rfl) 4 (.int .i64 rs.n) _ rfl) 5 (.string (str rs.nm)) _ rfl)
   clear M2
   refine (rblock_any M3.out.p).mono ?_
   rintro e Y3 ⟨bA, bc, bs, v3, f3, rfl, ha, h1, h2, hp, hg⟩
   have HA3 := Lib.hid ha
   have M4 := Lib.hid (M3.out.step hp hg)
   have hsz := M3.out.g.size
   have HB := Lib.hid (show RowP eSt Y3 (fun g => W1.heap.size ≤ g) bA bc bs ∧ xssOk Y3 (fun g => W1.heap.size ≤ g) bs from ⟨h1.keep (fun _ _ _ => rfl) fun _ q => Nat.le_trans hsz q, h2.keep' rfl fun _ q => Nat.le_trans hsz q⟩)
   clear ha h1 h2 hp hg M3 hsz
   have M5 := Lib.hid (RwD.cell (cs' := dcC t.tx ln rs (.slice bA bs.length bc)) M4.out 6 (.slice bA bs.length bc) _ rfl)
   have HB5 := Lib.hid (show RowP eSt (Y3.setCell ⟨W1.heap.size, 6, none⟩ (.slice bA bs.length bc)) (fun g => W1.heap.size ≤ g) bA bc bs ∧ xssOk (Y3.setCell ⟨W1.heap.size, 6, none⟩ (.slice bA bs.length bc)) (fun g => W1.heap.size ≤ g) bs by
    have hb : ButT 48 Y3 (Y3.setCell ⟨W1.heap.size, 6, none⟩ (.slice bA bs.length bc)) := ButT.set (p := ⟨W1.heap.size, 6, none⟩) ⟨_, _, M4.out.s⟩ _
    exact ⟨HB.out.1.keep (fun g _ ht => hb g _ ht (by decide)) (fun _ q => q), xssOk.keep (fun g _ ht => hb g _ ht (by decide)) (fun g _ ht => hb g _ ht (by decide)) (fun _ q => q) bs HB.out.2⟩)
   obtain ⟨⟨fc0, fc1, fc2, fc3, fc4, fc5, fc6⟩, ff0, ff1, ff2, ff3, ff4, ff5, ff6⟩ := FnW.cells M4.out
   obtain ⟨_, _, l1, l2, l3, l4⟩ := RwD.fl_ M4.out
   obtain ⟨⟨zc0, zc1, zc2, zc3, zc4, zc5, zc6⟩, zf0, zf1, zf2, zf3, zf4, zf5, zf6⟩ := zDc_cells (W := Y3) (show CAt Y3 w.heap.size 48 zDc from (M4.out.g.block _ lz (fun e => by injection e with e; omega)).trans HZ.out)
   have lzz : ¬ w.heap.size = W1.heap.size := by omega
   have lzy : ¬ W1.heap.size = w.heap.size := by omega
   have lzY : w.heap.size < Y3.heap.size := by omega
   go_wp2_with fail
   refine dcd_end rfl rfl M5.out HB5.out HZ.out (Nat.le_refl _) HGP.out HG1.out rfl ?_
   rw [HR.out]
   refine Ans.then HA0.out ?_
   refine Ans.then HAs.out ?_
   refine Ans.then (HI.out.end_ (fun q => (by cases q)) HA1.out) ?_
   refine Ans.then HA2.out ?_
   exact Ans.end_ HA3.out fun b => (⟨t.tx, ln, ps, rs, b⟩ : Dc)
  | false =>
   go_wp2_with fail
   refine (K.out.is 4 [41]).mono ?_
   rintro e X2 ⟨rfl, K3⟩
   have K3 := Lib.hid K3
   clear K p2 pf2 lg
   rw [isX_T (by decide)]
   cases b2 : (!false && isT 4 [41] v) with
   | true =>
    go_wp2_with fail
    refine (K3.out.sign [41] (by decide)).mono ?_
    rintro e Y1 ⟨rfl, v1, f1, HA1, M1⟩
    have M1 := Lib.hid M1
    clear K3
    go_wp2_with fail
    refine (M1.out.kind false).mono ?_
    rintro e Y2 ⟨rs, v2, f2, rfl, HA2, M2⟩
    have M2 := Lib.hid M2
    clear M1
    obtain ⟨⟨fc0, fc1, fc2, fc3, fc4, fc5, fc6⟩, ff0, ff1, ff2, ff3, ff4, ff5, ff6⟩ := FnW.cells M2.out
    obtain ⟨_, _, l1, l2, l3, l4⟩ := RwD.fl_ M2.out
    unfold tyV tyS
    go_wp2_with fail
    clear fc0 fc1 fc2 fc3 fc4 fc5 fc6 ff0 ff1 ff2 ff3 ff4 ff5 ff6 l1 l2 l3 l4
    have M3 := Lib.hid (RwD.cell (cs' := dcC t.tx ln rs (.slice none 0 0)) (RwD.cell (cs' := dcC t.tx ln ⟨rs.kd, rs.n, []⟩ (.slice none 0 0)) (RwD.cell (cs' := dcC t.tx ln ⟨rs.kd, 0, []⟩ (.slice none 0 0)) M2.out 3 (.int .u8 rs.kd) _ rfl) 4 (.int .i64 rs.n) _ rfl) 5 (.string (str rs.nm)) _ rfl)
    clear M2
    refine (rblock_any M3.out.p).mono ?_
    rintro e Y3 ⟨bA, bc, bs, v3, f3, rfl, ha, h1, h2, hp, hg⟩
    have HA3 := Lib.hid ha
    have M4 := Lib.hid (M3.out.step hp hg)
    have hsz := M3.out.g.size
    have HB := Lib.hid (show RowP eSt Y3 (fun g => W1.heap.size ≤ g) bA bc bs ∧ xssOk Y3 (fun g => W1.heap.size ≤ g) bs from ⟨h1.keep (fun _ _ _ => rfl) fun _ q => Nat.le_trans hsz q, h2.keep' rfl fun _ q => Nat.le_trans hsz q⟩)
    clear ha h1 h2 hp hg M3 hsz
    have M5 := Lib.hid (RwD.cell (cs' := dcC t.tx ln rs (.slice bA bs.length bc)) M4.out 6 (.slice bA bs.length bc) _ rfl)
    have HB5 := Lib.hid (show RowP eSt (Y3.setCell ⟨W1.heap.size, 6, none⟩ (.slice bA bs.length bc)) (fun g => W1.heap.size ≤ g) bA bc bs ∧ xssOk (Y3.setCell ⟨W1.heap.size, 6, none⟩ (.slice bA bs.length bc)) (fun g => W1.heap.size ≤ g) bs by
     have hb : ButT 48 Y3 (Y3.setCell ⟨W1.heap.size, 6, none⟩ (.slice bA bs.length bc)) := ButT.set (p := ⟨W1.heap.size, 6, none⟩) ⟨_, _, M4.out.s⟩ _
     exact ⟨HB.out.1.keep (fun g _ ht => hb g _ ht (by decide)) (fun _ q => q), xssOk.keep (fun g _ ht => hb g _ ht (by decide)) (fun g _ ht => hb g _ ht (by decide)) (fun _ q => q) bs HB.out.2⟩)
    obtain ⟨⟨fc0, fc1, fc2, fc3, fc4, fc5, fc6⟩, ff0, ff1, ff2, ff3, ff4, ff5, ff6⟩ := FnW.cells M4.out
    obtain ⟨_, _, l1, l2, l3, l4⟩ := RwD.fl_ M4.out
    obtain ⟨⟨zc0, zc1, zc2, zc3, zc4, zc5, zc6⟩, zf0, zf1, zf2, zf3, zf4, zf5, zf6⟩ := zDc_cells (W := Y3) (show CAt Y3 w.heap.size 48 zDc from (M4.out.g.block _ lz (fun e => by injection e with e; omega)).trans HZ.out)
    have lzz : ¬ w.heap.size = W1.heap.size := by omega
    have lzy : ¬ W1.heap.size = w.heap.size := by omega
    have lzY : w.heap.size < Y3.heap.size := by omega
    go_wp2_with fail
    refine dcd_end rfl rfl M5.out HB5.out HZ.out (Nat.le_refl _) HGP.out HG1.out rfl ?_
    rw [HR.out]
    refine Ans.then HA0.out ?_
    refine Ans.then HAs.out ?_
    refine Ans.then (HI.out.end_ (fun _ => (and_not b2).2) HA1.out) ?_
    refine Ans.then HA2.out ?_
    exact Ans.end_ HA3.out fun b => (⟨t.tx, ln, ps, rs, b⟩ : Dc)
   | false =>
    have HC := Lib.hid (show ¬ isS [41] v = true from and_nt b2 rfl)
    obtain ⟨⟨fc0, fc1, fc2, fc3, fc4, fc5, fc6⟩, ff0, ff1, ff2, ff3, ff4, ff5, ff6⟩ := FnW.cells K3.out
    obtain ⟨_, _, l1, l2, l3, l4⟩ := RwD.fl_ K3.out
    by_cases hz : ps = []
    · have HZ0 := Lib.hid hz
      have hzi : ¬ ((0 : Int) < (ps.length : Int)) := by rw [hz]; simp
      have hzd : decide ((0 : Int) < (ps.length : Int)) = false := decide_eq_false hzi
      clear hz
      go_wp2_with fail
      clear fc0 fc1 fc2 fc3 fc4 fc5 fc6 ff0 ff1 ff2 ff3 ff4 ff5 ff6 l1 l2 l3 l4
      refine (K3.out.name).mono ?_
      rintro e X4 ⟨t2, v4, f4, rfl, HA4, K5⟩
      have K5 := Lib.hid K5
      clear K3
      have K6 := Lib.hid (PmW.new K5.out ⟨t2.tx, ty0⟩ rfl)
      go_wp2_with fail
      refine (K6.out.kind true).mono ?_
      rintro e X5 ⟨ty, v5, f5, rfl, HA5, K7⟩
      have K7 := Lib.hid K7
      have K8 := Lib.hid (K7.out.setTy ty)
      have lpb := K5.out.s.lt
      clear K6
      have HP := Lib.hid (show Ans false v (pmP v) (⟨t2.tx, ty⟩ : Pm) v5 f5 by rw [pm_eq]; exact Ans.then HA4.out (Ans.end_ HA5.out fun ty => (⟨t2.tx, ty⟩ : Pm)))
      obtain ⟨⟨pc0, pc1, pc2, pc3⟩, pg0, pg1, pg2, pg3⟩ := K7.out.cells
      have lpx := K7.out.x.lt
      have lbs : ¬ X4.heap.size = W1.heap.size := K7.out.n.2.1
      have lsb : ¬ W1.heap.size = X4.heap.size := fun q => lbs q.symm
      unfold tyV tyS
      go_upto_region 8 with fail
      obtain ⟨X6, hX6⟩ : ∃ X6, ((X5.setCell ⟨X4.heap.size, 1, none⟩ (.int .u8 ty.kd)).setCell ⟨X4.heap.size, 2, none⟩ (.int .i64 ty.n)).setCell ⟨X4.heap.size, 3, none⟩ (.string (str ty.nm)) = X6 := ⟨_, rfl⟩
      rw [hX6] at K8 ⊢
      clear hX6 pc0 pc1 pc2 pc3 pg0 pg1 pg2 pg3 lpx K7 HA4 HA5 K5 lpb
      obtain ⟨⟨pc0, pc1, pc2, pc3⟩, pg0, pg1, pg2, pg3⟩ := K8.out.cells
      obtain ⟨⟨fc0, fc1, fc2, fc3, fc4, fc5, fc6⟩, ff0, ff1, ff2, ff3, ff4, ff5, ff6⟩ := FnW.cells K8.out.r
      obtain ⟨_, _, l1, l2, l3, l4⟩ := RwD.fl_ K8.out.r
      have K9 := Lib.hid (K8.out.r.below (below_lnew X6 (.cells #[.string (str t2.tx), .int .u8 ty.kd, .int .i64 ty.n, .string (str ty.nm)] 75)))
      have HB := Lib.hid (heap_alloc_new X6 (.cells #[.string (str t2.tx), .int .u8 ty.kd, .int .i64 ty.n, .string (str ty.nm)] 75))
      have HLn := Lib.hid (show ps.length ≤ 1000000 by have := HM.out (by trivial); have := K9.out.p.n; omega)
      have HI2 := Lib.hid (show PmI (lisP pmP u2) g2 u2 (ps ++ [⟨t2.tx, ty⟩]) v5 f5 by have e := HZ0.out; subst e; exact HI.out.first HC.out HP.out)
      have HE := Lib.hid (show f5 = false → v5.length + 1 ≤ v.length by
       intro q
       subst q
       have e := HP.out.ok_eq
       have h1 := pmP_len e.2
       omega)
      have HM2 := Lib.hid (show f5 = false → (ps ++ [(⟨t2.tx, ty⟩ : Pm)]).length + v5.length ≤ l.length by
       intro q
       have h1 := HE.out q
       have h2 := HM.out (by trivial)
       rw [List.length_append, List.length_singleton]
       omega)
      have HLE := Lib.hid (show (if f5 = true then 0 else v5.length + 1) < v.length + 1 by
       cases f5 with
       | true => rw [if_pos rfl]; omega
       | false => rw [if_neg (by decide)]; have := HE.out rfl; omega)
      clear HE HM HI HP HZ0
      go_wp2_with (at_builtin; refine El.app1x ePm _ rfl 43 (.agg #[.string ⟨#[]⟩, .int .u8 0, .int .i64 0, .string ⟨#[]⟩]) 48 Try.underlying43 pm_info rfl (by decide) (by decide) (.tmp 36) (.tmp 38) rfl W1.heap.size (.slice pA ps.length pc) ps rfl K9.out.r X6.heap.size 1 ⟨t2.tx, ty⟩ rfl 75 HB.out HLn.out K9.out.g.size ?_; intro v9 Z9 ho9 hg9 hk9; obtain ⟨g9, c9, rfl⟩ := El.Own.at0 ho9 (by simp); have hl9 : (ps ++ [(⟨t2.tx, ty⟩ : Pm)]).length = ps.length + 1 := (by simp); have K10 := Lib.hid (RwD.app (X' := fun _ => True) K9.out hg9 ho9 trivial (fun _ _ _ _ => trivial)); (try rw [hl9] at K10); (try rw [hl9]); obtain ⟨⟨dc0, dc1, dc2, dc3, dc4, dc5, dc6⟩, df0, df1, df2, df3, df4, df5, df6⟩ := FnW.cells K10.out)
      have K11 := Lib.hid (RwD.cell (cs' := dcC t.tx ln ty0 (.slice none 0 0)) K10.out 2 (.slice (some ⟨g9, 0, none⟩) (ps.length + 1) c9) (.slice (some ⟨g9, 0, none⟩) (ps.length + 1) c9) rfl)
      have hR := K11.out.p.lfR
      refine ⟨⟨_, _, v5, f5, K11, HI2, HM2⟩, ?_⟩
      have e3 := HME.out
      rw [if_neg (by decide)] at e3
      rw [e3]
      exact Nat.lt_of_le_of_lt (Nat.le_of_eq hR) HLE.out
    · have HZ0 := Lib.hid hz
      have hzi : (0 : Int) < (ps.length : Int) := by have := List.length_pos_iff.2 hz; omega
      clear hz
      go_wp2_with fail
      clear fc0 fc1 fc2 fc3 fc4 fc5 fc6 ff0 ff1 ff2 ff3 ff4 ff5 ff6 l1 l2 l3 l4
      refine (K3.out.sign [44] (by decide)).mono ?_
      rintro e X3 ⟨rfl, v3, f3, HA3, K4⟩
      have K4 := Lib.hid K4
      clear K3
      go_wp2_with fail
      refine (K4.out.name).mono ?_
      rintro e X4 ⟨t2, v4, f4, rfl, HA4, K5⟩
      have K5 := Lib.hid K5
      clear K4
      have K6 := Lib.hid (PmW.new K5.out ⟨t2.tx, ty0⟩ rfl)
      go_wp2_with fail
      refine (K6.out.kind true).mono ?_
      rintro e X5 ⟨ty, v5, f5, rfl, HA5, K7⟩
      have K7 := Lib.hid K7
      have K8 := Lib.hid (K7.out.setTy ty)
      have lpb := K5.out.s.lt
      clear K6
      have HP := Lib.hid (show Ans f3 v3 (pmP v3) (⟨t2.tx, ty⟩ : Pm) v5 f5 by rw [pm_eq]; exact Ans.then HA4.out (Ans.end_ HA5.out fun ty => (⟨t2.tx, ty⟩ : Pm)))
      obtain ⟨⟨pc0, pc1, pc2, pc3⟩, pg0, pg1, pg2, pg3⟩ := K7.out.cells
      have lpx := K7.out.x.lt
      have lbs : ¬ X4.heap.size = W1.heap.size := K7.out.n.2.1
      have lsb : ¬ W1.heap.size = X4.heap.size := fun q => lbs q.symm
      unfold tyV tyS
      go_upto_region 8 with fail
      obtain ⟨X6, hX6⟩ : ∃ X6, ((X5.setCell ⟨X4.heap.size, 1, none⟩ (.int .u8 ty.kd)).setCell ⟨X4.heap.size, 2, none⟩ (.int .i64 ty.n)).setCell ⟨X4.heap.size, 3, none⟩ (.string (str ty.nm)) = X6 := ⟨_, rfl⟩
      rw [hX6] at K8 ⊢
      clear hX6 pc0 pc1 pc2 pc3 pg0 pg1 pg2 pg3 lpx K7 HA4 HA5 K5 lpb
      obtain ⟨⟨pc0, pc1, pc2, pc3⟩, pg0, pg1, pg2, pg3⟩ := K8.out.cells
      obtain ⟨⟨fc0, fc1, fc2, fc3, fc4, fc5, fc6⟩, ff0, ff1, ff2, ff3, ff4, ff5, ff6⟩ := FnW.cells K8.out.r
      obtain ⟨_, _, l1, l2, l3, l4⟩ := RwD.fl_ K8.out.r
      have K9 := Lib.hid (K8.out.r.below (below_lnew X6 (.cells #[.string (str t2.tx), .int .u8 ty.kd, .int .i64 ty.n, .string (str ty.nm)] 75)))
      have HB := Lib.hid (heap_alloc_new X6 (.cells #[.string (str t2.tx), .int .u8 ty.kd, .int .i64 ty.n, .string (str ty.nm)] 75))
      have HLn := Lib.hid (show ps.length ≤ 1000000 by have := HM.out (by trivial); have := K9.out.p.n; omega)
      have HI2 := Lib.hid (HI.out.more HZ0.out HC.out HA3.out HP.out)
      have HE := Lib.hid (show f5 = false → v5.length + 1 ≤ v.length by
       intro q
       subst q
       have e := HP.out.ok_eq
       have h1 := pmP_len e.2
       have h2 := e.1
       subst h2
       have h3 := HA3.out
       unfold sgR at h3
       split at h3
       · rename_i hs
         have h4 := tail_len (isT_ne hs)
         cases h3
         omega
       · cases h3)
      have HM2 := Lib.hid (show f5 = false → (ps ++ [(⟨t2.tx, ty⟩ : Pm)]).length + v5.length ≤ l.length by
       intro q
       have h1 := HE.out q
       have h2 := HM.out (by trivial)
       rw [List.length_append, List.length_singleton]
       omega)
      have HLE := Lib.hid (show (if f5 = true then 0 else v5.length + 1) < v.length + 1 by
       cases f5 with
       | true => rw [if_pos rfl]; omega
       | false => rw [if_neg (by decide)]; have := HE.out rfl; omega)
      clear HE HM HI HP HZ0 HA3
      go_wp2_with (at_builtin; refine El.app1x ePm _ rfl 43 (.agg #[.string ⟨#[]⟩, .int .u8 0, .int .i64 0, .string ⟨#[]⟩]) 48 Try.underlying43 pm_info rfl (by decide) (by decide) (.tmp 36) (.tmp 38) rfl W1.heap.size (.slice pA ps.length pc) ps rfl K9.out.r X6.heap.size 1 ⟨t2.tx, ty⟩ rfl 75 HB.out HLn.out K9.out.g.size ?_; intro v9 Z9 ho9 hg9 hk9; obtain ⟨g9, c9, rfl⟩ := El.Own.at0 ho9 (by simp); have hl9 : (ps ++ [(⟨t2.tx, ty⟩ : Pm)]).length = ps.length + 1 := (by simp); have K10 := Lib.hid (RwD.app (X' := fun _ => True) K9.out hg9 ho9 trivial (fun _ _ _ _ => trivial)); (try rw [hl9] at K10); (try rw [hl9]); obtain ⟨⟨dc0, dc1, dc2, dc3, dc4, dc5, dc6⟩, df0, df1, df2, df3, df4, df5, df6⟩ := FnW.cells K10.out)
      have K11 := Lib.hid (RwD.cell (cs' := dcC t.tx ln ty0 (.slice none 0 0)) K10.out 2 (.slice (some ⟨g9, 0, none⟩) (ps.length + 1) c9) (.slice (some ⟨g9, 0, none⟩) (ps.length + 1) c9) rfl)
      have hR := K11.out.p.lfR
      refine ⟨⟨_, _, v5, f5, K11, HI2, HM2⟩, ?_⟩
      have e3 := HME.out
      rw [if_neg (by decide)] at e3
      rw [e3]
      exact Nat.lt_of_le_of_lt (Nat.le_of_eq hR) HLE.out
end
end Go.Proofs.Ytjllbacefbjjaaa
