/-
  Merged for a claim: SYH, SYI, S2A, S2B, SYJ.
-/
import Derived.Test.YtflhcdcifilfcaaHJ3
namespace Go.Proofs.Ytflhcdcifilfcaa
open Go Go.RowKit

theorem tok_f0 (a b x d:Value) (w:World):(Instr.field 77 (.agg #[a,b,x,d]) 0).run Try.prog w = .ok a w:=by kernel_rfl
theorem tok_f1 (a b x d:Value) (w:World):(Instr.field 77 (.agg #[a,b,x,d]) 1).run Try.prog w = .ok b w:=by kernel_rfl
theorem tok_f2 (a b x d:Value) (w:World):(Instr.field 77 (.agg #[a,b,x,d]) 2).run Try.prog w = .ok x w:=by kernel_rfl
section
variable {w w':World} {gp:Nat} {A:Option Addr} {c:Nat} {l u:List To} {k:Nat}
theorem grown_new {w W W2:World} {r:Option Nat} (h:w.grownBy W r) (hb:Below w.heap.size W W2):w.grownBy W2 r:=
 ⟨hb.os.trans h.os,hb.tape.trans h.tape,hb.output.trans h.output,Nat.le_trans h.size hb.size,fun k hk hne=>(hb.block k hk).trans (h.block k hk hne)⟩
theorem Ps.inc (_hk:k≤l.length) (hu:u=l.drop k) (hc:CAt w gp 57 [.slice A l.length c,.int .i64 k]) (ht:eTo.Lies w gp A l) (hn:l.length≤1000000) (hne:u≠[]) :
 Ps (w.setCell ⟨gp,1,none⟩ (.int .i64 ((k:Int)+1))) gp A c l u.tail:=by
 subst hu;have hlt:k < l.length:=by
  rcases Nat.lt_or_ge k l.length with h | h
  · exact h
  · exact absurd (List.drop_eq_nil_of_le h) hne
 refine ⟨⟨k+1,hlt,by rw [List.tail_drop],?_⟩,ht.below ((Below.refl gp w).setCell (p:=⟨gp,1,none⟩) (Nat.le_refl _) _),hn⟩;have:=hc.set 1 (.int .i64 ((k:Int)+1));exact this
set_option maxRecDepth 100000 in
theorem hasName_any (h:Ps w gp A c l u) (t:To) (ht:t.kd≠0) :
 Calls Try.prog 88 #[.pointer (some ⟨gp,0,none⟩),tV t] w (fun e w'=>e = .returned (.bool (isK 1 u && isT t.kd t.tx u.tail))∧Below w.heap.size w w'):=by
 have e0:=isT_hd (tx:=t.tx) (u:=u.tail) ht;have e1:=isK_hd (kd:=1) (u:=u) (by decide);obtain ⟨kd,tx,nu,ln⟩:=t;dsimp only at ht e0;have hcb:=tok_box w ⟨kd,tx,nu,ln⟩;dsimp only at hcb;have hbb:=below_lnew w (.cells #[.int .u8 kd,.string (str tx),.int .i64 nu,.int .i64 ln] 77);obtain ⟨wa,hwa⟩:∃ wa,w.alloc (.cells #[.int .u8 kd,.string (str tx),.int .i64 nu,.int .i64 ln] 77)=wa:=⟨_,rfl⟩;rw [hwa] at hcb hbb;have HWA:=h_ hwa;have HB0:=h_ hbb.drew;have HC0:=h_ (show CAt wa.drew w.heap.size 77 (tS ⟨kd,tx,nu,ln⟩) from hcb);have HL:=h_ (look_any (h.next HB0.out) 0 (by omega));have HP:=h_ h;have HS:=h_ (fun w1=>same_any (hd u.tail) ⟨kd,tx,nu,ln⟩ w1);have hS:=hcb.tc;dsimp only at hS;rw [← e0,← e1];rw [List.drop_zero] at HL;clear e0 e1 h hcb hbb hwa;generalize hd u=t0 at *;obtain ⟨k0,x0,n0,l0⟩:=t0;unfold tV tS at HS HL ⊢;dsimp only at HS HL ⊢;have hf0:=tok_f0;by_cases hk:k0=1
 · subst hk;rw [decide_eq_true rfl,Bool.true_and];go_enter Try.func88,Try.ntmps88;(go_wp2_with fail);rw [HWA.out];refine wp_region_held_drew (S:=fun W9=>(W9.cell? ⟨w.heap.size,0,none⟩=some (.int .u8 kd)∧W9.cell? ⟨w.heap.size,1,none⟩=some (.string (str tx))∧W9.cell? ⟨w.heap.size,2,none⟩=some (.int .i64 nu)∧W9.cell? ⟨w.heap.size,3,none⟩=some (.int .i64 ln))) (by kernel_rfl) (hS) (fun hH=>?_);refine heldTake (i:=0) (d:=some 5) (v:=?_) rfl rfl (by kernel_rfl) (by kernel_rfl) (by kernel_rfl) (fun _ _ _ h=>h) (by kernel_rfl) ?hyq_1 (by assumption) ?restq_1;(case hyq_1=>(intro W9 hSw;(try dsimp only at hSw);go_simp;try (with_reducible rfl)));(try simp only [Act.put,nA,nB,nC]);refine nM (i:=1) (by kernel_rfl) rfl fun K hK=>?_;go_simp;(go_at_call 55);refine HL.out.mono ?_;rintro e9 X ⟨rfl,hbX⟩;have HB1:=h_ hbX;have HC1:=h_ (HC0.out.below hbX HC0.out.lt);have hSX:=HC1.out.tc;dsimp only at hSX;have HL2:=h_ (look_any (HP.out.next (HB0.out.trans (HB1.out.mono HB0.out.size))) 1 (by omega));rw [hd_tail] at HL2;(go_wp2_with fail);refine hK.out _ _ hSX (fun hH=>?_);clear hK K;(try simp only [Act.put,nA,nB,nC]);refine heldTake (i:=2) (d:=some 7) (v:=?_) rfl rfl (by kernel_rfl) (by kernel_rfl) (by kernel_rfl) (fun _ _ _ h=>h) (by kernel_rfl) ?hyq_2 (by assumption) ?restq_2;(case hyq_2=>(intro W9 hSw;(try dsimp only at hSw);go_simp;try (with_reducible rfl)));(try simp only [Act.put,nA,nB,nC]);refine heldTake (i:=3) (d:=some 8) (v:=?_) rfl rfl (by kernel_rfl) (by kernel_rfl) (by kernel_rfl) (fun _ _ _ h=>h) (by kernel_rfl) ?hyq_3 (by assumption) ?restq_3;(case hyq_3=>(intro W9 hSw;(try dsimp only at hSw);go_simp;try (with_reducible rfl)));(try simp only [Act.put,nA,nB,nC]);refine heldTake (i:=4) (d:=some 9) (v:=?_) rfl rfl (by kernel_rfl) (by kernel_rfl) (by kernel_rfl) (fun _ _ _ h=>h) (by kernel_rfl) ?hyq_4 (by assumption) ?restq_4;(case hyq_4=>(intro W9 hSw;(try dsimp only at hSw);go_simp;try (with_reducible rfl)));(try simp only [Act.put,nA,nB,nC]);refine heldTake (i:=5) (d:=some 10) (v:=?_) rfl rfl (by kernel_rfl) (by kernel_rfl) (by kernel_rfl) (fun _ _ _ h=>h) (by kernel_rfl) ?hyq_5 (by assumption) ?restq_5;(case hyq_5=>(intro W9 hSw;(try dsimp only at hSw);go_simp;try (with_reducible rfl)));(try simp only [Act.put,nA,nB,nC]);refine heldTake (i:=7) (d:=some 12) (v:=?_) rfl rfl (by kernel_rfl) (by kernel_rfl) (by kernel_rfl) (fun _ _ _ h=>h) (by kernel_rfl) ?hyq_6 (by assumption) ?restq_6;(case hyq_6=>(intro W9 hSw;(try dsimp only at hSw);go_simp;try (with_reducible rfl)));(try simp only [Act.put,nA,nB,nC]);refine nM (i:=6) (by kernel_rfl) rfl fun K hK=>?_;go_simp;(go_at_call 55);refine HL2.out.mono ?_;rintro e9 Y ⟨rfl,hbY⟩;have HB2:=h_ hbY;have HC2:=h_ (HC1.out.below hbY HC1.out.lt);have hSY:=HC2.out.tc;dsimp only at hSY;(go_wp2_with fail);refine hK.out _ _ hSY (fun hH=>?_);clear hK K;(try simp only [Act.put,nA,nB,nC]);refine nM (i:=8) (by kernel_rfl) rfl fun K hK=>?_;go_simp;(go_at_call 54);refine (HS.out Y).mono ?_;rintro e9 Z ⟨rfl,hbZ⟩;have HB3:=h_ hbZ;have hSZ:=(HC2.out.below hbZ HC2.out.lt).tc;dsimp only at hSZ;(go_wp2_with fail);refine hK.out _ _ hSZ (fun hH=>?_);clear hK K;(try simp only [Act.put,nA,nB,nC]);refine heldTake (i:=9) (d:=some 14) (v:=?_) rfl rfl (by kernel_rfl) (by kernel_rfl) (by kernel_rfl) (fun _ _ _ h=>h) (by kernel_rfl) ?hyq_7 (by assumption) ?restq_7;(case hyq_7=>(intro W9 hSw;(try dsimp only at hSw);go_simp;try (with_reducible rfl)));(try simp only [Act.put,nA,nB,nC]);refine heldTake (i:=10) (d:=some 4) (v:=?_) rfl rfl (by kernel_rfl) (by kernel_rfl) (by kernel_rfl) (fun _ _ _ h=>h) (by kernel_rfl) ?hyq_8 (by assumption) ?restq_8;(case hyq_8=>(intro W9 hSw;(try dsimp only at hSw);go_simp;try (with_reducible rfl)));(try simp only [Act.put,nA,nB,nC]);refine wpAnyH_done (by kernel_rfl) ?_ _;(go_wp2_with fail);go_ret;exact ⟨rfl,((HB0.out.trans (HB1.out.mono HB0.out.size)).trans (HB2.out.mono (Nat.le_trans HB0.out.size HB1.out.size))).trans (HB3.out.mono (Nat.le_trans (Nat.le_trans HB0.out.size HB1.out.size) HB2.out.size))⟩
 · (have hk2:(k0 == 1)=false:=by simpa using hk);rw [decide_eq_false hk,Bool.false_and];go_enter Try.func88,Try.ntmps88;(go_wp2_with fail);rw [HWA.out];refine wp_region_held_drew (S:=fun W9=>(W9.cell? ⟨w.heap.size,0,none⟩=some (.int .u8 kd)∧W9.cell? ⟨w.heap.size,1,none⟩=some (.string (str tx))∧W9.cell? ⟨w.heap.size,2,none⟩=some (.int .i64 nu)∧W9.cell? ⟨w.heap.size,3,none⟩=some (.int .i64 ln))) (by kernel_rfl) (hS) (fun hH=>?_);refine heldTake (i:=0) (d:=some 5) (v:=?_) rfl rfl (by kernel_rfl) (by kernel_rfl) (by kernel_rfl) (fun _ _ _ h=>h) (by kernel_rfl) ?hyq_9 (by assumption) ?restq_9;(case hyq_9=>(intro W9 hSw;(try dsimp only at hSw);go_simp;try (with_reducible rfl)));(try simp only [Act.put,nA,nB,nC]);refine nM (i:=1) (by kernel_rfl) rfl fun K hK=>?_;go_simp;(go_at_call 55);refine HL.out.mono ?_;rintro e9 X ⟨rfl,hbX⟩;have HB1:=h_ hbX;have hSX:=(HC0.out.below hbX HC0.out.lt).tc;dsimp only at hSX;(go_wp2_with fail);refine hK.out _ _ hSX (fun hH=>?_);clear hK K;(try simp only [Act.put,nA,nB,nC]);refine heldTake (i:=2) (d:=some 7) (v:=?_) rfl rfl (by kernel_rfl) (by kernel_rfl) (by kernel_rfl) (fun _ _ _ h=>h) (by kernel_rfl) ?hyq_10 (by assumption) ?restq_10;(case hyq_10=>(intro W9 hSw;(try dsimp only at hSw);go_simp;try (with_reducible rfl)));(try simp only [Act.put,nA,nB,nC]);refine heldTake (i:=3) (d:=some 8) (v:=?_) rfl rfl (by kernel_rfl) (by kernel_rfl) (by kernel_rfl) (fun _ _ _ h=>h) (by kernel_rfl) ?hyq_11 (by assumption) ?restq_11;(case hyq_11=>(intro W9 hSw;(try dsimp only at hSw);go_simp;try (with_reducible rfl)));(try simp only [Act.put,nA,nB,nC]);refine heldTake (i:=4) (d:=some 9) (v:=?_) rfl rfl (by kernel_rfl) (by kernel_rfl) (by kernel_rfl) (fun _ _ _ h=>h) (by kernel_rfl) ?hyq_12 (by assumption) ?restq_12;(case hyq_12=>(intro W9 hSw;(try dsimp only at hSw);go_simp;try (with_reducible rfl)));(try simp only [Act.put,nA,nB,nC]);refine heldSkip (i:=5) (d:=some 10) rfl rfl (by kernel_rfl) (by kernel_rfl) (by kernel_rfl) (fun _ _ _ h=>h) (by kernel_rfl) (by assumption) ?_;(try simp only [Act.put,nA,nB,nC]);refine heldSkip (i:=6) (d:=some 11) rfl rfl (by kernel_rfl) (by kernel_rfl) (by kernel_rfl) (fun _ _ _ h=>h) (by kernel_rfl) (by assumption) ?_;(try simp only [Act.put,nA,nB,nC]);refine heldSkip (i:=7) (d:=some 12) rfl rfl (by kernel_rfl) (by kernel_rfl) (by kernel_rfl) (fun _ _ _ h=>h) (by kernel_rfl) (by assumption) ?_;(try simp only [Act.put,nA,nB,nC]);refine heldSkip (i:=8) (d:=some 13) rfl rfl (by kernel_rfl) (by kernel_rfl) (by kernel_rfl) (fun _ _ _ h=>h) (by kernel_rfl) (by assumption) ?_;(try simp only [Act.put,nA,nB,nC]);refine heldTake (i:=9) (d:=some 14) (v:=?_) rfl rfl (by kernel_rfl) (by kernel_rfl) (by kernel_rfl) (fun _ _ _ h=>h) (by kernel_rfl) ?hyq_13 (by assumption) ?restq_13;(case hyq_13=>(intro W9 hSw;(try dsimp only at hSw);go_simp;try (with_reducible rfl)));(try simp only [Act.put,nA,nB,nC]);refine heldTake (i:=10) (d:=some 4) (v:=?_) rfl rfl (by kernel_rfl) (by kernel_rfl) (by kernel_rfl) (fun _ _ _ h=>h) (by kernel_rfl) ?hyq_14 (by assumption) ?restq_14;(case hyq_14=>(intro W9 hSw;(try dsimp only at hSw);go_simp;try (with_reducible rfl)));(try simp only [Act.put,nA,nB,nC]);refine wpAnyH_done (by kernel_rfl) ?_ _;(go_wp2_with fail);go_ret;exact ⟨rfl,HB0.out.trans (HB1.out.mono HB0.out.size)⟩
set_option maxRecDepth 100000 in
theorem take_yes (h:Ps w gp A c l u) (t:To) (ht:t.kd≠0) (hy:isT t.kd t.tx u=true) :
 Calls Try.prog 59 #[.pointer (some ⟨gp,0,none⟩),tV t] w (fun e w'=>e = .returned (.bool true)∧Ps w' gp A c l u.tail∧w.grownBy w' (some gp)):=by
 have hbb:=below_lnew w (.cells #[.int .u8 t.kd,.string (str t.tx),.int .i64 t.nu,.int .i64 t.ln] 77);have HH:=h_ (has_any (h.next hbb) t ht);have HB:=h_ hbb;have HP:=h_ h;have hne:=isT_ne hy;rw [hy] at HH;clear h hbb;obtain ⟨kd,tx,nu,ln⟩:=t;unfold tV tS at HH ⊢;dsimp only at HH HB ⊢;go_enter Try.func59,Try.ntmps59;go_wp2_with fail
 refine HH.out.mono ?_;rintro e w1 ⟨rfl,hb1⟩;have HB1:=h_ (HB.out.trans (hb1.mono HB.out.size));have h1:=HP.out.next HB1.out;obtain ⟨k,hk,hu,hc⟩:=h1.k;have p1:=hc.cell (j:=1) (by simp);have f1:=hc.frozen 1;have hkn:k≤1000000:=by have:=h1.n;omega
 simp only [nD,nE] at p1;have HI:=h_ (Ps.inc hk hu hc h1.t h1.n hne);clear h1 hu hc HH HP hb1;go_wp2_with fail
 go_ret;exact ⟨rfl,HI.out,grown_trans (grown_below HB1.out _) (grown_set _ _ _ _)⟩
set_option maxRecDepth 100000 in
theorem take_no (h:Ps w gp A c l u) (t:To) (ht:t.kd≠0) (hy:isT t.kd t.tx u=false) :
 Calls Try.prog 59 #[.pointer (some ⟨gp,0,none⟩),tV t] w (fun e w'=>e = .returned (.bool false)∧Ps w' gp A c l u∧w.grownBy w' (some gp)):=by
 have hbb:=below_lnew w (.cells #[.int .u8 t.kd,.string (str t.tx),.int .i64 t.nu,.int .i64 t.ln] 77);have HH:=h_ (has_any (h.next hbb) t ht);have HB:=h_ hbb;have HP:=h_ h;rw [hy] at HH;clear h hbb;obtain ⟨kd,tx,nu,ln⟩:=t;unfold tV tS at HH ⊢;dsimp only at HH HB ⊢;go_enter Try.func59,Try.ntmps59;go_wp2_with fail
 refine HH.out.mono ?_;rintro e w1 ⟨rfl,hb1⟩;have HB1:=h_ (HB.out.trans (hb1.mono HB.out.size));clear HH hb1;go_wp2_with fail
 go_ret;exact ⟨rfl,HP.out.next HB1.out,grown_below HB1.out _⟩
set_option maxRecDepth 100000 in
set_option maxHeartbeats 2000000 in
theorem one_yes (h:Ps w gp A c l u) (kd:Int) (ht:kd≠0) (hy:isK kd u=true) :
 Calls Try.prog 70 #[.pointer (some ⟨gp,0,none⟩),.int .u8 kd] w (fun e w'=>e = .returned (tV (hd u))∧Ps w' gp A c l u.tail∧w.grownBy w' (some gp)):=by
 have hbb:=below_lnew w zT;have HH:=h_ (look_any (h.next hbb) 0 (by omega));have HB:=h_ hbb;have HP:=h_ h;have HN:=h_ (tok_new w 0);have hne:=isK_ne hy;have hkd:(hd u).kd=kd:=by
  have:=isK_hd (u:=u) ht;rw [hy] at this;exact of_decide_eq_true this
 rw [List.drop_zero] at HH;clear h hbb hy;generalize hd u=t0 at *;obtain ⟨k0,x0,n0,l0⟩:=t0;dsimp only at hkd;subst hkd;unfold tV tS at HH ⊢;dsimp only at HH ⊢;go_enter Try.func70,Try.ntmps70;go_wp2_with fail
 refine HH.out.mono ?_;rintro e w1 ⟨rfl,hb1⟩;have HB1:=h_ (HB.out.trans (hb1.mono HB.out.size));have hrc:=HN.out.below hb1 HN.out.lt;have HR:=h_ (show CAt w1 w.heap.size 77 _ from hrc);have hsz:w.heap.size < w1.heap.size:=Nat.lt_of_lt_of_le HN.out.lt hb1.size;have hgp:=HP.out.lt;have hgp1:gp < w1.heap.size:=by omega
 have h1:=HP.out.next HB1.out;have HP1:=h_ h1;obtain ⟨k,hk,hu,hc⟩:=h1.k;have p1:=hc.cell (j:=1) (by simp);have f1:=hc.frozen 1;have hkn:k≤1000000:=by have:=h1.n;omega
 simp only [nD,nE] at p1;have r0:=hrc.cell (j:=0) (by simp);have r1:=hrc.cell (j:=1) (by simp);have r2:=hrc.cell (j:=2) (by simp);have r3:=hrc.cell (j:=3) (by simp);have rf0:=hrc.frozen 0;have rf1:=hrc.frozen 1;have rf2:=hrc.frozen 2;have rf3:=hrc.frozen 3;simp only [nD,nE] at r0 r1 r2 r3;have HU:=h_ hu;have HCC:=h_ hc;clear h1 hu hc HH hb1 hrc HN HB;go_wp2_with fail
 have hI:=Ps.inc hk HU.out HCC.out HP1.out.t HP1.out.n hne;have hS:=setT_at ⟨k0,x0,n0,l0⟩ (HR.out.other (p:=⟨gp,1,none⟩) (show w.heap.size≠gp by omega) (.int .i64 ((k:Int)+1)));have hbS:=setT_below (W:=w1.setCell ⟨gp,1,none⟩ (.int .i64 ((k:Int)+1))) (B:=w.heap.size) (g:=w.heap.size) ⟨k0,x0,n0,l0⟩ (Nat.le_refl _);have hbA:=below_lnew (setT (w1.setCell ⟨gp,1,none⟩ (.int .i64 ((k:Int)+1))) w.heap.size ⟨k0,x0,n0,l0⟩) (.cells #[.int .u8 k0,.string (str x0),.int .i64 n0,.int .i64 l0] 77);refine bodyPost_ret (tok_back (t:=⟨k0,x0,n0,l0⟩) rfl rfl (hS.below hbA hS.lt)) rfl ⟨rfl,(hI.below hbS hgp).next hbA,grown_trans (grown_new (grown_trans (grown_below HB1.out _) (grown_set _ _ _ _)) hbS) (grown_below hbA _)⟩
set_option maxRecDepth 100000 in
theorem one_no (h:Ps w gp A c l u) (kd:Int) (ht:kd≠0) (hy:isK kd u=false) :
 Calls Try.prog 70 #[.pointer (some ⟨gp,0,none⟩),.int .u8 kd] w (fun e w'=>e = .panicked misC∧Ps w' gp A c l u∧w.grownBy w' (some gp)):=by
 have hbb:=below_lnew w zT;have HH:=h_ (look_any (h.next hbb) 0 (by omega));have HB:=h_ hbb;have HP:=h_ h;have hkd:¬ (hd u).kd=kd:=by
  have:=isK_hd (u:=u) ht;rw [hy] at this;exact of_decide_eq_false this
 rw [List.drop_zero] at HH;clear h hbb hy;generalize hd u=t0 at *;obtain ⟨k0,x0,n0,l0⟩:=t0;dsimp only at hkd;have hkd2:(k0 == kd)=false:=by simpa using hkd
 unfold tV tS at HH;dsimp only at HH;go_enter Try.func70,Try.ntmps70;go_wp2_with fail
 refine HH.out.mono ?_;rintro e w1 ⟨rfl,hb1⟩;have hbc:=below_lnew w1 (.cells #[.int .u8 k0,.string (str x0),.int .i64 n0,.int .i64 l0] 77);have HB1:=h_ ((HB.out.trans (hb1.mono HB.out.size)).trans (hbc.mono (Nat.le_trans HB.out.size hb1.size)));clear HH hb1 hbc HB;go_wp2
 exact ⟨rfl,rfl,HP.out.next HB1.out,grown_below HB1.out _⟩
end
end Go.Proofs.Ytflhcdcifilfcaa

namespace Go.Proofs.Ytflhcdcifilfcaa
open Go Go.RowKit

theorem Ps.has {w:World} {gp:Nat} {A:Option Addr} {c:Nat} {l u:List To} (h:Ps w gp A c l u):HasT w gp 57:=by
 obtain ⟨k,_,_,hc⟩:=h.k;exact ⟨_,_,hc⟩
def ndP:List To→List To→R Unit
 | [],u=> .ok () u
 | t::ts,u=>if isT t.kd t.tx u=true then ndP ts u.tail else .bad u
section
variable {w:World} {gp:Nat} {A:Option Addr} {c:Nat} {l u:List To}
theorem name_yes (h:Ps w gp A c l u) (hy:isK 1 u=true) :
 Calls Try.prog 57 #[.pointer (some ⟨gp,0,none⟩)] w (fun e w'=>e = .returned (.string (str (hd u).tx))∧Ps w' gp A c l u.tail∧w.grownBy w' (some gp)):=by
 have HO:=h_ (one_yes h 1 (by decide) hy);have hf:=tok_f1;unfold tV tS at HO;go_enter Try.func57,Try.ntmps57;go_wp2_with fail
 refine HO.out.mono ?_;rintro e w1 ⟨rfl,h1,h2⟩;go_wp2_with fail
 go_ret;exact ⟨rfl,h1,h2⟩
theorem name_no (h:Ps w gp A c l u) (hy:isK 1 u=false) :
 Calls Try.prog 57 #[.pointer (some ⟨gp,0,none⟩)] w (fun e w'=>e = .panicked misC∧Ps w' gp A c l u∧w.grownBy w' (some gp)):=by
 have HO:=h_ (one_no h 1 (by decide) hy);go_enter Try.func57,Try.ntmps57;go_wp2_with fail
 refine HO.out.mono ?_;rintro e w1 ⟨rfl,h1,h2⟩;go_wp2
 exact ⟨rfl,rfl,h1,h2⟩
theorem number_yes (h:Ps w gp A c l u) (hy:isK 2 u=true) :
 Calls Try.prog 71 #[.pointer (some ⟨gp,0,none⟩)] w (fun e w'=>e = .returned (.int .i64 (hd u).nu)∧Ps w' gp A c l u.tail∧w.grownBy w' (some gp)):=by
 have HO:=h_ (one_yes h 2 (by decide) hy);have hf:=tok_f2;unfold tV tS at HO;go_enter Try.func71,Try.ntmps71;go_wp2_with fail
 refine HO.out.mono ?_;rintro e w1 ⟨rfl,h1,h2⟩;go_wp2_with fail
 go_ret;exact ⟨rfl,h1,h2⟩
theorem number_no (h:Ps w gp A c l u) (hy:isK 2 u=false) :
 Calls Try.prog 71 #[.pointer (some ⟨gp,0,none⟩)] w (fun e w'=>e = .panicked misC∧Ps w' gp A c l u∧w.grownBy w' (some gp)):=by
 have HO:=h_ (one_no h 2 (by decide) hy);go_enter Try.func71,Try.ntmps71;go_wp2_with fail
 refine HO.out.mono ?_;rintro e w1 ⟨rfl,h1,h2⟩;go_wp2
 exact ⟨rfl,rfl,h1,h2⟩
def NdR (w:World) (gp:Nat) (A:Option Addr) (c:Nat) (l:List To) (r:R Unit) (e:Ending) (w':World):Prop:=match r with
 | .ok _ v=>e = .returned (.tuple #[])∧Ps w' gp A c l v∧w.grownBy w' (some gp)
 | .bad v=>e = .panicked misC∧Ps w' gp A c l v∧w.grownBy w' (some gp)
 | .out=>False
set_option maxRecDepth 100000 in
set_option maxHeartbeats 2000000 in
theorem need_any (h:Ps w gp A c l u) (ts:List To) (hk:∀ t∈ts,t.kd≠0) (A2:Option Addr) (c2:Nat) (hT:eTo.LiesT w A2 ts) (hn:ts.length≤9) :
 Calls Try.prog 56 #[.pointer (some ⟨gp,0,none⟩),.slice A2 ts.length c2] w (NdR w gp A c l (ndP ts u)):=by
 have HP:=h_ h;have HT:=h_ hT;obtain ⟨r,hr⟩:∃ r,ndP ts u=r:=⟨_,rfl⟩;rw [hr];have HR:=h_ hr;clear h hT hr;go_enter Try.func56,Try.ntmps56;go_wp2_with fail
 go_loopw [8] (fun i wr=>∃ (j:Nat) (v:List To),j≤ts.length∧i = .int .i64 j∧Hid (ndP (ts.drop j) v=r)∧Hid (Ps wr gp A c l v)∧Hid (w.grownBy wr (some gp))) (fun i _=>ts.length - (intOf i).toNat)
 case atStart=>exact ⟨0,u,by omega,rfl,HR,HP,World.grownBy.refl _ _⟩
 case round=>
  obtain ⟨j,v,hj,rfl,hr,hp,hg⟩:=hrel;by_cases hlt:j < ts.length
  · have hTr:=HT.out.but (ButT.grown hg.out (fun k e=>by injection e with e;subst e;exact HP.out.has)) (by decide);obtain ⟨g,o,rfl,hgl,hcell⟩:=hTr.lies.at_ hlt;have hkt:=hk _ (List.getElem_mem hlt);have hr2:=hr.out;rw [List.drop_eq_getElem_cons hlt,ndP] at hr2;generalize ts[j]=t at *;have d0:=hcell 0 _ rfl;have d1:=hcell 1 _ rfl;have d2:=hcell 2 _ rfl;have d3:=hcell 3 _ rfl;simp only [Nat.add_zero,show eTo.sz=4 from rfl] at d0 d1 d2 d3;have hbb:=below_lnew wr (.cells #[.int .u8 t.kd,.string (str t.tx),.int .i64 t.nu,.int .i64 t.ln] 77);have hp2:=hp.out.next hbb;have HBB:=h_ hbb;cases hy:isT t.kd t.tx v
    · rw [hy,if_neg (by decide)] at hr2;have HC:=h_ (take_no hp2 t hkt hy);have HF:=h_ hr2;clear hcell hr hr2 hy hp2 hbb hTr;obtain ⟨kd,tx,nu,ln⟩:=t;unfold tV tS at HC;dsimp only at d0 d1 d2 d3 HC HBB;(go_wp2_with fail);refine HC.out.mono ?_;rintro e w2 ⟨rfl,h1,h2⟩;have HH1:=h_ h1;have HH2:=h_ (grown_trans (grown_trans hg.out (grown_below HBB.out _)) h2);clear h1 h2;(go_wp2_with fail);refine ⟨rfl,?_⟩;rw [← HF.out];exact ⟨rfl,HH1.out,HH2.out⟩
    · rw [hy,if_pos rfl] at hr2;have HC:=h_ (take_yes hp2 t hkt hy);have HF:=h_ hr2;clear hcell hr hr2 hy hp2 hbb hTr;obtain ⟨kd,tx,nu,ln⟩:=t;unfold tV tS at HC;dsimp only at d0 d1 d2 d3 HC HBB;(go_wp2_with fail);refine HC.out.mono ?_;rintro e w2 ⟨rfl,h1,h2⟩;have HH1:=h_ h1;have HH2:=h_ (grown_trans (grown_trans hg.out (grown_below HBB.out _)) h2);clear h1 h2;go_wp2_with fail
      go_roundw
      (case rel=>exact ⟨j+1,v.tail,by omega,by go_num,HF,HH1,HH2⟩);case measure=>simp [intOf];omega
  · (obtain rfl:j=ts.length:=by omega);rw [List.drop_length] at hr;have HF:=h_ (show r = .ok () v from hr.out.symm);clear hr;(go_wp2_with fail);refine bodyPost_end (results_none rfl _ _ _) rfl ?_;rw [HF.out];exact ⟨rfl,hp.out,hg.out⟩
end
end Go.Proofs.Ytflhcdcifilfcaa

namespace Go.Proofs.Ytflhcdcifilfcaa
open Go Go.RowKit

section
variable {w w':World} {gp:Nat} {A:Option Addr} {c:Nat} {l u:List To} {fl:Bool} {B:Nat}
end
section
variable {w:World} {gp:Nat} {A:Option Addr} {c:Nat} {l u:List To} {fl:Bool}
end
end Go.Proofs.Ytflhcdcifilfcaa

namespace Go.Proofs.Ytflhcdcifilfcaa
open Go Go.RowKit

section
variable {w:World} {gp:Nat} {A:Option Addr} {c:Nat} {l u:List To} {fl:Bool}
def sgR (kd:Int) (tx:List UInt8) (u:List To):R Unit:=if isT kd tx u=true then .ok () u.tail else .bad u
end
end Go.Proofs.Ytflhcdcifilfcaa

namespace Go.Proofs.Ytflhcdcifilfcaa
open Go.ChangeShapes Go.WideShapes Go.ChangeAt Go.RowKit Go.Deep

section
variable {ops:Array Oper} {rest:List Oper} {o:Oper} {a:Act} {Q:Exit→Act→World→Prop} {C:Act→World→Prop} {α:Type}
theorem add_zero_off' (g o j:Nat):(⟨g,o,none⟩:Addr).add j=⟨g,o+j,none⟩:=add_zero_off g o j
theorem El.liesT_new (K:El α) (w:World) (xs:List α) (arr:Array Value) (h:∀ (i:Nat) (u:Value),(xs.flatMap K.f)[i]? = some u→arr[i]? = some u) :
 K.LiesT (w.alloc (.cells arr K.e)) (some ⟨w.heap.size,0,none⟩) xs:=fun _=>
 ⟨w.heap.size,0,rfl,HasT.new w arr K.e,fun j hj f u hu=>by
  have hf:f < K.sz:=by have:=(List.getElem?_eq_some_iff.1 hu).1;rwa [K.len] at this
  have e:=El.flat_get K xs j f hj hf;rw [hu] at e;have:=h _ _ e;rw [Nat.zero_add];simp only [World.cell?,heap_alloc_new]
  exact this⟩
theorem El.op_full1 (K:El α) (w:World) (sl:TypeId) (z:Value) (by_:Nat) (hu:Try.prog.underlying sl=some (.slice K.e)) (hi:(Try.prog.info? K.e).map (fun i=>(i.zero,i.size,i.bytes))=some (some z,K.sz,by_)) (hby:by_≤128)
 (s x:Operand) (ho:o.op = .call { callee:= .builtin .append,args:=#[s,x],argTypes:=#[sl,sl] })
 (A:Option Addr) (c L:Nat) (xs:List α) (hs:a.eval s = .slice A xs.length c) (hfull:c≤xs.length) (hA:A=none→c=0) (hl:K.Lies w L A xs) (hlc:xs.length≤c)
 (g c2:Nat) (y:α) (hx:a.eval x = .slice (some ⟨g,0,none⟩) 1 c2) (t:TypeId) (hy:w.heap[g]? = some (.cells (K.f y).toArray t (0,0)))
 (hn:xs.length≤1000000) (h:∀ c' w',K.LiesT w' (some ⟨w.heap.size,0,none⟩) (xs++[y])→xs.length+1≤c'→Below w.heap.size w w'→C (a.put o.dst (.slice (some ⟨w.heap.size,0,none⟩) (xs.length+1) c')) w'):Oper.wp Try.prog o a w C Q:=by
 obtain ⟨i0,hi0,hz0,hz1,hz2⟩:=info_parts hi;have hnew:∀ j v,(K.f y)[j]? = some v→w.cell? ((⟨g,0,none⟩:Addr).add j)=some v:=by
  intro j v hv;rw [add_zero_off];simp only [World.cell?,hy];simpa using hv
 have hyl:(K.f y).length=1*i0.size:=by rw [K.len,hz1,Nat.one_mul]
 have hbb:(xs.length+1)*i0.bytes≤140737488355328:=by
  have:=Nat.mul_le_mul (show xs.length+1≤1000001 by omega) (show i0.bytes≤128 by omega);omega
 have hfl:(xs++[y]).flatMap K.f=xs.flatMap K.f++K.f y:=by simp
 have hcap:=grownCap_ge w (xs.length+1) c K.e;have hin:∀ (zs:Array Value) (i:Nat) (u:Value),((xs++[y]).flatMap K.f)[i]? = some u→((xs.flatMap K.f).toArray++(K.f y).toArray++zs)[i]? = some u:=by
  intro zs i u hu2;rw [hfl] at hu2;have hlt:=(List.getElem?_eq_some_iff.1 hu2).1;rw [nH] at hlt;rw [Array.getElem?_append_left (by simpa using hlt)];simpa using hu2
 have hbw:∀ arr,Below w.heap.size w (w.drew.alloc (.cells arr K.e)):=fun arr=>((Below.refl _ w).drew).alloc (Nat.le_refl _) _
 rcases A with _ | ⟨g0,o0,p0⟩
 · obtain rfl:=hA rfl;have h0:xs=[]:=List.eq_nil_of_length_eq_zero (by omega);subst h0;have hr:=run_append_nil (P:=Try.prog) w sl o.type K.e i0 z hu hi0 hz0 ⟨g,0,none⟩ 1 c2 (K.f y) hyl hnew (by omega) (by omega) (by simp at hbb;omega);unfold Oper.wp execOp;simp only [ho,resolve,invoke,builtin,Sem.run_bind,Sem.run_pure,Result.andThen_ok,List.map_toArray,List.map_cons,List.map_nil,hs,hx,nG,hr];refine h _ _ (El.liesT_new K w.drew _ _ fun i u hu2=>?_) (by simpa using hcap) (hbw _);have:=hin (Builtin.zeroCells z.cells (grownCap w 1 0 K.e - 1)) i u hu2;simpa using this
 · have holds:∀ (j:Nat) (u:Value),(xs.flatMap K.f)[j]? = some u→w.cell? ((⟨g0,o0,p0⟩:Addr).add j)=some u:=by
    intro j u hu2;have hp:=K.pos;(have hj:j < xs.length*K.sz:=by have:=(List.getElem?_eq_some_iff.1 hu2).1;rwa [El.flat_len] at this);have hpos:0 < xs.length:=by
     rcases Nat.eq_zero_or_pos xs.length with q | q
     · rw [q] at hj;omega
     · exact q
    obtain ⟨g',o',e,_,hc⟩:=hl hpos;cases e;have hj2:j / K.sz < xs.length:=Nat.div_lt_of_lt_mul (by rw [Nat.mul_comm];exact hj);have hm:=Nat.mod_lt j hp;(have hdm:j / K.sz*K.sz+j % K.sz=j:=by rw [Nat.mul_comm];exact Nat.div_add_mod j K.sz);have e1:=El.flat_get K xs (j / K.sz) (j % K.sz) hj2 hm;rw [hdm,hu2] at e1;have:=hc (j / K.sz) hj2 (j % K.sz) u e1.symm;rw [add_zero_off']
    rwa [hdm] at this
   have hr:=run_append_grow (P:=Try.prog) w sl o.type K.e i0 z hu hi0 hz0 ⟨g0,o0,p0⟩ xs.length c (xs.flatMap K.f) (by rw [El.flat_len,hz1]) holds ⟨g,0,none⟩ 1 c2 (K.f y) hyl hnew (by omega) (by omega) (growslice_fits (by omega) hbb);unfold Oper.wp execOp;simp only [ho,resolve,invoke,builtin,Sem.run_bind,Sem.run_pure,Result.andThen_ok,List.map_toArray,List.map_cons,List.map_nil,hs,hx,hr];exact h _ _ (El.liesT_new K w.drew _ _ fun i u hu2=>hin _ i u hu2) hcap (hbw _)
end
end Go.Proofs.Ytflhcdcifilfcaa
