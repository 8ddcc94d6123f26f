/-
  Merged for a claim: S4E, S4F, S4G.
-/
import Derived.Test.YtflhcdcifilfcaaHJ19
import Derived.Test.YtflhcdcifilfcaaHJ21
import Derived.Test.YtflhcdcifilfcaaHJ3
namespace Go.Proofs.Ytflhcdcifilfcaa
open Go.ChangeShapes Go.WideShapes Go.ChangeAt Go.Deep
open Go Go.RowKit

structure LyW (B gy:Nat) (mo ln:Int) (fl:Bool) (vc v:Value) (L:List To) (W0 W:World):Prop where
 s:CAt W gy 84 [vc,.int .i64 ln,.int .i64 mo,.bool fl]
 r:eTo.Own W (gy+1) v L
 b:Below B W0 W
 f:FrT [84,77] W0 W
 n:B≤gy
section
variable {B gy:Nat} {mo ln:Int} {fl:Bool} {vc v v9:Value} {L:List To} {W0 W Z:World} {t:To}
theorem LyW.bs (h:LyW B gy mo ln fl vc v L W0 W):gy+1≤W.heap.size:=h.s.lt
theorem FrT.trans' {Ts:List TypeId} {W Z Y:World} (h:FrT Ts W Z) (h2:FrT Ts Z Y):FrT Ts W Y:=fun k e hk he=>(h2 k e (hk.same (h k e hk he)) he).trans (h k e hk he)
theorem LyW.below (h:LyW B gy mo ln fl vc v L W0 W) (hb:Below W.heap.size W Z):LyW B gy mo ln fl vc v L W0 Z:=
 ⟨h.s.below hb h.s.lt,h.r.below hb,h.b.trans (hb.mono (by have:=h.bs;have:=h.n;omega)),h.f.trans' (.of_below hb),h.n⟩
theorem LyW.drew (h:LyW B gy mo ln fl vc v L W0 W):LyW B gy mo ln fl vc v L W0 W.drew:=h.below ((Below.refl _ W).drew)
theorem LyW.app (h:LyW B gy mo ln fl vc v L W0 W) (hg:W.grownBy Z v.ownBlock) (ho:eTo.Own Z (gy+1) v9 (L++[t])):LyW B gy mo ln fl vc v9 (L++[t]) W0 Z:=by
 have hb:ButT eTo.e W Z:=ButT.grown hg fun k e=>h.r.has k e
 have hn:=h.n;have hs:=h.bs;have hB:Below B W Z:=(Below.refl _ _).grown hg (by omega) (fun k e=>by have:=(h.r.lt k e).1;omega);exact ⟨(hb gy _ ⟨_,_,h.s⟩ (by decide)).trans h.s,ho,h.b.trans hB,h.f.trans' (.of_but hb (by simp [eTo])),hn⟩
theorem LyW.set (h:LyW B gy mo ln fl vc v L W0 W) (j:Nat) (z:Value) {vd:Value} {mo2 ln2:Int} {fl2:Bool} (hs:([vc,.int .i64 ln,.int .i64 mo,.bool fl]:List Value).set j z=[vd,.int .i64 ln2,.int .i64 mo2,.bool fl2]):LyW B gy mo2 ln2 fl2 vd v L W0 (W.setCell ⟨gy,j,none⟩ z):=by
 have hb:ButT 84 W (W.setCell ⟨gy,j,none⟩ z):=ButT.set (p:=⟨gy,j,none⟩) ⟨_,_,h.s⟩ z;have hB:Below B W (W.setCell ⟨gy,j,none⟩ z):=(Below.refl _ _).setCell (p:=⟨gy,j,none⟩) h.n z;have h1:=h.s.set j z;rw [hs] at h1;exact ⟨h1,h.r.but hb (by decide),h.b.trans hB,h.f.trans' (.of_but hb (by simp)),h.n⟩
theorem LyW.setL (h:LyW B gy mo ln fl vc v L W0 W):LyW B gy mo ln fl v v L W0 (W.setCell ⟨gy,0,none⟩ v):=h.set 0 v rfl
theorem LyW.cells (h:LyW B gy mo ln fl vc v L W0 W):W.cell? ⟨gy,0,none⟩=some vc∧W.cell? ⟨gy,1,none⟩=some (.int .i64 ln)∧W.cell? ⟨gy,2,none⟩=some (.int .i64 mo)∧W.cell? ⟨gy,3,none⟩=some (.bool fl)∧W.frozen? ⟨gy,0,none⟩=false∧W.frozen? ⟨gy,1,none⟩=false∧W.frozen? ⟨gy,3,none⟩=false∧gy < W.heap.size:=
 ⟨h.s.cell (j:=0) (by simp),h.s.cell (j:=1) (by simp),h.s.cell (j:=2) (by simp),h.s.cell (j:=3) (by simp),h.s.frozen 0,h.s.frozen 1,h.s.frozen 3,h.s.lt⟩
theorem LyW.from_ {W1:World} (h:LyW B gy mo ln fl vc v L W1 W) (hb:Below B W0 W1) (hf:FrT [84,77] W0 W1):LyW B gy mo ln fl vc v L W0 W:=⟨h.s,h.r,hb.trans h.b,hf.trans' h.f,h.n⟩
theorem LyW.start (h:LyW B gy mo ln fl vc v L W0 W):LyW B gy mo ln fl vc v L W W:=⟨h.s,h.r,Below.refl _ _,fun _ _ _ _=>rfl,h.n⟩
end
def LyS (B gy:Nat) (mo ln:Int) (fl:Bool) (L:List To) (W0 W:World):Prop:=∃ v,LyW B gy mo ln fl v v L W0 W
def putsL (kd ln:Int) (ss:List (List UInt8)):List To:=ss.map fun s=>⟨kd,s,0,ln⟩
set_option maxRecDepth 100000 in
set_option maxHeartbeats 2000000 in
theorem put_any {B gy:Nat} {mo ln:Int} {fl:Bool} {L:List To} {W:World} (h:LyS B gy mo ln fl L W W) (kd:Int) (A:Option Addr) (c:Nat) (ss:List (List UInt8)) (hs:eSr.LiesT W A ss) (hl:L.length+ss.length≤1000000) :
 Calls Try.prog 29 #[.pointer (some ⟨gy,0,none⟩),.int .u8 kd,.slice A ss.length c] W (fun e W'=>e = .returned (.tuple #[])∧LyS B gy mo ln fl (L++putsL kd ln ss) W W'):=by
 obtain ⟨v,hv⟩:=h;have K0:=h_ hv;have HS:=h_ hs;have HL:=h_ hl;clear hv hs hl;go_enter Try.func29,Try.ntmps29;go_wp2_with fail
 go_loopw [6] (fun i wr=>∃ (k:Nat) (vL:Value),k≤ss.length∧i = .int .i64 k∧Hid (LyW B gy mo ln fl vL vL (L++putsL kd ln (ss.take k)) W wr)) (fun i _=>ss.length - (intOf i).toNat)
 case atStart=>exact ⟨0,v,by omega,rfl,by rw [List.take_zero,putsL,List.map_nil,List.append_nil];exact K0⟩
 case round=>
  clear K0;obtain ⟨k,vL,hk,rfl,K⟩:=hrel;have hln:=HL.out;by_cases hlt:k < ss.length
  · (have hki:(k:Int) < (ss.length:Int):=by omega);obtain ⟨g,o,rfl,hg,hcell⟩:=(HS.out.kept fun g ht=>K.out.f g _ ht (by decide)).lies.at_ hlt
    have HC:=h_ (show ∀ W2,FrT [84,77] W W2→W2.cell? ⟨g,o+k,none⟩=some (.string (str ss[k])) from fun W2 hf=>by
     obtain ⟨g2,o2,e2,_,hc2⟩:=(HS.out.kept fun g ht=>hf g _ ht (by decide)).lies.at_ hlt;cases e2;have:=hc2 0 _ rfl
     simpa [show eSr.sz=1 from rfl] using this)
    have HT:=h_ (show L++putsL kd ln (ss.take (k+1))=(L++putsL kd ln (ss.take k))++[⟨kd,ss[k],0,ln⟩] by rw [List.take_succ_eq_append_getElem hlt];unfold putsL;rw [List.map_append,← List.append_assoc];rfl);have HX:=h_ (show (L++putsL kd ln (ss.take k)).length≤1000000 by rw [nH,putsL,List.length_map,List.length_take];omega);obtain ⟨xs,hxs⟩:∃ xs,L++putsL kd ln (ss.take k)=xs:=⟨_,rfl⟩;rw [hxs] at K HT HX;clear hxs;generalize ss[k]=tx at *;have hgw:g < wr.heap.size:=hg;clear hcell;(go_wp2_with fail);refine wp_region_held_drew (S:=fun W9=>W9.cell? ⟨g,o+k,none⟩=some (.string (str tx))∧W9.cell? ⟨gy,1,none⟩=some (.int .i64 ln)) (by kernel_rfl) (⟨HC.out _ K.out.drew.f,K.out.drew.cells.2.1⟩) (fun hH=>?_);have HK1:=h_ K.out.drew;generalize wr.drew=Wd at *;refine heldTake (i:=0) (d:=some 13) (v:=?_) rfl rfl (by kernel_rfl) (by kernel_rfl) (by kernel_rfl) (fun _ _ _ h=>h) (by kernel_rfl) ?hyq_1 (by assumption) ?restq_1;(case hyq_1=>(intro W9 hSw;(try dsimp only at hSw);go_simp;try (with_reducible rfl)));(try simp only [Act.put,nA,nB,nC]);refine heldTake (i:=1) (d:=some 14) (v:=?_) rfl rfl (by kernel_rfl) (by kernel_rfl) (by kernel_rfl) (fun _ _ _ h=>h) (by kernel_rfl) ?hyq_2 (by assumption) ?restq_2;(case hyq_2=>(intro W9 hSw;(try dsimp only at hSw);go_simp;try (with_reducible rfl)));(try simp only [Act.put,nA,nB,nC]);refine heldTake (i:=2) (d:=some 15) (v:=?_) rfl rfl (by kernel_rfl) (by kernel_rfl) (by kernel_rfl) (fun _ _ _ h=>h) (by kernel_rfl) ?hyq_3 (by assumption) ?restq_3;(case hyq_3=>(intro W9 hSw;(try dsimp only at hSw);go_simp;try (with_reducible rfl)));(try simp only [Act.put,nA,nB,nC]);refine heldTake (i:=3) (d:=some 16) (v:=?_) rfl rfl (by kernel_rfl) (by kernel_rfl) (by kernel_rfl) (fun _ _ _ h=>h) (by kernel_rfl) ?hyq_4 (by assumption) ?restq_4;(case hyq_4=>(intro W9 hSw;(try dsimp only at hSw);go_simp;try (with_reducible rfl)));(try simp only [Act.put,nA,nB,nC]);refine heldTake (i:=5) (d:=some 18) (v:=?_) rfl rfl (by kernel_rfl) (by kernel_rfl) (by kernel_rfl) (fun _ _ _ h=>h) (by kernel_rfl) ?hyq_5 (by assumption) ?restq_5;(case hyq_5=>(intro W9 hSw;(try dsimp only at hSw);go_simp;try (with_reducible rfl)));(try simp only [Act.put,nA,nB,nC]);refine heldTake (i:=6) (d:=some 19) (v:=?_) rfl rfl (by kernel_rfl) (by kernel_rfl) (by kernel_rfl) (fun _ _ _ h=>h) (by kernel_rfl) ?hyq_6 (by assumption) ?restq_6;(case hyq_6=>(intro W9 hSw;(try dsimp only at hSw);go_simp;try (with_reducible rfl)));(try simp only [Act.put,nA,nB,nC]);refine heldTake (i:=7) (d:=some 20) (v:=?_) rfl rfl (by kernel_rfl) (by kernel_rfl) (by kernel_rfl) (fun _ _ _ h=>h) (by kernel_rfl) ?hyq_7 (by assumption) ?restq_7;(case hyq_7=>(intro W9 hSw;(try dsimp only at hSw);go_simp;try (with_reducible rfl)));(try simp only [Act.put,nA,nB,nC]);refine heldTake (i:=8) (d:=some 21) (v:=?_) rfl rfl (by kernel_rfl) (by kernel_rfl) (by kernel_rfl) (fun _ _ _ h=>h) (by kernel_rfl) ?hyq_8 (by assumption) ?restq_8;(case hyq_8=>(intro W9 hSw;(try dsimp only at hSw);go_simp;try (with_reducible rfl)));(try simp only [Act.put,nA,nB,nC]);refine heldTake (i:=9) (d:=some 22) (v:=?_) rfl rfl (by kernel_rfl) (by kernel_rfl) (by kernel_rfl) (fun _ _ _ h=>h) (by kernel_rfl) ?hyq_9 (by assumption) ?restq_9;(case hyq_9=>(intro W9 hSw;(try dsimp only at hSw);go_simp;try (with_reducible rfl)));(try simp only [Act.put,nA,nB,nC]);refine heldTake (i:=10) (d:=some 23) (v:=?_) rfl rfl (by kernel_rfl) (by kernel_rfl) (by kernel_rfl) (fun _ _ _ h=>h) (by kernel_rfl) ?hyq_10 (by assumption) ?restq_10;(case hyq_10=>(intro W9 hSw;(try dsimp only at hSw);go_simp;try (with_reducible rfl)));(try simp only [Act.put,nA,nB,nC]);refine heldTake (i:=11) (d:=some 24) (v:=?_) rfl rfl (by kernel_rfl) (by kernel_rfl) (by kernel_rfl) (fun _ _ _ h=>h) (by kernel_rfl) ?hyq_11 (by assumption) ?restq_11;(case hyq_11=>(intro W9 hSw;(try dsimp only at hSw);go_simp;try (with_reducible rfl)));(try simp only [Act.put,nA,nB,nC]);refine heldTake (i:=12) (d:=some 25) (v:=?_) rfl rfl (by kernel_rfl) (by kernel_rfl) (by kernel_rfl) (fun _ _ _ h=>h) (by kernel_rfl) ?hyq_12 (by assumption) ?restq_12;(case hyq_12=>(intro W9 hSw;(try dsimp only at hSw);go_simp;try (with_reducible rfl)));(try simp only [Act.put,nA,nB,nC]);refine heldTake (i:=13) (d:=some 26) (v:=?_) rfl rfl (by kernel_rfl) (by kernel_rfl) (by kernel_rfl) (fun _ _ _ h=>h) (by kernel_rfl) ?hyq_13 (by assumption) ?restq_13;(case hyq_13=>(intro W9 hSw;(try dsimp only at hSw);go_simp;try (with_reducible rfl)));(try simp only [Act.put,nA,nB,nC]);refine heldTake (i:=14) (d:=some 27) (v:=?_) rfl rfl (by kernel_rfl) (by kernel_rfl) (by kernel_rfl) (fun _ _ _ h=>h) (by kernel_rfl) ?hyq_14 (by assumption) ?restq_14;(case hyq_14=>(intro W9 hSw;(try dsimp only at hSw);go_simp;try (with_reducible rfl)));(try simp only [Act.put,nA,nB,nC]);refine wpAnyH_ready (rs:=[4,15]) (by kernel_rfl) (by simp) ?_;refine AllReadyH.cons rfl (fun K hK=>?_) (AllReadyH.cons rfl (fun K hK=>?_) AllReadyH.nil)
    · have ck2:=HK1.out.s.cell (j:=0) (by simp);simp only [nD] at ck2;go_simp;refine hK.out _ _ (⟨HC.out _ HK1.out.f,HK1.out.cells.2.1⟩) (fun hH=>?_);clear hK K;(try simp only [Act.put,nA,nB,nC]);clear ck2;refine nM (i:=15) (by kernel_rfl) rfl fun K hK=>?_;(try rw [if_pos (by kernel_rfl)]);refine El.op_build1 eTo Wd 22 (.agg #[.int .u8 0,.string ⟨#[]⟩,.int .i64 0,.int .i64 0]) 40 Try.underlying22 tok_info rfl (by decide) (.tmp 27) rfl (.agg #[.int .u8 kd,.string (str tx),.int .i64 0,.int .i64 ln]) (⟨kd,tx,0,ln⟩:To) rfl rfl ?_;change K (Act.put _ (some 28) (.slice (some ⟨Wd.heap.size,0,none⟩) 1 1)) (Wd.alloc (.cells #[.int .u8 kd,.string (str tx),.int .i64 0,.int .i64 ln] 77));have hbY:=below_lnew Wd (.cells #[.int .u8 kd,.string (str tx),.int .i64 0,.int .i64 ln] 77);have HB5:=h_ (heap_alloc_new Wd (.cells #[.int .u8 kd,.string (str tx),.int .i64 0,.int .i64 ln] 77));obtain ⟨Y4,hY⟩:∃ Y,Wd.alloc (.cells #[.int .u8 kd,.string (str tx),.int .i64 0,.int .i64 ln] 77)=Y:=⟨_,rfl⟩;rw [hY] at hbY HB5 ⊢;have HK3:=h_ (HK1.out.below hbY);clear hY hbY;refine hK.out _ _ (⟨HC.out _ HK3.out.f,HK3.out.cells.2.1⟩) (fun hH=>?_);clear hK K;(try simp only [Act.put,nA,nB,nC]);refine nM (i:=16) (by kernel_rfl) rfl fun K hK=>?_;(try rw [if_pos (by kernel_rfl)]);refine El.op_app1x eTo Y4 22 (.agg #[.int .u8 0,.string ⟨#[]⟩,.int .i64 0,.int .i64 0]) 40 Try.underlying22 tok_info rfl (by decide) (by decide) (.tmp 17) (.tmp 28) rfl (gy+1) vL xs rfl HK3.out.r Wd.heap.size 1 (⟨kd,tx,0,ln⟩:To) rfl 77 HB5.out HX.out HK3.out.bs ?_;intro v9 Z6 ho9 hg9 hk9;obtain ⟨g9,c9,rfl⟩:=El.Own.at0 ho9 (by simp);(have hl9:(xs++[(⟨kd,tx,0,ln⟩:To)]).length=xs.length+1:=by simp);have HK7:=h_ (LyW.app HK3.out hg9 ho9);change K (Act.put _ (some 29) (.slice (some ⟨g9,0,none⟩) (xs++[(⟨kd,tx,0,ln⟩:To)]).length c9)) Z6;rw [hl9];rw [hl9] at HK7;clear ho9 hg9 hk9;refine hK.out _ _ (⟨HC.out _ HK7.out.f,HK7.out.cells.2.1⟩) (fun hH=>?_);clear hK K;(try simp only [Act.put,nA,nB,nC]);refine heldTake (i:=17) (d:=some 30) (v:=?_) rfl rfl (by kernel_rfl) (by kernel_rfl) (by kernel_rfl) (fun _ _ _ h=>h) (by kernel_rfl) ?hyq_15 (by assumption) ?restq_15;(case hyq_15=>(intro W9 hSw;(try dsimp only at hSw);go_simp;try (with_reducible rfl)));(try simp only [Act.put,nA,nB,nC]);refine heldTake (i:=18) (d:=some 31) (v:=?_) rfl rfl (by kernel_rfl) (by kernel_rfl) (by kernel_rfl) (fun _ _ _ h=>h) (by kernel_rfl) ?hyq_16 (by assumption) ?restq_16;(case hyq_16=>(intro W9 hSw;(try dsimp only at hSw);go_simp;try (with_reducible rfl)));(try simp only [Act.put,nA,nB,nC]);refine nM (i:=19) (by kernel_rfl) rfl fun K hK=>?_;have ck10:=HK7.out.s.cell (j:=0) (by simp);have ck10f:=HK7.out.s.frozen 0;have ck10l:=HK7.out.s.lt;simp only [nD] at ck10;have HK8:=h_ (LyW.setL HK7.out);go_simp;obtain ⟨P9,hP9⟩:∃ P9,Z6.setCell ⟨gy,0,none⟩ (.slice (some ⟨g9,0,none⟩) (xs.length+1) c9)=P9:=⟨_,rfl⟩;rw [hP9] at HK8 ⊢;clear hP9 ck10 ck10f ck10l;refine hK.out _ _ (⟨HC.out _ HK8.out.f,HK8.out.cells.2.1⟩) (fun hH=>?_);clear hK K;(try simp only [Act.put,nA,nB,nC]);refine wpAnyH_done (by kernel_rfl) ?_ _;go_wp2_with fail
      go_roundw
      (case rel=>exact ⟨k+1,_,by omega,by go_num,by rw [HT.out];exact HK8⟩);case measure=>simp [intOf];omega
    · (try rw [if_pos (by kernel_rfl)]);refine El.op_build1 eTo Wd 22 (.agg #[.int .u8 0,.string ⟨#[]⟩,.int .i64 0,.int .i64 0]) 40 Try.underlying22 tok_info rfl (by decide) (.tmp 27) rfl (.agg #[.int .u8 kd,.string (str tx),.int .i64 0,.int .i64 ln]) (⟨kd,tx,0,ln⟩:To) rfl rfl ?_;change K (Act.put _ (some 28) (.slice (some ⟨Wd.heap.size,0,none⟩) 1 1)) (Wd.alloc (.cells #[.int .u8 kd,.string (str tx),.int .i64 0,.int .i64 ln] 77));have hbY:=below_lnew Wd (.cells #[.int .u8 kd,.string (str tx),.int .i64 0,.int .i64 ln] 77);have HB13:=h_ (heap_alloc_new Wd (.cells #[.int .u8 kd,.string (str tx),.int .i64 0,.int .i64 ln] 77));obtain ⟨Y12,hY⟩:∃ Y,Wd.alloc (.cells #[.int .u8 kd,.string (str tx),.int .i64 0,.int .i64 ln] 77)=Y:=⟨_,rfl⟩;rw [hY] at hbY HB13 ⊢;have HK11:=h_ (HK1.out.below hbY);clear hY hbY;refine hK.out _ _ (⟨HC.out _ HK11.out.f,HK11.out.cells.2.1⟩) (fun hH=>?_);clear hK K;(try simp only [Act.put,nA,nB,nC]);refine nM (i:=4) (by kernel_rfl) rfl fun K hK=>?_;have ck14:=HK11.out.s.cell (j:=0) (by simp);simp only [nD] at ck14;go_simp;refine hK.out _ _ (⟨HC.out _ HK11.out.f,HK11.out.cells.2.1⟩) (fun hH=>?_);clear hK K;(try simp only [Act.put,nA,nB,nC]);clear ck14;refine nM (i:=16) (by kernel_rfl) rfl fun K hK=>?_;(try rw [if_pos (by kernel_rfl)]);refine El.op_app1x eTo Y12 22 (.agg #[.int .u8 0,.string ⟨#[]⟩,.int .i64 0,.int .i64 0]) 40 Try.underlying22 tok_info rfl (by decide) (by decide) (.tmp 17) (.tmp 28) rfl (gy+1) vL xs rfl HK11.out.r Wd.heap.size 1 (⟨kd,tx,0,ln⟩:To) rfl 77 HB13.out HX.out HK11.out.bs ?_;intro v9 Z15 ho9 hg9 hk9;obtain ⟨g9,c9,rfl⟩:=El.Own.at0 ho9 (by simp);(have hl9:(xs++[(⟨kd,tx,0,ln⟩:To)]).length=xs.length+1:=by simp);have HK16:=h_ (LyW.app HK11.out hg9 ho9);change K (Act.put _ (some 29) (.slice (some ⟨g9,0,none⟩) (xs++[(⟨kd,tx,0,ln⟩:To)]).length c9)) Z15;rw [hl9];rw [hl9] at HK16;clear ho9 hg9 hk9;refine hK.out _ _ (⟨HC.out _ HK16.out.f,HK16.out.cells.2.1⟩) (fun hH=>?_);clear hK K;(try simp only [Act.put,nA,nB,nC]);refine heldTake (i:=17) (d:=some 30) (v:=?_) rfl rfl (by kernel_rfl) (by kernel_rfl) (by kernel_rfl) (fun _ _ _ h=>h) (by kernel_rfl) ?hyq_17 (by assumption) ?restq_17;(case hyq_17=>(intro W9 hSw;(try dsimp only at hSw);go_simp;try (with_reducible rfl)));(try simp only [Act.put,nA,nB,nC]);refine heldTake (i:=18) (d:=some 31) (v:=?_) rfl rfl (by kernel_rfl) (by kernel_rfl) (by kernel_rfl) (fun _ _ _ h=>h) (by kernel_rfl) ?hyq_18 (by assumption) ?restq_18;(case hyq_18=>(intro W9 hSw;(try dsimp only at hSw);go_simp;try (with_reducible rfl)));(try simp only [Act.put,nA,nB,nC]);refine nM (i:=19) (by kernel_rfl) rfl fun K hK=>?_;have ck19:=HK16.out.s.cell (j:=0) (by simp);have ck19f:=HK16.out.s.frozen 0;have ck19l:=HK16.out.s.lt;simp only [nD] at ck19;have HK17:=h_ (LyW.setL HK16.out);go_simp;obtain ⟨P18,hP9⟩:∃ P9,Z15.setCell ⟨gy,0,none⟩ (.slice (some ⟨g9,0,none⟩) (xs.length+1) c9)=P9:=⟨_,rfl⟩;rw [hP9] at HK17 ⊢;clear hP9 ck19 ck19f ck19l;refine hK.out _ _ (⟨HC.out _ HK17.out.f,HK17.out.cells.2.1⟩) (fun hH=>?_);clear hK K;(try simp only [Act.put,nA,nB,nC]);refine wpAnyH_done (by kernel_rfl) ?_ _;go_wp2_with fail
      go_roundw
      (case rel=>exact ⟨k+1,_,by omega,by go_num,by rw [HT.out];exact HK17⟩);case measure=>simp [intOf];omega
  · (obtain rfl:k=ss.length:=by omega);have HT:=h_ (show ss.take ss.length=ss from List.take_length);(have hki:¬ ((ss.length:Int) < (ss.length:Int)):=by omega);go_wp2_with fail
    go_end0
    exact ⟨rfl,_,by rw [← HT.out];exact K.out⟩
end Go.Proofs.Ytflhcdcifilfcaa

namespace Go.Proofs.Ytflhcdcifilfcaa
open Go Go.RowKit

theorem conv_one (w:World) (b:UInt8):(convert 34 9 (.slice (some ⟨w.heap.size,0,none⟩) 1 1)).run Try.prog (w.alloc (.cells #[.int .u8 (b.toNat:Int)] 5)) = .ok (.string (str [b])) (w.alloc (.cells #[.int .u8 (b.toNat:Int)] 5)):=
 conv_some _ ⟨w.heap.size,0,none⟩ [b] 1 (fun j hj=>by
  have h0:j=0:=by simp at hj;omega
  subst h0
  exact (show CAt (w.alloc (.cells #[.int .u8 (b.toNat:Int)] 5)) w.heap.size 5 [.int .u8 (b.toNat:Int)] from heap_alloc_new w _).cell (j:=0) (by simp))
theorem dgP_step {k:Nat} (t:List UInt8) (h:10≤k):dgP k t=dgP (k / 10) (UInt8.ofNat (48+k % 10)::t):=by rw [dgP,dif_pos h]
theorem dgP_last {k:Nat} (t:List UInt8) (h:¬ 10≤k):dgP k t=UInt8.ofNat (48+k)::t:=by rw [dgP,dif_neg h]
theorem dig_nat {k:Nat} (h:k < 10):((UInt8.ofNat (48+k)).toNat:Int)=48+(k:Int):=by
 rw [UInt8.toNat_ofNat'];omega
theorem str_addS (w:World) (x y:List UInt8) (h:x.length+y.length≤70000):(Op.stringOp .add (str x) (str y)).run Try.prog w = .ok (.string (str (x++y))) w:=by
 rw [run_string_add_sum _ _ _ (by simp [str,ByteArray.size];omega),str_append]
set_option maxRecDepth 100000 in
set_option maxHeartbeats 1000000 in
theorem digits_any (n:Nat) (hn:n < 10 ^ 19) (w:World):Calls Try.prog 66 #[.int .i64 (n:Int)] w (fun e w'=>e = .returned (.string (str (dgP n [])))∧Below w.heap.size w w'):=by
 obtain ⟨r,hr⟩:∃ r,dgP n []=r:=⟨_,rfl⟩;rw [hr];have HR:=h_ hr;have HN:=h_ hn;clear hr hn;go_enter Try.func66,Try.ntmps66;go_wp2_with fail
 go_loopw [0,3] (fun x s wr=>∃ (k j:Nat) (t:List UInt8),x = .int .i64 (k:Int)∧s = .string (str t)∧j≤18∧Hid (t.length=j)∧Hid (k < 10 ^ (19 - j))∧Hid (dgP k t=r)∧Hid (Below w.heap.size w wr)) (fun x _ _=>(intOf x).toNat)
 case atStart=>exact ⟨n,0,[],rfl,rfl,by omega,rfl,HN,HR,Below.refl _ _⟩
 case round=>
  obtain ⟨k,j,t,rfl,rfl,hj,ht,hk,hd,hB⟩:=hrel;have h19:k < 10 ^ 19:=Nat.lt_of_lt_of_le hk.out (Nat.pow_le_pow_right (by decide) (by omega));have e19:(10:Nat) ^ 19=10000000000000000000:=by decide
  have htl:=ht.out;by_cases h10:10≤k
  · (have hi:(10:Int)≤(k:Int):=by omega);have hr10:k % 10 < 10:=Nat.mod_lt _ (by decide);(have hrem:((k:Int)).tmod 10=((k % 10:Nat):Int):=by rw [Int.tmod_eq_emod_of_nonneg (by omega)];omega);(have hquo:((k:Int)).tdiv 10=((k / 10:Nat):Int):=by rw [Int.tdiv_eq_ediv_of_nonneg (by omega)];omega);obtain ⟨b,hb⟩:∃ b,UInt8.ofNat (48+k % 10)=b:=⟨_,rfl⟩;(have hbn:(48:Int)+((k % 10:Nat):Int)=(b.toNat:Int):=by rw [← hb,dig_nat hr10]);(have hcv:=fun w=>conv_one w b);(have hadd:=fun w=>str_addS w [b] t (by rw [List.length_singleton];omega));(have hb255:(b.toNat:Int) < 256:=by have:=b.toNat_lt;omega);have HD:=h_ (show dgP (k / 10) (b::t)=r by rw [← hb,← dgP_step t h10];exact hd.out);have HK:=h_ (show 10≤k∧k < 10 ^ (19 - j) from ⟨h10,hk.out⟩);have hj17:j≤17:=by
     rcases Nat.lt_or_ge 17 j with q | q
     · (have:j=18:=by omega);subst this;have:=hk.out;omega
     · exact q
    have HP:=h_ (show k / 10 < 10 ^ (19 - (j+1)) by
     have h1:=hk.out;rw [show 19 - j=19 - (j+1)+1 by omega,Nat.pow_succ] at h1
     omega)
    (have hq18:k / 10 < 1000000000000000000:=by rw [e19] at h19;omega);clear hb hd hk h19 e19;generalize k % 10=d at *;generalize hq:k / 10=q at *;(have hqk:q < k:=by omega);clear hq;(go_wp2_with fail);exact ⟨⟨q,j+1,b::t,rfl,rfl,by omega,h_ (by rw [nF];omega),HP,HD,h_ (hB.out.trans ((below_lnew wr _).mono hB.out.size))⟩,by simp [intOf];omega⟩
  · (have hi:¬ (10:Int)≤(k:Int):=by omega);(have hk10:k < 10:=by omega);obtain ⟨b,hb⟩:∃ b,UInt8.ofNat (48+k)=b:=⟨_,rfl⟩;(have hbn:(48:Int)+(k:Int)=(b.toNat:Int):=by rw [← hb,dig_nat hk10]);(have hcv:=fun w=>conv_one w b);(have hadd:=fun w=>str_addS w [b] t (by rw [List.length_singleton];omega));(have hb255:(b.toNat:Int) < 256:=by have:=b.toNat_lt;omega);have HD:=h_ (show b::t=r by rw [← hb,← dgP_last t h10];exact hd.out);clear hb hd hk h19 e19;(go_wp2_with fail);go_ret;exact ⟨by rw [← HD.out];rfl,hB.out.trans ((below_lnew wr _).mono hB.out.size)⟩
end Go.Proofs.Ytflhcdcifilfcaa

namespace Go.Proofs.Ytflhcdcifilfcaa
open Go.ChangeShapes Go.WideShapes Go.ChangeAt Go.Deep
open Go Go.RowKit

def Gd (fl fl':Bool) (L L':List To) (fine:Prop) (T:List To):Prop:=fl'=false→fl=false∧fine∧L'=L++T
theorem Gd.trans {a b c:Bool} {L L1 L2 T1 T2:List To} {p q:Prop} (h:Gd a b L L1 p T1) (h2:Gd b c L1 L2 q T2):Gd a c L L2 (p∧q) (T1++T2):=fun e=>by
 obtain ⟨h3,h4,h5⟩:=h2 e;obtain ⟨h6,h7,h8⟩:=h h3;exact ⟨h6,⟨h7,h4⟩,by rw [h5,h8,List.append_assoc]⟩
theorem Gd.put (fl:Bool) (L T:List To):Gd fl fl L (L++T) True T:=fun e=>⟨e,trivial,rfl⟩
theorem Gd.off {fl:Bool} {L L' T:List To} {p:Prop}:Gd fl true L L' p T:=fun e=>by cases e
theorem Gd.as {a b:Bool} {L L1 T T2:List To} {p q:Prop} (h:Gd a b L L1 p T) (hp:p→q) (hT:p→T=T2):Gd a b L L1 q T2:=fun e=>by
 obtain ⟨h1,h2,h3⟩:=h e;exact ⟨h1,hp h2,by rw [h3,hT h2]⟩
section
variable {B gy:Nat} {mo ln:Int} {fl fl':Bool} {L L':List To} {W0 W Z:World}
theorem LyS.start (h:LyS B gy mo ln fl L W0 W):LyS B gy mo ln fl L W W:=h.elim fun v hv=>⟨v,hv.start⟩
theorem LyS.next {mo2 ln2:Int} (h:LyS B gy mo ln fl L W0 W) (h2:LyS B gy mo2 ln2 fl' L' W Z):LyS B gy mo2 ln2 fl' L' W0 Z:=by
 obtain ⟨v,hv⟩:=h;obtain ⟨v2,hv2⟩:=h2;exact ⟨v2,hv2.from_ hv.b hv.f⟩
theorem LyS.below (h:LyS B gy mo ln fl L W0 W) (hb:Below W.heap.size W Z):LyS B gy mo ln fl L W0 Z:=h.elim fun v hv=>⟨v,hv.below hb⟩
theorem LyS.cells (h:LyS B gy mo ln fl L W0 W):W.cell? ⟨gy,1,none⟩=some (.int .i64 ln)∧W.cell? ⟨gy,2,none⟩=some (.int .i64 mo)∧W.cell? ⟨gy,3,none⟩=some (.bool fl)∧W.frozen? ⟨gy,1,none⟩=false∧W.frozen? ⟨gy,3,none⟩=false∧gy < W.heap.size:=by
 obtain ⟨v,hv⟩:=h;obtain ⟨_,h1,h2,h3,_,h5,h6,h7⟩:=hv.cells;exact ⟨h1,h2,h3,h5,h6,h7⟩
theorem LyS.fr (h:LyS B gy mo ln fl L W0 W):FrT [84,77] W0 W:=h.elim fun _ hv=>hv.f
theorem LyS.bl (h:LyS B gy mo ln fl L W0 W):Below B W0 W:=h.elim fun _ hv=>hv.b
theorem LyS.nb (h:LyS B gy mo ln fl L W0 W):B≤gy:=h.elim fun _ hv=>hv.n
theorem LyS.setF (h:LyS B gy mo ln fl L W0 W) (b:Bool):LyS B gy mo ln b L W0 (W.setCell ⟨gy,3,none⟩ (.bool b)):=h.elim fun v hv=>⟨v,hv.set 3 (.bool b) rfl⟩
theorem LyS.setN (h:LyS B gy mo ln fl L W0 W) (n:Int):LyS B gy mo n fl L W0 (W.setCell ⟨gy,1,none⟩ (.int .i64 n)):=h.elim fun v hv=>⟨v,hv.set 1 (.int .i64 n) rfl⟩
theorem LyS.put1 (h:LyS B gy mo ln fl L W0 W) (kd:Int) (s:List UInt8) (hl:L.length < 1000000) (g:Nat) (hg:g=W.heap.size) :
 Calls Try.prog 29 #[.pointer (some ⟨gy,0,none⟩),.int .u8 kd,.slice (some ⟨g,0,none⟩) 1 1] (W.alloc (.cells #[.string (str s)] 9)) (fun e W'=>e = .returned (.tuple #[])∧LyS B gy mo ln fl (L++[⟨kd,s,0,ln⟩]) W0 W'):=by
 subst hg;have hb:=below_lnew W (.cells #[.string (str s)] 9);have h1:=h.below hb;refine (put_any h1.start kd (some ⟨W.heap.size,0,none⟩) 1 [s] (El.liesT_new eSr W [s] #[.string (str s)] (fun i v h=>by simpa [eSr] using h)) (by simp;omega)).mono ?_;rintro e W' ⟨rfl,h2⟩;exact ⟨rfl,h1.next h2⟩
theorem LyS.put2 (h:LyS B gy mo ln fl L W0 W) (kd:Int) (s t:List UInt8) (hl:L.length+2≤1000000) (g:Nat) (hg:g=W.heap.size) :
 Calls Try.prog 29 #[.pointer (some ⟨gy,0,none⟩),.int .u8 kd,.slice (some ⟨g,0,none⟩) 2 2] (W.alloc (.cells #[.string (str s),.string (str t)] 9)) (fun e W'=>e = .returned (.tuple #[])∧LyS B gy mo ln fl (L++[⟨kd,s,0,ln⟩,⟨kd,t,0,ln⟩]) W0 W'):=by
 subst hg;have hb:=below_lnew W (.cells #[.string (str s),.string (str t)] 9);have h1:=h.below hb;refine (put_any h1.start kd (some ⟨W.heap.size,0,none⟩) 2 [s,t] (El.liesT_new eSr W [s,t] #[.string (str s),.string (str t)] (fun i v h=>by simpa [eSr] using h)) (by simpa using hl)).mono ?_;rintro e W' ⟨rfl,h2⟩;exact ⟨rfl,h1.next h2⟩
end
theorem refScan_len (A:Option Addr) (c:Nat) (l:List UInt8) (w:World) (hl:Lies w w.heap.size A l) (hlc:l.length≤c) (hA:A=none→c=0) :
 Calls Try.prog 11 #[.slice A l.length c] w (ScanR l w):=by
 by_cases hbig:16384 < l.length
 · (have hbi:(16384:Int) < (l.length:Int):=by omega);go_enter Try.func11,Try.ntmps11;go_wp2_with fail
   go_ret3
   exact ⟨Below.refl _ _,.inl ⟨hbig,rfl⟩⟩
 · exact refScan_any A c l w hl hlc hA (by omega)
set_option maxRecDepth 100000 in
set_option maxHeartbeats 1000000 in
theorem rname12_any (s:List UInt8) (w:World):Calls Try.prog 50 #[.string (str s)] w (fun e w'=>∃ b,e = .returned (.bool b)∧Below w.heap.size w w'):=by
 have hcv:=run_bytes_of_string w 9 34 5 (str s) Try.underlying9 Try.underlying34 Try.underlying5;have hsz:(str s).size=s.length:=by simp [str,ByteArray.size]
 rw [hsz] at hcv;have hcg:=grownCap_ge w s.length 0 5;have hB0:Below w.heap.size w (w.drew.alloc (.cells (bytesRow (str s) (grownCap w s.length 0 5)) 5 ((bytesRow (str s) (grownCap w s.length 0 5)).size,(bytesRow (str s) (grownCap w s.length 0 5)).size+1))):=((Below.refl _ w).drew).alloc (Nat.le_refl _) _;have hL0:=bytes_lie w s (grownCap w s.length 0 5) (bytesRow (str s) (grownCap w s.length 0 5)).size;have hz:(w.drew.alloc (.cells (bytesRow (str s) (grownCap w s.length 0 5)) 5 ((bytesRow (str s) (grownCap w s.length 0 5)).size,(bytesRow (str s) (grownCap w s.length 0 5)).size+1))).heap.size=w.heap.size+1:=by simp
 rw [← hz] at hL0;generalize w.drew.alloc (.cells (bytesRow (str s) (grownCap w s.length 0 5)) 5 ((bytesRow (str s) (grownCap w s.length 0 5)).size,(bytesRow (str s) (grownCap w s.length 0 5)).size+1))=w1 at *;have HS:=h_ (refScan_len _ _ s w1 hL0 hcg (fun e=>by cases e));have HB0:=h_ hB0;clear hL0 hB0 hz hsz;go_enter Try.func50,Try.ntmps50;go_wp2_with fail
 refine HS.out.mono ?_;rintro e w2 ⟨hb2,h2⟩;have HB2:=h_ (HB0.out.trans (hb2.mono HB0.out.size));clear hcv;rcases h2 with ⟨h,rfl⟩ | ⟨h,⟨k,hk,rfl⟩ | ⟨ts,v,hk,rfl,ho⟩⟩
 · clear HS hb2 HB0;(go_wp2_with fail);go_ret;exact ⟨_,rfl,HB2.out⟩
 · clear HS hb2 HB0 hk;(go_wp2_with fail);go_ret;exact ⟨_,rfl,HB2.out⟩
 · obtain ⟨A,c,rfl,_,_,h3⟩:=ho.form;have hlen:=scanP_few hk;have HL:=h_ h3;clear HS hb2 HB0 ho h3;by_cases h1:ts.length=1
   · obtain ⟨g,o,rfl,hg,hc⟩:=HL.out.lies.at_ (show 0 < ts.length by omega);generalize ts[0]=t at *;obtain ⟨kd,tx,nu,l9⟩:=t;have d0:=hc 0 _ rfl;have d1:=hc 1 _ rfl;simp only [Nat.zero_mul,Nat.add_zero] at d0 d1;(have h1i:(ts.length:Int)=1:=by omega);clear hk hc;(go_wp2_with fail);all_goals (go_ret;exact ⟨_,rfl,HB2.out⟩)
   · (have h1i:¬ (ts.length:Int)=1:=by omega);clear hk;(go_wp2_with fail);go_ret;exact ⟨_,rfl,HB2.out⟩
section
variable {B gy:Nat} {mo ln:Int} {fl:Bool} {L:List To} {W:World}
set_option maxRecDepth 100000 in
set_option maxHeartbeats 600000 in
theorem lname_any (h:LyS B gy mo ln fl L W W) (s:List UInt8) (hl:L.length < 1000000):Calls Try.prog 30 #[.pointer (some ⟨gy,0,none⟩),.string (str s)] W (fun e W'=>e = .returned (.tuple #[])∧∃ fl',Gd fl fl' L (L++[nmT s ln]) True [nmT s ln]∧LyS B gy mo ln fl' (L++[nmT s ln]) W W'):=by
 have H:=h_ h;obtain ⟨_,_,p3,_,f3,lg⟩:=h.cells;have HN:=h_ (rname12_any s);clear h;cases fl with
 | true=>
  go_enter Try.func30,Try.ntmps30;go_wp2_with fail
  refine ((H.out.setF true).put1 1 s hl _ (by simp)).mono ?_;rintro e W1 ⟨rfl,h1⟩;have H1:=h_ h1;clear h1 H;go_wp2_with fail
  go_end0
  exact ⟨rfl,true,Gd.off,H1.out⟩
 | false=>
  go_enter Try.func30,Try.ntmps30;go_wp2_with fail
  refine (HN.out _).mono ?_;rintro e W1 ⟨b,rfl,hb⟩;have H0:=h_ (H.out.below hb);obtain ⟨_,_,p3',_,f3',lg'⟩:=H0.out.cells;clear hb H p3 f3 lg;go_wp2_with fail
  refine ((H0.out.setF (!b)).put1 1 s hl _ (by simp)).mono ?_;rintro e W2 ⟨rfl,h1⟩;have H1:=h_ h1;clear h1 H0;go_wp2_with fail
  go_end0
  refine ⟨rfl,!b,?_,H1.out⟩;exact fun _=>⟨rfl,trivial,rfl⟩
end
end Go.Proofs.Ytflhcdcifilfcaa
