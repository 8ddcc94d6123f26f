/-
  Merged for a claim: S5R, S5Q2, S5Q3, S5Q4.
-/
import Derived.Test.YtflhcdcifilfcaaHP
import Derived.Test.YtflhcdcifilfcaaHJ13
namespace Go.Proofs.Ytflhcdcifilfcaa
open Go.ChangeShapes Go.WideShapes Go.ChangeAt Go.Deep
open Go Go.RowKit

theorem stsL_snoc (m:Nat) (s:St):∀ (l:List St) (l0:Int),stsL m l0 (l++[s])=((stsL m l0 l).1++(stL m (stsL m l0 l).2.2 s).1,(stsL m l0 l).2.1++[(stL m (stsL m l0 l).2.2 s).2.1],(stL m (stsL m l0 l).2.2 s).2.2)
 | [],l0=>by simp [stsL]
 | x::l,l0=>by
  rw [nI,stsL,stsL_snoc m s l,stsL];simp
theorem stsSw_take (m:Nat) (l:List XS) (j:Nat):stsSw m (xssd (l.take j))≤stsSw m (xssd l):=by
 have h:xssd l=xssd (l.take j)++xssd (l.drop j):=by rw [xssd_map,xssd_map,xssd_map,← List.map_append,List.take_append_drop]
 rw [h,stsSw_app];omega
structure Lb (B gy m:Nat) (fl0:Bool) (L0:List To) (P:Nat→Prop) (W0:World) (v:Value) (ts:List XS) (ln:Int) (fl:Bool) (L:List To) (p:Prop) (T:List To) (W:World):Prop where
 y:LyS B gy m ln fl L W0 W
 r:eSt.Own W W0.heap.size v ts
 k:xssOg B W (fun g=>(P g∨W0.heap.size≤g)∧v.ownBlock≠some g) ts
 g:Gd fl0 fl L0 L p T
 n:gy < W0.heap.size
section
variable {B gy m:Nat} {ln ln2 l0:Int} {fl0 fl fl2:Bool} {L0 L L2 T T2:List To} {P:Nat→Prop} {p q:Prop} {W0 W Z:World} {v v9:Value} {ts:List XS} {x:XS}
theorem Lb.step (h:Lb B gy m fl0 L0 P W0 v ts ln fl L p T W) (k:LyS B gy m ln2 fl2 L2 W Z) (hg:Gd fl fl2 L L2 q T2):Lb B gy m fl0 L0 P W0 v ts ln2 fl2 L2 (p∧q) (T++T2) Z:=
 ⟨h.y.next k,h.r.kept fun g ht=>k.fr g _ ht (by decide),xssOg.keep (fun g _ ht=>k.frG g _ ht (by decide)) (fun g _ ht=>k.frG g _ ht (by decide)) (fun _ q=>q) ts h.k,h.g.trans hg,h.n⟩
theorem Lb.below (h:Lb B gy m fl0 L0 P W0 v ts ln fl L p T W) (hb:Below W.heap.size W Z):Lb B gy m fl0 L0 P W0 v ts ln fl L p T Z:=
 ⟨h.y.below hb,h.r.below hb,xssOg.keep (fun g _ ht=>hb.block g ht.lt) (fun g _ ht=>hb.block g ht.lt) (fun _ q=>q) ts h.k,h.g,h.n⟩
theorem Lb.add (h:Lb B gy m fl0 L0 P W0 v ts ln fl L p T W) (hx:x.Og B W (fun g=>(P g∨W0.heap.size≤g)∧v.ownBlock≠some g)) (hg:W.grownBy Z v.ownBlock) (ho:eSt.Own Z W0.heap.size v9 (ts++[x])) (hk:∀ k,v9.ownBlock=some k→v.ownBlock=some k∨W.heap.size≤k):Lb B gy m fl0 L0 P W0 v9 (ts++[x]) ln fl L p T Z:=by
 have hs:W0.heap.size≤W.heap.size:=h.y.bl.size;have hb:ButT 51 W Z:=ButT.grown hg fun k e=>h.r.has k e
 have hB:Below W0.heap.size W Z:=(Below.refl _ _).grown hg hs (fun k e=>(h.r.lt k e).1);have key:∀ ys:List XS,xssOg B W (fun g=>(P g∨W0.heap.size≤g)∧v.ownBlock≠some g) ys→xssOg B Z (fun g=>(P g∨W0.heap.size≤g)∧v9.ownBlock≠some g) ys:=fun ys hy=>by
  refine xssOg.keep (P:=fun g=>((P g∨W0.heap.size≤g)∧v.ownBlock≠some g)∧g < W.heap.size) (fun g q hg'=>hg.block g hg'.lt (fun e=>q.1.2 e.symm)) (fun g q hg'=>hg.block g hg'.lt (fun e=>q.1.2 e.symm)) (fun g q=>⟨q.1.1,fun e=>?_⟩) ys (xssOg.low ys hy);rcases hk g e with e2 | e2
  · exact q.1.2 e2
  · omega
 exact ⟨h.y.but hb hB h.n,ho,(key ts h.k).append (key [x] ⟨hx,trivial⟩),h.g,h.n⟩
theorem eSt_cells {Z:World} {g o:Nat} {l:List XS} (h:LiesG eSt B Z (some ⟨g,o,none⟩) l) {i:Nat} (hi:i < l.length) {kd ln:Int} {nm f cl:List UInt8} {ty:Ty} {kA bA eA:Option Addr} {kc bc ec:Nat} {ks:List XT} {bd el:List XS} (hx:l[i]=XS.mk kd ln nm f cl ty kA kc ks bA bc bd eA ec el) :
 Z.cell? ⟨g,o+i*11,none⟩=some (.int .u8 kd)∧Z.cell? ⟨g,o+i*11+1,none⟩=some (.int .i64 ln)∧Z.cell? ⟨g,o+i*11+2,none⟩=some (.string (str nm))∧Z.cell? ⟨g,o+i*11+3,none⟩=some (.string (str f))∧Z.cell? ⟨g,o+i*11+4,none⟩=some (.string (str cl))∧Z.cell? ⟨g,o+i*11+5,none⟩=some (.int .u8 ty.kd)∧Z.cell? ⟨g,o+i*11+6,none⟩=some (.int .i64 ty.n)∧Z.cell? ⟨g,o+i*11+7,none⟩=some (.string (str ty.nm))∧Z.cell? ⟨g,o+i*11+8,none⟩=some (.slice kA ks.length kc)∧Z.cell? ⟨g,o+i*11+9,none⟩=some (.slice bA bd.length bc)∧Z.cell? ⟨g,o+i*11+10,none⟩=some (.slice eA el.length ec)∧g < Z.heap.size:=by
 obtain ⟨g2,o2,e,hg,hcell⟩:=h.lies.at_ hi;cases e;have:=hcell;rw [hx] at this;exact ⟨this 0 _ rfl,this 1 _ rfl,this 2 _ rfl,this 3 _ rfl,this 4 _ rfl,this 5 _ rfl,this 6 _ rfl,this 7 _ rfl,this 8 _ rfl,this 9 _ rfl,this 10 _ rfl,hg⟩
set_option maxRecDepth 100000 in
set_option maxHeartbeats 8000000 in
theorem lblock_any {l:List XS} (hI:∀ t∈l,LayS B gy m t):LayB B gy m l:=by
 intro P fl L l0 W A c h hr ho hl h0 h1;have HIH:=h_ hI;have HRW:=h_ hr;have HOK:=h_ (xssOg_all (xssOg.low l ho));have HLN:=h_ hl;have HL1:=h_ h1;have hgy:=h.cells.2.2.2.2.2;have HGY:=h_ hgy;have K0:=h_ h;have hkn:l.length≤1000000:=by
  have:∀ l:List XS,l.length≤stsSw m (xssd l):=fun l=>by
   induction l with
   | nil=>exact Nat.zero_le _
   | cons x l ih=>
    rw [xssd,stsSw,nF];(have:1≤x.d.sw m:=by cases x;rw [XS.d,St.sw];omega);omega
  have:=this l;omega
 obtain ⟨R,hR⟩:∃ R,BkL B gy m l0 fl L P (xssd l) W=R:=⟨_,rfl⟩;rw [hR];have HRR:=h_ hR;clear hI hr ho hl h1 h hR hgy;go_enter Try.func32,Try.ntmps32;go_wp2_with fail
 refine (K0.out.put1 4 [123] (by have:=HLN.out;omega) _ (by simp)).mono ?_;rintro e X ⟨rfl,h9⟩;have K1:=h_ h9;clear h9;go_wp2_with fail
 go_loopw [5,6] (fun v5 i wr=>∃ (k:Nat) (ts:List XS) (ln:Int) (fl2:Bool) (L2:List To),k≤l.length∧i = .int .i64 k∧Hid (Lb B gy m fl L P W v5 ts ln fl2 L2 ((∀ s∈xssd (l.take k),FineS s)∧xssd ts=(stsL m l0 (xssd (l.take k))).2.1∧ln=(stsL m l0 (xssd (l.take k))).2.2) (sgn [123] l0::(stsL m l0 (xssd (l.take k))).1) wr)∧Hid (ts.length=k)∧Hid (L2.length≤L.length+1+stsSw m (xssd (l.take k))∧l0≤ln∧ln≤l0+stsSw m (xssd (l.take k)))) (fun _ i _=>l.length - (intOf i).toNat)
 case atStart=>exact ⟨0,[],l0,fl,L++[sgn [123] l0],by omega,rfl,h_ ⟨K1.out,El.Own.nil _ _,by rw [xssOg];trivial,(Gd.put fl L [sgn [123] l0]).as (fun _=>⟨fun s hs=>absurd hs (by simp [xssd]),by rw [List.take_zero,xssd,stsL],by rw [List.take_zero,xssd,stsL]⟩) (fun _=>by rw [List.take_zero,xssd,stsL]),HGY.out⟩,h_ rfl,h_ ⟨by rw [nH,List.length_singleton];omega,by omega,by omega⟩⟩
 case round=>
  clear K1;obtain ⟨k,ts,ln,fl2,L2,hk,rfl,K,HTL,HB⟩:=hrel;by_cases hlt:k < l.length
  · (have hki:(k:Int) < (l.length:Int):=by omega);have HM:l[k]∈l:=List.getElem_mem hlt;have HXT:=h_ (show xssd (l.take (k+1))=xssd (l.take k)++[l[k].d] by rw [List.take_succ_eq_append_getElem hlt,xssd_map,xssd_map,List.map_append];rfl)
    have HW:=h_ (show stsSw m (xssd (l.take k))+l[k].d.sw m≤stsSw m (xssd l) by
     have:=stsSw_take m l (k+1);rw [HXT.out,stsSw_app,stsSw,stsSw] at this
     omega)
    have HX:=h_ (HIH.out _ HM);have HO:=h_ (HOK.out _ HM);obtain ⟨g,o,rfl⟩:∃ g o,A=some ⟨g,o,none⟩:=by
     obtain ⟨g,o,e,_⟩:=HRW.out.1.lies.at_ hlt;exact ⟨g,o,e⟩
    obtain ⟨kd,sl,nm,f,cl,ty,kA,kc,ks,bA,bc,bd,eA,ec,el,hx⟩:∃ kd sl nm f cl ty kA kc ks bA bc bd eA ec el,l[k]=XS.mk kd sl nm f cl ty kA kc ks bA bc bd eA ec el:=by
     cases l[k];exact ⟨_,_,_,_,_,_,_,_,_,_,_,_,_,_,_,rfl⟩
    obtain ⟨d0,d1,d2,d3,d4,d5,d6,d7,d8,d9,d10,dg⟩:=eSt_cells (liesG_keep HRW.out.1 HRW.out.2.2.2 (fun g _ ht=>K.out.y.frG g _ ht (by decide))) hlt hx;clear HM;generalize l[k]=t at *;have hko:=XS.Og.keep (Q:=fun g=>P g∧g < W.heap.size) (fun g _ ht=>K.out.y.frG g _ ht (by decide)) (fun g _ ht=>K.out.y.frG g _ ht (by decide)) (fun _ q=>q) _ HO.out;have HKD:=h_ (HX.out _ fl2 L2 ln wr K.out.y.start hko (by have:=HB.out.1;have:=HW.out;have:=HLN.out;omega) (by have:=HB.out.2;omega) (by have:=HB.out.2;have:=HW.out;have:=HL1.out;omega));clear hko HO HX;subst hx;unfold sV at HKD;rw [XS.cs] at HKD;(go_wp2_with fail);refine HKD.out.mono ?_;rintro e Z ⟨t',fl3,L3,ln3,rfl,g9,l9,b9,h9,o9⟩;have K3:=h_ (K.out.step h9 g9);have HB3:=h_ (And.intro l9 b9);obtain ⟨a0,a1,a2,a3,a4,ty',kA',kc',ks',bA',bc',bd',eA',ec',el'⟩:=t';(have hob:∀ g,u5.ownBlock=some g→W.heap.size≤g∧g < wr.heap.size:=fun g q=>⟨(K.out.r.lt g q).1,(K.out.r.lt g q).2.1⟩);have hbW:W.heap.size≤wr.heap.size:=K.out.y.bl.size;have HXX:=h_ ((o9.up (Q:=fun g=>(P g∨W.heap.size≤g)∧u5.ownBlock≠some g) fun g q=>⟨q.elim (fun q=> .inl q.1) (fun q=> .inr (by omega)),fun e=>by have:=hob g e;rcases q with q | q<;>omega⟩).below (below_lnew Z (.cells #[.int .u8 a0,.int .i64 a1,.string (str a2),.string (str a3),.string (str a4),.int .u8 ty'.kd,.int .i64 ty'.n,.string (str ty'.nm),.slice kA' ks'.length kc',.slice bA' bd'.length bc',.slice eA' el'.length ec'] 51)));have K5:=h_ (K3.out.below (below_lnew Z (.cells #[.int .u8 a0,.int .i64 a1,.string (str a2),.string (str a3),.string (str a4),.int .u8 ty'.kd,.int .i64 ty'.n,.string (str ty'.nm),.slice kA' ks'.length kc',.slice bA' bd'.length bc',.slice eA' el'.length ec'] 51)));have HBB:=h_ (heap_alloc_new Z (.cells #[.int .u8 a0,.int .i64 a1,.string (str a2),.string (str a3),.string (str a4),.int .u8 ty'.kd,.int .i64 ty'.n,.string (str ty'.nm),.slice kA' ks'.length kc',.slice bA' bd'.length bc',.slice eA' el'.length ec'] 51));have HLn:=h_ (show ts.length≤1000000 by have:=HTL.out;omega);clear g9 l9 b9 h9 o9 hob hbW HKD d0 d1 d2 d3 d4 d5 d6 d7 d8 d9 d10 dg K K3;unfold sV XS.cs;(go_wp2_with (at_builtin;refine El.app1x eSt _ rfl 46 (.agg #[.int .u8 0,.int .i64 0,.string ⟨#[]⟩,.string ⟨#[]⟩,.string ⟨#[]⟩,.int .u8 0,.int .i64 0,.string ⟨#[]⟩,.slice none 0 0,.slice none 0 0,.slice none 0 0]) 168 Try.underlying46 st_info rfl (by decide) (by decide) (.tmp 16) (.tmp 23) rfl W.heap.size u5 ts rfl K5.out.r Z.heap.size 1 (.mk a0 a1 a2 a3 a4 ty' kA' kc' ks' bA' bc' bd' eA' ec' el') rfl 51 HBB.out HLn.out K5.out.y.bl.size ?_;intro v9 Z9 ho9 hg9 hk9));have hR:=K5.out.add HXX.out hg9 ho9 hk9;refine ⟨⟨k+1,_,ln3,fl3,L3,by omega,by go_num,h_ ⟨hR.y,hR.r,hR.k,hR.g.as (fun q=>?_) (fun q=>?_),hR.n⟩,h_ (by rw [nH,HTL.out];rfl),h_ ?_⟩,by simp [intOf];omega⟩
    · obtain ⟨⟨q1,q2,q3⟩,q4,q5,q6⟩:=q;rw [HXT.out,stsL_snoc];refine ⟨fun s hs=>?_,?_,?_⟩
      · rcases List.mem_append.1 hs with hs | hs
        · exact q1 s hs
        · rw [List.mem_singleton.1 hs];exact q4
      · rw [xssd_map,List.map_append,← xssd_map,q2,← q3];show _++[_]=_;rw [q5]
      · rw [q6,q3]
    · obtain ⟨⟨q1,q2,q3⟩,q4,q5,q6⟩:=q;rw [HXT.out,stsL_snoc,← q3];rfl
    · have l1:=HB3.out;have l2:=HB.out;rw [HXT.out,stsSw_app,stsSw,stsSw];omega
  · (obtain rfl:k=l.length:=by omega);have HT:=h_ (show l.take l.length=l from List.take_length);rw [HT.out] at K HB;(go_wp2_with fail);refine (K.out.y.start.put1 4 [125] (by have:=HB.out.1;have:=HLN.out;omega) _ (by simp)).mono ?_;rintro e X4 ⟨rfl,h9⟩;have K4:=h_ (K.out.step h9 (Gd.put _ _ _));clear h9 K;(go_wp2_with fail);(try go_ret);rw [← HRR.out];obtain ⟨A2,c2,rfl,hrow⟩:=K4.out.r.rowP;refine ⟨A2,c2,ts,fl2,_,ln,rfl,K4.out.g.as (fun q=>q.1) (fun q=>?_),?_,HB.out.2,K4.out.y,(RowG.of hrow).keep (fun _ _ _=>rfl) (fun _ q=> .inr q),xssOg.keep (fun _ _ _=>rfl) (fun _ _ _=>rfl) (fun _ q=>q.1) ts K4.out.k⟩
    · simp [sgn]
    · have:=HB.out.1;rw [nH,List.length_singleton];omega
end
end Go.Proofs.Ytflhcdcifilfcaa

namespace Go.Proofs.Ytflhcdcifilfcaa
open Go.ChangeShapes Go.WideShapes Go.ChangeAt Go.Deep
open Go Go.RowKit
set_option maxRecDepth 100000 in
set_option maxHeartbeats 16000000 in
theorem lstmt_2 (B gy:Nat) {m:Nat} (hm:m≤1000000) (kd sl:Int) (nm f cl:List UInt8) (ty:Ty) (kA:Option Addr) (kc:Nat) (ks:List XT) (bA:Option Addr) (bc:Nat) (bd:List XS) (eA:Option Addr) (ec:Nat) (el:List XS) (hB:LayB B gy m bd) (hE:LayB B gy m el) (hr:(XS.mk kd sl nm f cl ty kA kc ks bA bc bd eA ec el).d.rg) (hkd:kd=2):LayS B gy m (.mk kd sl nm f cl ty kA kc ks bA bc bd eA ec el):=by
 intro P fl L l0 W h ho hl h0 h1;have HLB:=h_ hB;have HLE:=h_ hE;have hdx:(XS.mk kd sl nm f cl ty kA kc ks bA bc bd eA ec el).d = .mk kd sl nm f cl ty (xsd ks) (xssd bd) (xssd el):=by rw [XS.d]
 rw [hdx] at hr hl h1 ⊢;rw [St.rg] at hr;have HRG:=h_ hr;obtain ⟨N,hN⟩:∃ N,St.sw m (.mk kd sl nm f cl ty (xsd ks) (xssd bd) (xssd el))=N:=⟨_,rfl⟩;rw [hN] at hl h1;have HN:=h_ hN;have HLN:=h_ hl;have HL1:=h_ h1;have hl0:l0≤1000000:=by omega
 obtain ⟨R,hR⟩:∃ R,StL B gy m l0 fl L P (.mk kd sl nm f cl ty (xsd ks) (xssd bd) (xssd el)) W=R:=⟨_,rfl⟩;rw [hR];have HR:=h_ hR;have k0:=Ls.new h _ ho;have hgy:=h.cells.2.2.2.2.2;clear hB hE hr hN hl h1 hR hdx h ho;have hsz:(W.alloc (.cells (XS.mk kd sl nm f cl ty kA kc ks bA bc bd eA ec el).cs.toArray 51)).heap.size=W.heap.size+1:=by rw [World.size_alloc]
 obtain ⟨W1,hW1⟩:∃ W1,W.alloc (.cells (XS.mk kd sl nm f cl ty kA kc ks bA bc bd eA ec el).cs.toArray 51)=W1:=⟨_,rfl⟩;rw [hW1] at k0 hsz;rw [← hsz] at k0;clear hsz;obtain ⟨W2,hW2⟩:∃ W2,W1.alloc (.cells zSt.toArray 51)=W2:=⟨_,rfl⟩;rw [hW2] at k0;obtain ⟨gb,hgb⟩:∃ gb,W.heap.size=gb:=⟨_,rfl⟩;obtain ⟨gz,hgz⟩:∃ gz,W1.heap.size=gz:=⟨_,rfl⟩;rw [hgz] at k0;have k0:Ls B gy m l0 fl L P W gb gz (.mk kd sl nm f cl ty kA kc ks bA bc bd eA ec el) l0 fl L True [] 0 W2:=by rw [← hgb];exact k0
 have K0:=h_ k0;have K1:=h_ (show Ls B gy m l0 fl L P W gb gz (.mk kd (l0+1) nm f cl ty kA kc ks bA bc bd eA ec el) (l0+1) fl L True [] 0 ((W2.setCell ⟨gy,1,none⟩ (.int .i64 (l0+1))).setCell ⟨gb,1,none⟩ (.int .i64 (l0+1))) from (k0.line (l0+1)).set 1 (.int .i64 (l0+1)) rfl (by have:=(k0.line (l0+1)).o;rw [XS.Og] at this ⊢;exact this));clear k0;unfold sV;unfold XS.cs at hW1 ⊢;unfold zSt at hW2;dsimp only at hW1 hW2 ⊢;subst hkd;obtain ⟨⟨c0,c1,c2,c3,c4,c5,c6,c7,c8,c9,c10⟩,⟨f1,f9,f10⟩,cb⟩:=K0.out.cells;obtain ⟨q1,q2,q3,q4,q5,q6⟩:=K0.out.y.cells;obtain ⟨a1,a2,a3,a4,a5,a6⟩:=K0.out.apart;go_enter Try.func52,Try.ntmps52;go_wp2_with fail
 refine (fits_any _ 2 (l0+1) nm f cl ty.kd ty.n ty.nm kA bA eA ks.length kc bd.length bc el.length ec).mono ?_;rintro e X1 ⟨b9,rfl,hfit,hb9⟩;have K2:=h_ (K1.out.below hb9);clear K0 K1 hb9 hW1 hW2 hgb hgz hgy q1 q2 q3 q4 q5 q6 a1 a2 a3 a4 a5 a6;clear c0 c1 c2 c3 c4 c5 c6 c7 c8 c9 c10 f1 f9 f10 cb;cases b9 with
 | false=>
  clear hfit;obtain ⟨⟨c0,c1,c2,c3,c4,c5,c6,c7,c8,c9,c10⟩,⟨f1,f9,f10⟩,cb⟩:=K2.out.cells;obtain ⟨⟨z0,z1,z2,z3,z4,z5,z6,z7,z8,z9,z10⟩,⟨y0,y1,y2,y3,y4,y5,y6,y7,y8,y9,y10⟩,zb⟩:=K2.out.zeros;obtain ⟨a1,a2,a3,a4,a5,a6⟩:=K2.out.apart;obtain ⟨q1,q2,q3,q4,q5,q6⟩:=K2.out.y.cells;go_wp2_with fail
  rw [← HR.out];exact ls_end rfl rfl K2.out.off rfl (Nat.zero_le _) (by rw [St.sw];omega) (fun hp=>hp.elim)
 | true=>
  have HF:=h_ (hfit rfl);clear hfit;have HBD:Hid (bd=[]):=h_ (List.length_eq_zero_iff.1 (HF.out.b (by decide) (by decide)));have HEL:Hid (el=[]):=h_ (List.length_eq_zero_iff.1 (HF.out.e (by decide)));have HFL:Hid (f=[]):=h_ (HF.out.f (by decide));have HCL:Hid (cl=[]):=h_ (HF.out.c (by decide));have HTY:Hid (ty=ty0):=h_ (HF.out.t (by decide));have hk:=HF.out.kk (by decide) (by decide) (by decide) (by decide) (by decide);obtain ⟨x,rfl⟩:∃ x,ks=[x]:=List.length_eq_one_iff.1 hk;clear hk;obtain ⟨a0,a1',a2',a3',a4',A5,a6',ys⟩:=x;have HX0:Hid ((XT.mk a0 a1' a2' a3' a4' A5 a6' ys).d.rg):=h_ (by have:=HRG.out.2.1;rw [xsd,exsRg] at this;exact this.1);have HNN:Hid (N=17+((XT.mk a0 a1' a2' a3' a4' A5 a6' ys).d.wt m+2*(m+1))+stsSw m (xssd bd)+stsSw m (xssd el)):=h_ (by rw [← HN.out,St.sw];simp only [xsd,exsWt,nF,nG];omega);obtain ⟨gx,ox,rfl⟩:=K2.out.at_ (by simp);obtain ⟨⟨c0,c1,c2,c3,c4,c5,c6,c7,c8,c9,c10⟩,⟨f1,f9,f10⟩,cb⟩:=K2.out.cells;simp only [nF,nG,Nat.zero_add] at c8;go_wp2_with fail
  refine (K2.out.nam nm (by have:=K2.out.k;have:=HLN.out;have:=HNN.out;omega)).mono ?_;rintro e X3 ⟨rfl,fl3,h9⟩;have K3:=h_ h9;clear h9 K2;clear c0 c1 c2 c3 c4 c5 c6 c7 c8 c9 c10 f1 f9 f10 cb;obtain ⟨⟨c0,c1,c2,c3,c4,c5,c6,c7,c8,c9,c10⟩,⟨f1,f9,f10⟩,cb⟩:=K3.out.cells;simp only [nF,nG,Nat.zero_add] at c8;go_wp2_with fail
  refine (K3.out.put1 4 [61] (by have:=K3.out.k;have:=HLN.out;have:=HNN.out;omega) _ (by simp)).mono ?_;rintro e X4 ⟨rfl,h9⟩;have K4:=h_ h9;clear h9 K3;clear c0 c1 c2 c3 c4 c5 c6 c7 c8 c9 c10 f1 f9 f10 cb;obtain ⟨d0,d1,d2,d3,d4,d5,dg⟩:=K4.out.part rfl (i:=0) (by simp) rfl;simp only [Nat.zero_mul,Nat.add_zero] at d0 d1 d2 d3 d4 d5;have HKD:=h_ (K4.out.kid hm (x:= .mk a0 a1' a2' a3' a4' A5 a6' ys) (by simp) HX0.out (by have:=K4.out.k;have:=HLN.out;have:=HNN.out;omega));unfold xV at HKD;rw [XT.cs] at HKD;obtain ⟨⟨c0,c1,c2,c3,c4,c5,c6,c7,c8,c9,c10⟩,⟨f1,f9,f10⟩,cb⟩:=K4.out.cells;simp only [nF,nG,Nat.zero_add] at c8;go_wp2_with fail
  refine HKD.out.mono ?_;rintro e X5 ⟨rfl,fl5,L5,_,h9⟩;clear HKD d0 d1 d2 d3 d4 d5 dg;have K5:=h_ h9;clear h9 K4;clear c0 c1 c2 c3 c4 c5 c6 c7 c8 c9 c10 f1 f9 f10 cb;obtain ⟨⟨c0,c1,c2,c3,c4,c5,c6,c7,c8,c9,c10⟩,⟨f1,f9,f10⟩,cb⟩:=K5.out.cells;simp only [nF,nG,Nat.zero_add] at c8;go_wp2_with fail
  refine (K5.out.put1 4 [59] (by have:=K5.out.k;have:=HLN.out;have:=HNN.out;omega) _ (by simp)).mono ?_;rintro e X6 ⟨rfl,h9⟩;have K6:=h_ h9;clear h9 K5;clear c0 c1 c2 c3 c4 c5 c6 c7 c8 c9 c10 f1 f9 f10 cb;obtain ⟨⟨c0,c1,c2,c3,c4,c5,c6,c7,c8,c9,c10⟩,⟨f1,f9,f10⟩,cb⟩:=K6.out.cells;simp only [nF,nG,Nat.zero_add] at c8;obtain ⟨⟨z0,z1,z2,z3,z4,z5,z6,z7,z8,z9,z10⟩,⟨y0,y1,y2,y3,y4,y5,y6,y7,y8,y9,y10⟩,zb⟩:=K6.out.zeros;obtain ⟨a1,a2,a3,a4,a5,a6⟩:=K6.out.apart;go_wp2_with fail
  rw [← HR.out];refine ls_end rfl rfl K6.out rfl (by have:=HNN.out;have:=HN.out;omega) (by have:=HNN.out;have:=HN.out;omega) (fun hp=>?_);rw [HBD.out,HEL.out,HFL.out,HCL.out,HTY.out];refine ⟨.set _ _ _ hp.2,?_,?_,?_⟩
  · rw [stL,XS.d];rfl
  · rw [stL];rfl
  · rw [stL];simp [xsd,sgn,nmT]
end Go.Proofs.Ytflhcdcifilfcaa

namespace Go.Proofs.Ytflhcdcifilfcaa
open Go.ChangeShapes Go.WideShapes Go.ChangeAt Go.Deep
open Go Go.RowKit
set_option maxRecDepth 100000 in
set_option maxHeartbeats 16000000 in
theorem lstmt_3 (B gy:Nat) {m:Nat} (hm:m≤1000000) (kd sl:Int) (nm f cl:List UInt8) (ty:Ty) (kA:Option Addr) (kc:Nat) (ks:List XT) (bA:Option Addr) (bc:Nat) (bd:List XS) (eA:Option Addr) (ec:Nat) (el:List XS) (hB:LayB B gy m bd) (hE:LayB B gy m el) (hr:(XS.mk kd sl nm f cl ty kA kc ks bA bc bd eA ec el).d.rg) (hkd:kd=3):LayS B gy m (.mk kd sl nm f cl ty kA kc ks bA bc bd eA ec el):=by
 intro P fl L l0 W h ho hl h0 h1;have HLB:=h_ hB;have HLE:=h_ hE;have hdx:(XS.mk kd sl nm f cl ty kA kc ks bA bc bd eA ec el).d = .mk kd sl nm f cl ty (xsd ks) (xssd bd) (xssd el):=by rw [XS.d]
 rw [hdx] at hr hl h1 ⊢;rw [St.rg] at hr;have HRG:=h_ hr;obtain ⟨N,hN⟩:∃ N,St.sw m (.mk kd sl nm f cl ty (xsd ks) (xssd bd) (xssd el))=N:=⟨_,rfl⟩;rw [hN] at hl h1;have HN:=h_ hN;have HLN:=h_ hl;have HL1:=h_ h1;have hl0:l0≤1000000:=by omega
 obtain ⟨R,hR⟩:∃ R,StL B gy m l0 fl L P (.mk kd sl nm f cl ty (xsd ks) (xssd bd) (xssd el)) W=R:=⟨_,rfl⟩;rw [hR];have HR:=h_ hR;have k0:=Ls.new h _ ho;have hgy:=h.cells.2.2.2.2.2;clear hB hE hr hN hl h1 hR hdx h ho;have hsz:(W.alloc (.cells (XS.mk kd sl nm f cl ty kA kc ks bA bc bd eA ec el).cs.toArray 51)).heap.size=W.heap.size+1:=by rw [World.size_alloc]
 obtain ⟨W1,hW1⟩:∃ W1,W.alloc (.cells (XS.mk kd sl nm f cl ty kA kc ks bA bc bd eA ec el).cs.toArray 51)=W1:=⟨_,rfl⟩;rw [hW1] at k0 hsz;rw [← hsz] at k0;clear hsz;obtain ⟨W2,hW2⟩:∃ W2,W1.alloc (.cells zSt.toArray 51)=W2:=⟨_,rfl⟩;rw [hW2] at k0;obtain ⟨gb,hgb⟩:∃ gb,W.heap.size=gb:=⟨_,rfl⟩;obtain ⟨gz,hgz⟩:∃ gz,W1.heap.size=gz:=⟨_,rfl⟩;rw [hgz] at k0;have k0:Ls B gy m l0 fl L P W gb gz (.mk kd sl nm f cl ty kA kc ks bA bc bd eA ec el) l0 fl L True [] 0 W2:=by rw [← hgb];exact k0
 have K0:=h_ k0;have K1:=h_ (show Ls B gy m l0 fl L P W gb gz (.mk kd (l0+1) nm f cl ty kA kc ks bA bc bd eA ec el) (l0+1) fl L True [] 0 ((W2.setCell ⟨gy,1,none⟩ (.int .i64 (l0+1))).setCell ⟨gb,1,none⟩ (.int .i64 (l0+1))) from (k0.line (l0+1)).set 1 (.int .i64 (l0+1)) rfl (by have:=(k0.line (l0+1)).o;rw [XS.Og] at this ⊢;exact this));clear k0;unfold sV;unfold XS.cs at hW1 ⊢;unfold zSt at hW2;dsimp only at hW1 hW2 ⊢;subst hkd;obtain ⟨⟨c0,c1,c2,c3,c4,c5,c6,c7,c8,c9,c10⟩,⟨f1,f9,f10⟩,cb⟩:=K0.out.cells;obtain ⟨q1,q2,q3,q4,q5,q6⟩:=K0.out.y.cells;obtain ⟨a1,a2,a3,a4,a5,a6⟩:=K0.out.apart;go_enter Try.func52,Try.ntmps52;go_wp2_with fail
 refine (fits_any _ 3 (l0+1) nm f cl ty.kd ty.n ty.nm kA bA eA ks.length kc bd.length bc el.length ec).mono ?_;rintro e X1 ⟨b9,rfl,hfit,hb9⟩;have K2:=h_ (K1.out.below hb9);clear K0 K1 hb9 hW1 hW2 hgb hgz hgy q1 q2 q3 q4 q5 q6 a1 a2 a3 a4 a5 a6;clear c0 c1 c2 c3 c4 c5 c6 c7 c8 c9 c10 f1 f9 f10 cb;cases b9 with
 | false=>
  clear hfit;obtain ⟨⟨c0,c1,c2,c3,c4,c5,c6,c7,c8,c9,c10⟩,⟨f1,f9,f10⟩,cb⟩:=K2.out.cells;obtain ⟨⟨z0,z1,z2,z3,z4,z5,z6,z7,z8,z9,z10⟩,⟨y0,y1,y2,y3,y4,y5,y6,y7,y8,y9,y10⟩,zb⟩:=K2.out.zeros;obtain ⟨a1,a2,a3,a4,a5,a6⟩:=K2.out.apart;obtain ⟨q1,q2,q3,q4,q5,q6⟩:=K2.out.y.cells;go_wp2_with fail
  rw [← HR.out];exact ls_end rfl rfl K2.out.off rfl (Nat.zero_le _) (by rw [St.sw];omega) (fun hp=>hp.elim)
 | true=>
  have HF:=h_ (hfit rfl);clear hfit;have HBD:Hid (bd=[]):=h_ (List.length_eq_zero_iff.1 (HF.out.b (by decide) (by decide)));have HEL:Hid (el=[]):=h_ (List.length_eq_zero_iff.1 (HF.out.e (by decide)));have HFL:Hid (f=[]):=h_ (HF.out.f (by decide));have HCL:Hid (cl=[]):=h_ (HF.out.c (by decide));have HTY:Hid (ty=ty0):=h_ (HF.out.t (by decide));have hk:=HF.out.k2 (by decide);obtain ⟨x,x2,rfl⟩:∃ x x2,ks=[x,x2]:=by match ks,hk with | [x,y],_=>exact ⟨x,y,rfl⟩
  clear hk;obtain ⟨a0,a1',a2',a3',a4',A5,a6',ys⟩:=x;obtain ⟨b0,b1',b2',b3',b4',B5,b6',zs⟩:=x2;have HX0:Hid ((XT.mk a0 a1' a2' a3' a4' A5 a6' ys).d.rg):=h_ (by have:=HRG.out.2.1;rw [xsd,exsRg] at this;exact this.1);have HX1:Hid ((XT.mk b0 b1' b2' b3' b4' B5 b6' zs).d.rg):=h_ (by have:=HRG.out.2.1;rw [xsd,exsRg,xsd,exsRg] at this;exact this.2.1);have HNN:Hid (N=18+((XT.mk a0 a1' a2' a3' a4' A5 a6' ys).d.wt m+2*(m+1))+((XT.mk b0 b1' b2' b3' b4' B5 b6' zs).d.wt m+2*(m+1))+stsSw m (xssd bd)+stsSw m (xssd el)):=h_ (by rw [← HN.out,St.sw];simp only [xsd,exsWt,nF,nG];omega);obtain ⟨gx,ox,rfl⟩:=K2.out.at_ (by simp);obtain ⟨⟨c0,c1,c2,c3,c4,c5,c6,c7,c8,c9,c10⟩,⟨f1,f9,f10⟩,cb⟩:=K2.out.cells;simp only [nF,nG,Nat.zero_add] at c8;go_wp2_with fail
  refine (K2.out.nam nm (by have:=K2.out.k;have:=HLN.out;have:=HNN.out;omega)).mono ?_;rintro e X3 ⟨rfl,fl3,h9⟩;have K3:=h_ h9;clear h9 K2;clear c0 c1 c2 c3 c4 c5 c6 c7 c8 c9 c10 f1 f9 f10 cb;obtain ⟨⟨c0,c1,c2,c3,c4,c5,c6,c7,c8,c9,c10⟩,⟨f1,f9,f10⟩,cb⟩:=K3.out.cells;simp only [nF,nG,Nat.zero_add] at c8;go_wp2_with fail
  refine (K3.out.put1 4 [91] (by have:=K3.out.k;have:=HLN.out;have:=HNN.out;omega) _ (by simp)).mono ?_;rintro e X4 ⟨rfl,h9⟩;have K4:=h_ h9;clear h9 K3;clear c0 c1 c2 c3 c4 c5 c6 c7 c8 c9 c10 f1 f9 f10 cb;obtain ⟨d0,d1,d2,d3,d4,d5,dg⟩:=K4.out.part rfl (i:=0) (by simp) rfl;simp only [Nat.zero_mul,Nat.add_zero] at d0 d1 d2 d3 d4 d5;have HKD:=h_ (K4.out.kid hm (x:= .mk a0 a1' a2' a3' a4' A5 a6' ys) (by simp) HX0.out (by have:=K4.out.k;have:=HLN.out;have:=HNN.out;omega));unfold xV at HKD;rw [XT.cs] at HKD;obtain ⟨⟨c0,c1,c2,c3,c4,c5,c6,c7,c8,c9,c10⟩,⟨f1,f9,f10⟩,cb⟩:=K4.out.cells;simp only [nF,nG,Nat.zero_add] at c8;go_wp2_with fail
  refine HKD.out.mono ?_;rintro e X5 ⟨rfl,fl5,L5,_,h9⟩;clear HKD d0 d1 d2 d3 d4 d5 dg;have K5:=h_ h9;clear h9 K4;clear c0 c1 c2 c3 c4 c5 c6 c7 c8 c9 c10 f1 f9 f10 cb;obtain ⟨⟨c0,c1,c2,c3,c4,c5,c6,c7,c8,c9,c10⟩,⟨f1,f9,f10⟩,cb⟩:=K5.out.cells;simp only [nF,nG,Nat.zero_add] at c8;go_wp2_with fail
  refine (K5.out.put1 4 [93] (by have:=K5.out.k;have:=HLN.out;have:=HNN.out;omega) _ (by simp)).mono ?_;rintro e X6 ⟨rfl,h9⟩;have K6:=h_ h9;clear h9 K5;clear c0 c1 c2 c3 c4 c5 c6 c7 c8 c9 c10 f1 f9 f10 cb;obtain ⟨⟨c0,c1,c2,c3,c4,c5,c6,c7,c8,c9,c10⟩,⟨f1,f9,f10⟩,cb⟩:=K6.out.cells;simp only [nF,nG,Nat.zero_add] at c8;go_wp2_with fail
  refine (K6.out.put1 4 [61] (by have:=K6.out.k;have:=HLN.out;have:=HNN.out;omega) _ (by simp)).mono ?_;rintro e X7 ⟨rfl,h9⟩;have K7:=h_ h9;clear h9 K6;clear c0 c1 c2 c3 c4 c5 c6 c7 c8 c9 c10 f1 f9 f10 cb;obtain ⟨d0,d1,d2,d3,d4,d5,dg⟩:=K7.out.part rfl (i:=1) (by simp) rfl;simp only [Nat.one_mul] at d0 d1 d2 d3 d4 d5;have HKD:=h_ (K7.out.kid hm (x:= .mk b0 b1' b2' b3' b4' B5 b6' zs) (by simp) HX1.out (by have:=K7.out.k;have:=HLN.out;have:=HNN.out;omega));unfold xV at HKD;rw [XT.cs] at HKD;obtain ⟨⟨c0,c1,c2,c3,c4,c5,c6,c7,c8,c9,c10⟩,⟨f1,f9,f10⟩,cb⟩:=K7.out.cells;simp only [nF,nG,Nat.zero_add] at c8;go_wp2_with fail
  refine HKD.out.mono ?_;rintro e X8 ⟨rfl,fl8,L8,_,h9⟩;clear HKD d0 d1 d2 d3 d4 d5 dg;have K8:=h_ h9;clear h9 K7;clear c0 c1 c2 c3 c4 c5 c6 c7 c8 c9 c10 f1 f9 f10 cb;obtain ⟨⟨c0,c1,c2,c3,c4,c5,c6,c7,c8,c9,c10⟩,⟨f1,f9,f10⟩,cb⟩:=K8.out.cells;simp only [nF,nG,Nat.zero_add] at c8;go_wp2_with fail
  refine (K8.out.put1 4 [59] (by have:=K8.out.k;have:=HLN.out;have:=HNN.out;omega) _ (by simp)).mono ?_;rintro e X9 ⟨rfl,h9⟩;have K9:=h_ h9;clear h9 K8;clear c0 c1 c2 c3 c4 c5 c6 c7 c8 c9 c10 f1 f9 f10 cb;obtain ⟨⟨c0,c1,c2,c3,c4,c5,c6,c7,c8,c9,c10⟩,⟨f1,f9,f10⟩,cb⟩:=K9.out.cells;simp only [nF,nG,Nat.zero_add] at c8;obtain ⟨⟨z0,z1,z2,z3,z4,z5,z6,z7,z8,z9,z10⟩,⟨y0,y1,y2,y3,y4,y5,y6,y7,y8,y9,y10⟩,zb⟩:=K9.out.zeros;obtain ⟨a1,a2,a3,a4,a5,a6⟩:=K9.out.apart;go_wp2_with fail
  rw [← HR.out];refine ls_end rfl rfl K9.out rfl (by have:=HNN.out;have:=HN.out;omega) (by have:=HNN.out;have:=HN.out;omega) (fun hp=>?_);rw [HBD.out,HEL.out,HFL.out,HCL.out,HTY.out];refine ⟨.elem _ _ _ _ hp.1.2 hp.2,?_,?_,?_⟩
  · rw [stL,XS.d];rfl
  · rw [stL];rfl
  · rw [stL];simp [xsd,sgn,nmT]
end Go.Proofs.Ytflhcdcifilfcaa

namespace Go.Proofs.Ytflhcdcifilfcaa
open Go.ChangeShapes Go.WideShapes Go.ChangeAt Go.Deep
open Go Go.RowKit
set_option maxRecDepth 100000 in
set_option maxHeartbeats 16000000 in
theorem lstmt_4 (B gy:Nat) {m:Nat} (hm:m≤1000000) (kd sl:Int) (nm f cl:List UInt8) (ty:Ty) (kA:Option Addr) (kc:Nat) (ks:List XT) (bA:Option Addr) (bc:Nat) (bd:List XS) (eA:Option Addr) (ec:Nat) (el:List XS) (hB:LayB B gy m bd) (hE:LayB B gy m el) (hr:(XS.mk kd sl nm f cl ty kA kc ks bA bc bd eA ec el).d.rg) (hkd:kd=4):LayS B gy m (.mk kd sl nm f cl ty kA kc ks bA bc bd eA ec el):=by
 intro P fl L l0 W h ho hl h0 h1;have HLB:=h_ hB;have HLE:=h_ hE;have hdx:(XS.mk kd sl nm f cl ty kA kc ks bA bc bd eA ec el).d = .mk kd sl nm f cl ty (xsd ks) (xssd bd) (xssd el):=by rw [XS.d]
 rw [hdx] at hr hl h1 ⊢;rw [St.rg] at hr;have HRG:=h_ hr;obtain ⟨N,hN⟩:∃ N,St.sw m (.mk kd sl nm f cl ty (xsd ks) (xssd bd) (xssd el))=N:=⟨_,rfl⟩;rw [hN] at hl h1;have HN:=h_ hN;have HLN:=h_ hl;have HL1:=h_ h1;have hl0:l0≤1000000:=by omega
 obtain ⟨R,hR⟩:∃ R,StL B gy m l0 fl L P (.mk kd sl nm f cl ty (xsd ks) (xssd bd) (xssd el)) W=R:=⟨_,rfl⟩;rw [hR];have HR:=h_ hR;have k0:=Ls.new h _ ho;have hgy:=h.cells.2.2.2.2.2;clear hB hE hr hN hl h1 hR hdx h ho;have hsz:(W.alloc (.cells (XS.mk kd sl nm f cl ty kA kc ks bA bc bd eA ec el).cs.toArray 51)).heap.size=W.heap.size+1:=by rw [World.size_alloc]
 obtain ⟨W1,hW1⟩:∃ W1,W.alloc (.cells (XS.mk kd sl nm f cl ty kA kc ks bA bc bd eA ec el).cs.toArray 51)=W1:=⟨_,rfl⟩;rw [hW1] at k0 hsz;rw [← hsz] at k0;clear hsz;obtain ⟨W2,hW2⟩:∃ W2,W1.alloc (.cells zSt.toArray 51)=W2:=⟨_,rfl⟩;rw [hW2] at k0;obtain ⟨gb,hgb⟩:∃ gb,W.heap.size=gb:=⟨_,rfl⟩;obtain ⟨gz,hgz⟩:∃ gz,W1.heap.size=gz:=⟨_,rfl⟩;rw [hgz] at k0;have k0:Ls B gy m l0 fl L P W gb gz (.mk kd sl nm f cl ty kA kc ks bA bc bd eA ec el) l0 fl L True [] 0 W2:=by rw [← hgb];exact k0
 have K0:=h_ k0;have K1:=h_ (show Ls B gy m l0 fl L P W gb gz (.mk kd (l0+1) nm f cl ty kA kc ks bA bc bd eA ec el) (l0+1) fl L True [] 0 ((W2.setCell ⟨gy,1,none⟩ (.int .i64 (l0+1))).setCell ⟨gb,1,none⟩ (.int .i64 (l0+1))) from (k0.line (l0+1)).set 1 (.int .i64 (l0+1)) rfl (by have:=(k0.line (l0+1)).o;rw [XS.Og] at this ⊢;exact this));clear k0;unfold sV;unfold XS.cs at hW1 ⊢;unfold zSt at hW2;dsimp only at hW1 hW2 ⊢;subst hkd;obtain ⟨⟨c0,c1,c2,c3,c4,c5,c6,c7,c8,c9,c10⟩,⟨f1,f9,f10⟩,cb⟩:=K0.out.cells;obtain ⟨q1,q2,q3,q4,q5,q6⟩:=K0.out.y.cells;obtain ⟨a1,a2,a3,a4,a5,a6⟩:=K0.out.apart;go_enter Try.func52,Try.ntmps52;go_wp2_with fail
 refine (fits_any _ 4 (l0+1) nm f cl ty.kd ty.n ty.nm kA bA eA ks.length kc bd.length bc el.length ec).mono ?_;rintro e X1 ⟨b9,rfl,hfit,hb9⟩;have K2:=h_ (K1.out.below hb9);clear K0 K1 hb9 hW1 hW2 hgb hgz hgy q1 q2 q3 q4 q5 q6 a1 a2 a3 a4 a5 a6;clear c0 c1 c2 c3 c4 c5 c6 c7 c8 c9 c10 f1 f9 f10 cb;cases b9 with
 | false=>
  clear hfit;obtain ⟨⟨c0,c1,c2,c3,c4,c5,c6,c7,c8,c9,c10⟩,⟨f1,f9,f10⟩,cb⟩:=K2.out.cells;obtain ⟨⟨z0,z1,z2,z3,z4,z5,z6,z7,z8,z9,z10⟩,⟨y0,y1,y2,y3,y4,y5,y6,y7,y8,y9,y10⟩,zb⟩:=K2.out.zeros;obtain ⟨a1,a2,a3,a4,a5,a6⟩:=K2.out.apart;obtain ⟨q1,q2,q3,q4,q5,q6⟩:=K2.out.y.cells;go_wp2_with fail
  rw [← HR.out];exact ls_end rfl rfl K2.out.off rfl (Nat.zero_le _) (by rw [St.sw];omega) (fun hp=>hp.elim)
 | true=>
  have HF:=h_ (hfit rfl);clear hfit;have HBD:Hid (bd=[]):=h_ (List.length_eq_zero_iff.1 (HF.out.b (by decide) (by decide)));have HEL:Hid (el=[]):=h_ (List.length_eq_zero_iff.1 (HF.out.e (by decide)));have HCL:Hid (cl=[]):=h_ (HF.out.c (by decide));have HTY:Hid (ty=ty0):=h_ (HF.out.t (by decide));have hk:=HF.out.kk (by decide) (by decide) (by decide) (by decide) (by decide);obtain ⟨x,rfl⟩:∃ x,ks=[x]:=List.length_eq_one_iff.1 hk;clear hk;obtain ⟨a0,a1',a2',a3',a4',A5,a6',ys⟩:=x;have HX0:Hid ((XT.mk a0 a1' a2' a3' a4' A5 a6' ys).d.rg):=h_ (by have:=HRG.out.2.1;rw [xsd,exsRg] at this;exact this.1);have HNN:Hid (N=17+((XT.mk a0 a1' a2' a3' a4' A5 a6' ys).d.wt m+2*(m+1))+stsSw m (xssd bd)+stsSw m (xssd el)):=h_ (by rw [← HN.out,St.sw];simp only [xsd,exsWt,nF,nG];omega);obtain ⟨gx,ox,rfl⟩:=K2.out.at_ (by simp);obtain ⟨⟨c0,c1,c2,c3,c4,c5,c6,c7,c8,c9,c10⟩,⟨f1,f9,f10⟩,cb⟩:=K2.out.cells;simp only [nF,nG,Nat.zero_add] at c8;go_wp2_with fail
  refine (K2.out.nam nm (by have:=K2.out.k;have:=HLN.out;have:=HNN.out;omega)).mono ?_;rintro e X3 ⟨rfl,fl3,h9⟩;have K3:=h_ h9;clear h9 K2;clear c0 c1 c2 c3 c4 c5 c6 c7 c8 c9 c10 f1 f9 f10 cb;obtain ⟨⟨c0,c1,c2,c3,c4,c5,c6,c7,c8,c9,c10⟩,⟨f1,f9,f10⟩,cb⟩:=K3.out.cells;simp only [nF,nG,Nat.zero_add] at c8;go_wp2_with fail
  refine (K3.out.put1 4 [46] (by have:=K3.out.k;have:=HLN.out;have:=HNN.out;omega) _ (by simp)).mono ?_;rintro e X4 ⟨rfl,h9⟩;have K4:=h_ h9;clear h9 K3;clear c0 c1 c2 c3 c4 c5 c6 c7 c8 c9 c10 f1 f9 f10 cb;obtain ⟨⟨c0,c1,c2,c3,c4,c5,c6,c7,c8,c9,c10⟩,⟨f1,f9,f10⟩,cb⟩:=K4.out.cells;simp only [nF,nG,Nat.zero_add] at c8;go_wp2_with fail
  refine (K4.out.nam f (by have:=K4.out.k;have:=HLN.out;have:=HNN.out;omega)).mono ?_;rintro e X5 ⟨rfl,fl5,h9⟩;have K5:=h_ h9;clear h9 K4;clear c0 c1 c2 c3 c4 c5 c6 c7 c8 c9 c10 f1 f9 f10 cb;obtain ⟨⟨c0,c1,c2,c3,c4,c5,c6,c7,c8,c9,c10⟩,⟨f1,f9,f10⟩,cb⟩:=K5.out.cells;simp only [nF,nG,Nat.zero_add] at c8;go_wp2_with fail
  refine (K5.out.put1 4 [61] (by have:=K5.out.k;have:=HLN.out;have:=HNN.out;omega) _ (by simp)).mono ?_;rintro e X6 ⟨rfl,h9⟩;have K6:=h_ h9;clear h9 K5;clear c0 c1 c2 c3 c4 c5 c6 c7 c8 c9 c10 f1 f9 f10 cb;obtain ⟨d0,d1,d2,d3,d4,d5,dg⟩:=K6.out.part rfl (i:=0) (by simp) rfl;simp only [Nat.zero_mul,Nat.add_zero] at d0 d1 d2 d3 d4 d5;have HKD:=h_ (K6.out.kid hm (x:= .mk a0 a1' a2' a3' a4' A5 a6' ys) (by simp) HX0.out (by have:=K6.out.k;have:=HLN.out;have:=HNN.out;omega));unfold xV at HKD;rw [XT.cs] at HKD;obtain ⟨⟨c0,c1,c2,c3,c4,c5,c6,c7,c8,c9,c10⟩,⟨f1,f9,f10⟩,cb⟩:=K6.out.cells;simp only [nF,nG,Nat.zero_add] at c8;go_wp2_with fail
  refine HKD.out.mono ?_;rintro e X7 ⟨rfl,fl7,L7,_,h9⟩;clear HKD d0 d1 d2 d3 d4 d5 dg;have K7:=h_ h9;clear h9 K6;clear c0 c1 c2 c3 c4 c5 c6 c7 c8 c9 c10 f1 f9 f10 cb;obtain ⟨⟨c0,c1,c2,c3,c4,c5,c6,c7,c8,c9,c10⟩,⟨f1,f9,f10⟩,cb⟩:=K7.out.cells;simp only [nF,nG,Nat.zero_add] at c8;go_wp2_with fail
  refine (K7.out.put1 4 [59] (by have:=K7.out.k;have:=HLN.out;have:=HNN.out;omega) _ (by simp)).mono ?_;rintro e X8 ⟨rfl,h9⟩;have K8:=h_ h9;clear h9 K7;clear c0 c1 c2 c3 c4 c5 c6 c7 c8 c9 c10 f1 f9 f10 cb;obtain ⟨⟨c0,c1,c2,c3,c4,c5,c6,c7,c8,c9,c10⟩,⟨f1,f9,f10⟩,cb⟩:=K8.out.cells;simp only [nF,nG,Nat.zero_add] at c8;obtain ⟨⟨z0,z1,z2,z3,z4,z5,z6,z7,z8,z9,z10⟩,⟨y0,y1,y2,y3,y4,y5,y6,y7,y8,y9,y10⟩,zb⟩:=K8.out.zeros;obtain ⟨a1,a2,a3,a4,a5,a6⟩:=K8.out.apart;go_wp2_with fail
  rw [← HR.out];refine ls_end rfl rfl K8.out rfl (by have:=HNN.out;have:=HN.out;omega) (by have:=HNN.out;have:=HN.out;omega) (fun hp=>?_);rw [HBD.out,HEL.out,HCL.out,HTY.out];refine ⟨.field _ _ _ _ hp.2,?_,?_,?_⟩
  · rw [stL,XS.d];rfl
  · rw [stL];rfl
  · rw [stL];simp [xsd,sgn,nmT]
end Go.Proofs.Ytflhcdcifilfcaa
