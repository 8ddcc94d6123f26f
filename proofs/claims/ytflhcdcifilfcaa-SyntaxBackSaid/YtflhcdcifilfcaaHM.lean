/-
  Merged for a claim: S6K, S6L, S6M.
-/
import Derived.Test.YtflhcdcifilfcaaHI
import Derived.Test.YtflhcdcifilfcaaHV
import Derived.Test.YtflhcdcifilfcaaHB2
import Derived.Test.YtflhcdcifilfcaaHJ19
namespace Go.Proofs.Ytflhcdcifilfcaa
open Go.ChangeShapes Go.WideShapes Go.ChangeAt Go.Deep
open Go Go.RowKit

def scsC:List ScM→Nat
 | []=>0
 | s::l=>1+s.fs.length+scsC l
def dcsC:List DcM→Nat
 | []=>0
 | d::l=>1+d.ps.length+stsC (xssd d.bd)+dcsC l
theorem scsC_app:∀ a b:List ScM,scsC (a++b)=scsC a+scsC b
 | [],b=>by rw [nJ,scsC];omega
 | x::a,b=>by rw [nI,scsC,scsC,scsC_app a b];omega
theorem dcsC_app:∀ a b:List DcM,dcsC (a++b)=dcsC a+dcsC b
 | [],b=>by rw [nJ,dcsC];omega
 | x::a,b=>by rw [nI,dcsC,dcsC,dcsC_app a b];omega
theorem scsC_take (l:List ScM) {k:Nat} (hk:k < l.length):scsC (l.take (k+1))=scsC (l.take k)+1+l[k].fs.length:=by
 rw [List.take_succ_eq_append_getElem hk,scsC_app,scsC,scsC];omega
theorem dcsC_take (l:List DcM) {k:Nat} (hk:k < l.length):dcsC (l.take (k+1))=dcsC (l.take k)+1+l[k].ps.length+stsC (xssd l[k].bd):=by
 rw [List.take_succ_eq_append_getElem hk,dcsC_app,dcsC,dcsC];omega
theorem scsC_len:∀ (l:List ScM) (k:Nat),(l.take k).length≤scsC (l.take k):=fun l k=>by
 generalize l.take k=m;induction m with
 | nil=>exact Nat.zero_le _
 | cons x m ih=>rw [scsC,nF];omega
theorem dcsC_len:∀ (l:List DcM) (k:Nat),(l.take k).length≤dcsC (l.take k):=fun l k=>by
 generalize l.take k=m;induction m with
 | nil=>exact Nat.zero_le _
 | cons x m ih=>rw [dcsC,nF];omega
def VastR (pg:PgM) (w:World) (e:Ending) (w':World):Prop:=∃ b,e = .returned (.bool b)∧(b=false→scsC pg.ss+dcsC pg.fs≤1500)∧Below w.heap.size w w'
set_option maxRecDepth 100000 in
set_option maxHeartbeats 8000000 in
theorem vast_any (pg:PgM) (w:World) (ho:pg.Og w.heap.size w (fun _=>True)) (hz:pg.sized) :
 Calls Try.prog 12 #[.agg pg.cs.toArray] w (VastR pg w):=by
 obtain ⟨A1,c1,ss,A2,c2,fs⟩:=pg;obtain ⟨o1,o2,o3,o4⟩:=ho;obtain ⟨hz1,hz2⟩:=hz;have hb:=below_lnew w (.cells #[.slice A1 ss.length c1,.slice A2 fs.length c2] 27);have HL1:=h_ (o1.1.lies.below hb);have HL2:=h_ (o2.1.lies.below hb);have hcx:CAt (w.alloc (.cells #[.slice A1 ss.length c1,.slice A2 fs.length c2] 27)) w.heap.size 27 [.slice A1 ss.length c1,.slice A2 fs.length c2]:=heap_alloc_new w _;have HO4:=h_ (fun d hd=>(o4 d hd).keep (Q:=fun _=>True) (fun g _ ht=>hb.block g ht.lt) (fun g _ ht=>hb.block g ht.lt) (fun g _ ht=>hb.block g ht.lt) (fun _ q=>q));have HZ1:=h_ hz1;have HZ2:=h_ hz2;have HB:=h_ hb;unfold PgM.cs;dsimp only;obtain ⟨R,hR⟩:∃ R,VastR ⟨A1,c1,ss,A2,c2,fs⟩ w=R:=⟨_,rfl⟩;rw [hR];have HRR:=h_ hR;clear hR;obtain ⟨w1,hw1⟩:∃ w1,w.alloc (.cells #[.slice A1 ss.length c1,.slice A2 fs.length c2] 27)=w1:=⟨_,rfl⟩;have hs1:w.heap.size < w1.heap.size:=by rw [← hw1,World.size_alloc];omega
 obtain ⟨gp,hgp⟩:∃ g,w.heap.size=g:=⟨_,rfl⟩;rw [hw1] at HL1 HL2 hcx HO4 HB;rw [hgp] at hcx HL1 HL2;have p0:=hcx.cell (j:=0) (by simp);have p1:=hcx.cell (j:=1) (by simp);simp only [nD,nE] at p0 p1;have HGP:=h_ (show gp < w1.heap.size by omega);clear o1 o2 o3 o4 hz1 hz2 hb hcx hs1;go_enter Try.func12,Try.ntmps12;go_upto_region 1 with fail
 clear hw1 hgp;go_wp2_with fail
 go_loopw [3,4] (fun s3 s4 wr=>∃ k n:Nat,k≤ss.length∧s3 = .int .i64 n∧s4 = .int .i64 k∧wr=w1∧Hid (n=scsC (ss.take k))∧n≤8796093030000) (fun _ s4 _=>ss.length - (intOf s4).toNat)
 case atStart=>exact ⟨0,0,by omega,rfl,rfl,rfl,h_ (by simp [scsC]),by omega⟩
 case round=>
  obtain ⟨k,n,hk,rfl,rfl,rfl,HN,hnb⟩:=hrel;have hgw:=HGP.out;have HKL:=h_ (scsC_len ss k);by_cases hgo:k < ss.length∧n≤1500
  · obtain ⟨hlt,hn⟩:=hgo;(have hki:(k:Int) < (ss.length:Int):=by omega);(have hni:(n:Int)≤1500:=by omega);(have hkb:k≤1500:=by have:=HKL.out;rw [List.length_take,← HN.out] at this;omega);obtain ⟨g,o,rfl,hg,hc⟩:=HL1.out.at_ hlt;have HTK:=h_ (scsC_take ss hlt);have HX:=h_ (HZ1.out _ (List.getElem_mem hlt));generalize ss[k]=x at *;obtain ⟨xn,xA,xc,xf⟩:=x;have d1:=hc 1 _ rfl;simp only [show eSc.sz=2 from rfl] at d1;(have hgx:g < wr.heap.size:=by omega);have hxb:xf.length≤8796093022208:=HX.out;clear hc;(go_wp2_with fail);refine ⟨⟨k+1,n+1+xf.length,by omega,by go_num,by go_num,by trivial,h_ ?_,by omega⟩,by simp [intOf];omega⟩;have:=HTK.out;rw [this,← HN.out]
  · have HT0:=h_ (show n≤1500→k=ss.length by omega);by_cases hlt:k < ss.length
    · (have hki:(k:Int) < (ss.length:Int):=by omega);(have hni:¬ (n:Int)≤1500:=by omega);(have hnj:(1500:Int) < (n:Int):=by omega);clear hgo;go_wp2_with fail
      go_loopw [3,5] (fun s3 s5 wr2=>∃ j n2:Nat,j≤fs.length∧s3 = .int .i64 n2∧s5 = .int .i64 j∧wr2=wr∧Hid (n2≤1500→n2=scsC ss+dcsC (fs.take j))∧n2≤8796093060000) (fun _ s5 _=>fs.length - (intOf s5).toNat)
      (case atStart=>exact ⟨0,n,by omega,rfl,rfl,rfl,h_ (fun h=>by have h2:=HT0.out h;have h3:=HN.out;rw [h2,List.take_length] at h3;simp [dcsC];omega),by omega⟩);case round=>
       obtain ⟨j,n2,hj,rfl,rfl,rfl,HN2,hnb2⟩:=hrel;have hgw:=HGP.out;by_cases hl2:j < fs.length
       · (have hji:(j:Int) < (fs.length:Int):=by omega);by_cases hn2:n2≤1500
         · (have hni2:(n2:Int)≤1500:=by omega);(have hjb:j≤1500:=by have h2:=HN2.out hn2;have h3:=dcsC_len fs j;rw [List.length_take] at h3;omega);obtain ⟨g,o,rfl,hg,hc⟩:=HL2.out.at_ hl2;have HTK:=h_ (dcsC_take fs hl2);have HX:=h_ (HZ2.out _ (List.getElem_mem hl2));have HO:=h_ (HO4.out _ (List.getElem_mem hl2));generalize fs[j]=x at *;obtain ⟨dn,dl,pA,pc,ps,rs,bA,bc,bd⟩:=x;have d2:=hc 2 _ rfl;have d6:=hc 6 _ rfl;simp only [show eDc.sz=7 from rfl] at d2 d6;(have hgx:g < wr.heap.size:=by omega);have hxb:ps.length≤8796093022208:=HX.out;clear hc;obtain ⟨n3,hn3⟩:∃ m,n2+1+ps.length=m:=⟨_,rfl⟩;(have hn3i:(n2:Int)+1+(ps.length:Int)=(n3:Int):=by omega);have HN3:=h_ hn3;(have hn3b:n3≤8796093040000:=by omega);clear hn3;by_cases h3:n3≤1500
           · (have h3i:(n3:Int)≤1500:=by omega);have HK:=h_ (stmts_any w.heap.size (fun _=>True) bd bA bc ((1500:Int) - (n3:Int)) (1500 - n3) _ (by omega) (by omega) HO.out.2.1.1 HO.out.2.2);obtain ⟨r,hr⟩:∃ r,min (stsC (xssd bd)) (1500 - n3+1)=r:=⟨_,rfl⟩;rw [hr] at HK;have HR:=h_ hr;(have hrb:r≤1501:=by omega);clear hr;(go_wp2_with fail);refine HK.out.mono ?_;rintro e w' ⟨rfl,rfl⟩;clear HK d2 d6;(go_wp2_with fail);refine ⟨⟨j+1,n3+r,by omega,by go_num,by go_num,by trivial,h_ (fun h=>?_),by omega⟩,by simp [intOf];omega⟩;have h2:=HN2.out hn2;have h4:=HTK.out;have h5:=HN3.out;have h6:=HR.out;rw [h4];(try dsimp only);omega
           · (have h3i:¬ (n3:Int)≤1500:=by omega);(have h3j:(1500:Int) < (n3:Int):=by omega);(go_wp2_with fail);refine ⟨⟨j+1,n3,by omega,by go_num,by go_num,by trivial,h_ (fun h=>?_),by omega⟩,by simp [intOf];omega⟩;omega
         · (have hni2:¬ (n2:Int)≤1500:=by omega);(have hnj2:(1500:Int) < (n2:Int):=by omega);(go_wp2_with fail);(all_goals (try go_ret));(all_goals rw [← HRR.out]);(all_goals refine ⟨_,rfl,fun h=>?_,HB.out⟩);all_goals (exact absurd h (by simp))
       · (have hji:¬ (j:Int) < (fs.length:Int):=by omega);(obtain rfl:j=fs.length:=by omega);have HTF:=h_ (show fs.take fs.length=fs from List.take_length);by_cases hn2:n2≤1500
         · (have hnj2:¬ (1500:Int) < (n2:Int):=by omega);(go_wp2_with fail);(all_goals (try go_ret));(all_goals rw [← HRR.out]);(all_goals refine ⟨_,rfl,fun h=>?_,HB.out⟩);all_goals (have h2:=HN2.out (by assumption);have h3:=HTF.out;rw [h3] at h2;show scsC ss+dcsC fs≤1500;omega)
         · (have hnj2:(1500:Int) < (n2:Int):=by omega);(go_wp2_with fail);(all_goals (try go_ret));(all_goals rw [← HRR.out]);(all_goals refine ⟨_,rfl,fun h=>?_,HB.out⟩);all_goals (exact absurd h (by simp))
    · (have hki:¬ (k:Int) < (ss.length:Int):=by omega);clear hgo;go_wp2_with fail
      go_loopw [3,5] (fun s3 s5 wr2=>∃ j n2:Nat,j≤fs.length∧s3 = .int .i64 n2∧s5 = .int .i64 j∧wr2=wr∧Hid (n2≤1500→n2=scsC ss+dcsC (fs.take j))∧n2≤8796093060000) (fun _ s5 _=>fs.length - (intOf s5).toNat)
      (case atStart=>exact ⟨0,n,by omega,rfl,rfl,rfl,h_ (fun h=>by have h2:=HT0.out h;have h3:=HN.out;rw [h2,List.take_length] at h3;simp [dcsC];omega),by omega⟩);case round=>
       obtain ⟨j,n2,hj,rfl,rfl,rfl,HN2,hnb2⟩:=hrel;have hgw:=HGP.out;by_cases hl2:j < fs.length
       · (have hji:(j:Int) < (fs.length:Int):=by omega);by_cases hn2:n2≤1500
         · (have hni2:(n2:Int)≤1500:=by omega);(have hjb:j≤1500:=by have h2:=HN2.out hn2;have h3:=dcsC_len fs j;rw [List.length_take] at h3;omega);obtain ⟨g,o,rfl,hg,hc⟩:=HL2.out.at_ hl2;have HTK:=h_ (dcsC_take fs hl2);have HX:=h_ (HZ2.out _ (List.getElem_mem hl2));have HO:=h_ (HO4.out _ (List.getElem_mem hl2));generalize fs[j]=x at *;obtain ⟨dn,dl,pA,pc,ps,rs,bA,bc,bd⟩:=x;have d2:=hc 2 _ rfl;have d6:=hc 6 _ rfl;simp only [show eDc.sz=7 from rfl] at d2 d6;(have hgx:g < wr.heap.size:=by omega);have hxb:ps.length≤8796093022208:=HX.out;clear hc;obtain ⟨n3,hn3⟩:∃ m,n2+1+ps.length=m:=⟨_,rfl⟩;(have hn3i:(n2:Int)+1+(ps.length:Int)=(n3:Int):=by omega);have HN3:=h_ hn3;(have hn3b:n3≤8796093040000:=by omega);clear hn3;by_cases h3:n3≤1500
           · (have h3i:(n3:Int)≤1500:=by omega);have HK:=h_ (stmts_any w.heap.size (fun _=>True) bd bA bc ((1500:Int) - (n3:Int)) (1500 - n3) _ (by omega) (by omega) HO.out.2.1.1 HO.out.2.2);obtain ⟨r,hr⟩:∃ r,min (stsC (xssd bd)) (1500 - n3+1)=r:=⟨_,rfl⟩;rw [hr] at HK;have HR:=h_ hr;(have hrb:r≤1501:=by omega);clear hr;(go_wp2_with fail);refine HK.out.mono ?_;rintro e w' ⟨rfl,rfl⟩;clear HK d2 d6;(go_wp2_with fail);refine ⟨⟨j+1,n3+r,by omega,by go_num,by go_num,by trivial,h_ (fun h=>?_),by omega⟩,by simp [intOf];omega⟩;have h2:=HN2.out hn2;have h4:=HTK.out;have h5:=HN3.out;have h6:=HR.out;rw [h4];(try dsimp only);omega
           · (have h3i:¬ (n3:Int)≤1500:=by omega);(have h3j:(1500:Int) < (n3:Int):=by omega);(go_wp2_with fail);refine ⟨⟨j+1,n3,by omega,by go_num,by go_num,by trivial,h_ (fun h=>?_),by omega⟩,by simp [intOf];omega⟩;omega
         · (have hni2:¬ (n2:Int)≤1500:=by omega);(have hnj2:(1500:Int) < (n2:Int):=by omega);(go_wp2_with fail);(all_goals (try go_ret));(all_goals rw [← HRR.out]);(all_goals refine ⟨_,rfl,fun h=>?_,HB.out⟩);all_goals (exact absurd h (by simp))
       · (have hji:¬ (j:Int) < (fs.length:Int):=by omega);(obtain rfl:j=fs.length:=by omega);have HTF:=h_ (show fs.take fs.length=fs from List.take_length);by_cases hn2:n2≤1500
         · (have hnj2:¬ (1500:Int) < (n2:Int):=by omega);(go_wp2_with fail);(all_goals (try go_ret));(all_goals rw [← HRR.out]);(all_goals refine ⟨_,rfl,fun h=>?_,HB.out⟩);all_goals (have h2:=HN2.out (by assumption);have h3:=HTF.out;rw [h3] at h2;show scsC ss+dcsC fs≤1500;omega)
         · (have hnj2:(1500:Int) < (n2:Int):=by omega);(go_wp2_with fail);(all_goals (try go_ret));(all_goals rw [← HRR.out]);(all_goals refine ⟨_,rfl,fun h=>?_,HB.out⟩);all_goals (exact absurd h (by simp))
end Go.Proofs.Ytflhcdcifilfcaa

namespace Go.Proofs.Ytflhcdcifilfcaa
open Go

mutual
theorem ex_wt {m:Nat} (hm:m≤2):∀ x:Ex,x.wt m+6≤9+9*x.ct
 | .mk _ _ _ _ _ ks=>by
  have:=exs_wt hm ks;rw [Ex.wt,Ex.ct];omega
theorem exs_wt {m:Nat} (hm:m≤2):∀ l:List Ex,exsWt m l≤9*exsC l
 | []=>by rw [exsWt];omega
 | x::l=>by
  have h1:=ex_wt hm x;have h2:=exs_wt hm l;rw [exsWt,exsC];omega
end
mutual
theorem st_sw {m:Nat} (hm:m≤2):∀ s:St,s.sw m≤16+16*s.ct
 | .mk _ _ _ _ _ _ ks bd el=>by
  have h1:=exs_wt hm ks;have h2:=exsC_len ks;have h3:=sts_sw hm bd;have h4:=sts_sw hm el;rw [St.sw,St.ct];omega
theorem sts_sw {m:Nat} (hm:m≤2):∀ l:List St,stsSw m l≤16*stsC l
 | []=>by rw [stsSw];omega
 | s::l=>by
  have h1:=st_sw hm s;have h2:=sts_sw hm l;rw [stsSw,stsC];omega
end
theorem scs_sw:∀ l:List ScM,scsSw (l.map ScM.d)≤20*scsC l
 | []=>by rw [List.map_nil,scsSw];omega
 | s::l=>by
  have:=scs_sw l;rw [List.map_cons,scsSw,scsC,Sc.sw];simp only [ScM.d] at *;omega
theorem dcs_sw {m:Nat} (hm:m≤2):∀ l:List DcM,dcsSw m (l.map DcM.d)≤20*dcsC l
 | []=>by rw [List.map_nil,dcsSw];omega
 | d::l=>by
  have h1:=dcs_sw hm l;have h2:=sts_sw hm (xssd d.bd);rw [List.map_cons,dcsSw,dcsC,Dc.sw];simp only [DcM.d] at *;omega
theorem pg_sw {m:Nat} (hm:m≤2) (p:PgM) (h:scsC p.ss+dcsC p.fs≤1500):p.d.sw m≤30000:=by
 have h1:=scs_sw p.ss;have h2:=dcs_sw hm p.fs;show scsSw (p.ss.map ScM.d)+dcsSw m (p.fs.map DcM.d)≤30000;omega
end Go.Proofs.Ytflhcdcifilfcaa

namespace Go.Proofs.Ytflhcdcifilfcaa
open Go.ChangeShapes Go.WideShapes Go.ChangeAt Go.Deep
open Go Go.RowKit

section
variable {B B':Nat} {w:World} {P:Nat→Prop}
theorem RowG.mono {α:Type} {K:El α} {A:Option Addr} {c:Nat} {xs:List α} (h:RowG B K w P A c xs) (hB:B≤B'):RowG B' K w P A c xs:=
 ⟨fun hl=>by
  obtain ⟨g,o,e,hg,hc⟩:=h.1 hl
  exact ⟨g,o,e,hg.imp id (fun q=>⟨by omega,q.2⟩),hc⟩,h.2⟩
mutual
theorem XT.Og.mono (hB:B≤B'):∀ (t:XT),t.Og B w P→t.Og B' w P
 | .mk _ _ _ _ _ _ _ ks,h=>by
  rw [XT.Og] at h ⊢;exact ⟨h.1.mono hB,xsOg.mono hB ks h.2⟩
theorem xsOg.mono (hB:B≤B'):∀ (l:List XT),xsOg B w P l→xsOg B' w P l
 | [],_=>by rw [xsOg];trivial
 | x::l,h=>by
  rw [xsOg] at h ⊢;exact ⟨XT.Og.mono hB x h.1,xsOg.mono hB l h.2⟩
end
mutual
theorem XS.Og.mono (hB:B≤B'):∀ (t:XS),t.Og B w P→t.Og B' w P
 | .mk _ _ _ _ _ _ _ _ ks _ _ bd _ _ el,h=>by
  rw [XS.Og] at h ⊢;exact ⟨⟨h.1.1.mono hB,h.1.2.1.mono hB,h.1.2.2.mono hB⟩,xsOg.mono hB ks h.2.1,xssOg.mono hB bd h.2.2.1,xssOg.mono hB el h.2.2.2⟩
theorem xssOg.mono (hB:B≤B'):∀ (l:List XS),xssOg B w P l→xssOg B' w P l
 | [],_=>by rw [xssOg];trivial
 | x::l,h=>by
  rw [xssOg] at h ⊢;exact ⟨XS.Og.mono hB x h.1,xssOg.mono hB l h.2⟩
end
theorem PgM.Og.mono {p:PgM} (h:p.Og B w P) (hB:B≤B'):p.Og B' w P:=⟨RowG.mono h.1 hB,RowG.mono h.2.1 hB,fun s hs=>RowG.mono (h.2.2.1 s hs) hB,fun d hd=>⟨RowG.mono (h.2.2.2 d hd).1 hB,RowG.mono (h.2.2.2 d hd).2.1 hB,xssOg.mono hB _ (h.2.2.2 d hd).2.2⟩⟩
theorem PgM.Og.next {p:PgM} {w':World} (h:p.Og B w (fun _=>True)) (hb:Below w.heap.size w w'):p.Og B w' (fun _=>True):=h.keep (fun g _ _ ht=>hb.block g ht.lt) (fun _ q=>q)
end
set_option maxRecDepth 100000 in
set_option maxHeartbeats 8000000 in
theorem back_any (pg:PgM) (mo:Int) (hmo:0≤mo) (hmo2:mo≤255) (w:World) (ho:pg.Og w.heap.size w (fun _=>True)) (hr:pg.d.rg) (hz:pg.sized) :
 Calls Try.prog 5 #[.agg pg.cs.toArray,.int .u8 mo] w (TrueR12 w):=by
 have hb:=below_lnew w (.cells pg.cs.toArray 27);have hcx:CAt (w.alloc (.cells pg.cs.toArray 27)) w.heap.size 27 pg.cs:=heap_alloc_new w _;have ho1:=(ho.next hb).mono (show w.heap.size≤(w.alloc (.cells pg.cs.toArray 27)).heap.size from hb.size);obtain ⟨w1,hw1⟩:∃ w1,w.alloc (.cells pg.cs.toArray 27)=w1:=⟨_,rfl⟩;obtain ⟨gp,hgp⟩:∃ g,w.heap.size=g:=⟨_,rfl⟩;rw [hw1] at hb hcx ho1;rw [hgp] at hcx;have HV:=h_ (vast_any pg w1 ho1 hz);have HRG:=h_ hr;have HO1:=h_ ho1;have HB1:=h_ hb;have HC1:=h_ hcx;obtain ⟨m,hm,hm1⟩:∃ m:Nat,m≤2∧mo % 3=(m:Int):=⟨(mo % 3).toNat,by omega,by omega⟩;have hwm:wrap64 mo=mo:=by unfold wrap64;omega
 have hm2:Int.tmod mo 3=(m:Int):=by rw [Int.tmod_eq_emod_of_nonneg hmo];exact hm1
 obtain ⟨A1,c1,ss,A2,c2,fs⟩:=pg;unfold PgM.cs at HV hw1 HC1 ⊢;dsimp only at HV hw1 HC1 ⊢;have p0:=HC1.out.cell (j:=0) (by simp);have p1:=HC1.out.cell (j:=1) (by simp);simp only [nD,nE] at p0 p1;clear hb hcx ho1 hr hz ho;go_enter Try.func5,Try.ntmps5;go_wp2_with fail
 refine HV.out.mono ?_;rintro e w2 ⟨b,rfl,hcnt,hb2⟩;clear HV hw1 hgp p0 p1;have HB2:=h_ (HB1.out.trans (hb2.mono HB1.out.size));have HO2:=h_ ((HO1.out.next hb2).mono hb2.size);have HC2:=h_ (HC1.out.below hb2 HC1.out.lt);clear hb2;cases b with
 | true=>
  clear hcnt;go_wp2_with fail
  refine (works_any _).mono ?_;rintro e wD ⟨rfl,hbD⟩;go_wp2_with fail
  go_ret;exact ⟨rfl,HB2.out.trans (hbD.mono HB2.out.size)⟩
 | false=>
  have hsw:=pg_sw hm ⟨A1,c1,ss,A2,c2,fs⟩ (hcnt rfl);have HSW:=h_ hsw;have HL:=h_ (lay_any m (by omega) ⟨A1,c1,ss,A2,c2,fs⟩ w2 HO2.out HRG.out (by have:=hsw;omega));clear hcnt hsw;unfold PgM.cs at HL;dsimp only at HL;have p0:=HC2.out.cell (j:=0) (by simp);have p1:=HC2.out.cell (j:=1) (by simp);simp only [nD,nE] at p0 p1;go_wp2_with fail
  refine HL.out.mono ?_;rintro e w3 ⟨vT,L,q,fl,rfl,hT,hQ,hG,hlen,hb3⟩;clear HL p0 p1 hm1 hm2 hwm;obtain ⟨AT,cT,hvT,hcT,hAT,hTT⟩:=hT.form;subst hvT;obtain ⟨E1,e1,s3,E2,e2,f3⟩:=q;have hnew:=below_lnew w3 (.cells #[.slice E1 s3.length e1,.slice E2 f3.length e2] 27);have HB4:=h_ ((HB2.out.trans (hb3.mono HB2.out.size)).trans (hnew.mono (HB2.out.trans (hb3.mono HB2.out.size)).size));have HQ4:=h_ (hQ.next hnew);have HT4:=h_ ((hTT.lies.below hnew).more hnew.size);have HC4:=h_ (show CAt (w3.alloc (.cells #[.slice E1 s3.length e1,.slice E2 f3.length e2] 27)) w3.heap.size 27 [.slice E1 s3.length e1,.slice E2 f3.length e2] from heap_alloc_new w3 _);have HG:=h_ hG;have HLE:=h_ (show L.length≤30000 from Nat.le_trans hlen HSW.out);clear hT hTT hQ hG hlen hb3 hnew;unfold PgM.cs;dsimp only;go_upto_region 4 with fail
  obtain ⟨g4,hg4⟩:∃ g,w3.heap.size=g:=⟨_,rfl⟩;obtain ⟨w4,hw4⟩:∃ g,w3.alloc (.cells #[.slice E1 s3.length e1,.slice E2 f3.length e2] 27)=g:=⟨_,rfl⟩;rw [hg4] at HC4 ⊢;rw [hw4] at HB4 HQ4 HT4 HC4 ⊢;clear hg4 hw4;cases fl with
  | true=>
   (go_wp2_with fail);refine (works_any _).mono ?_;rintro e wD ⟨rfl,hbD⟩;(go_wp2_with fail);go_ret;exact ⟨rfl,HB4.out.trans (hbD.mono HB4.out.size)⟩
  | false=>
   obtain ⟨_,⟨hfine,hqd⟩,hLT⟩:=HG.out rfl;rw [nJ] at hLT;have hpro:=read_pg m hfine;rw [← hLT,← hqd] at hpro;have HPRO:=h_ hpro;have HFEW:=h_ (proP_few (show L.length≤1000000 by have:=HLE.out;omega) hpro);have HHT:=h_ (fun d hd=>Nat.le_trans (proP_ht hpro d hd) (show L.length≤1000000 by have:=HLE.out;omega));have hpa:=parse_any AT cT L HT4.out (by have:=HLE.out;omega);rw [parP_ok hpro] at hpa;clear HG hfine hqd hLT hpro;cases hdp:deepP (PgM.mk E1 e1 s3 E2 e2 f3).d with
   | true=>
    rw [if_pos hdp] at hpa;have HP:=h_ hpa;have HD:=h_ hdp;clear hpa hdp;(go_wp2_with fail);refine HP.out.mono ?_;rintro e w5 ⟨⟨F1,k1,s4,F2,k2,f4⟩,rfl,hd4,ho4,hb4⟩;have hnew:=below_lnew w5 (.cells #[.slice F1 s4.length k1,.slice F2 f4.length k2] 27);have hb5:=hb4.trans (hnew.mono hb4.size);have HB5:=h_ (HB4.out.trans (hb5.mono HB4.out.size));have HQ5:=h_ (HQ4.out.next hb5);have HX5:=h_ ((PgM.Og.of w2.heap.size (ho4.keep (Q:=fun _=>True) (fun g _ _ ht _=>hnew.block g ht.lt) (fun _ _=>trivial))));have HC5:=h_ (HC4.out.below hb5 HC4.out.lt);have HC6:=h_ (show CAt (w5.alloc (.cells #[.slice F1 s4.length k1,.slice F2 f4.length k2] 27)) w5.heap.size 27 [.slice F1 s4.length k1,.slice F2 f4.length k2] from heap_alloc_new w5 _);have HD4:=h_ hd4;clear hd4 ho4 hb4 hb5 hnew HP HQ4;unfold PgM.cs;dsimp only;(go_upto_region 7 with fail);obtain ⟨g6,hg6⟩:∃ g,w5.heap.size=g:=⟨_,rfl⟩;obtain ⟨w6,hw6⟩:∃ g,w5.alloc (.cells #[.slice F1 s4.length k1,.slice F2 f4.length k2] 27)=g:=⟨_,rfl⟩;rw [hg6] at HC6 ⊢;rw [hw6] at HB5 HQ5 HX5 HC5 HC6 ⊢;clear hg6 hw6;have c0:=HC5.out.cell (j:=0) (by simp);have c1:=HC5.out.cell (j:=1) (by simp);simp only [nD,nE] at c0 c1;have HDP:=h_ (rdeepG _ _ ⟨E1,e1,s3,E2,e2,f3⟩ w6 HQ5.out HFEW.out HHT.out);rw [HD.out] at HDP;unfold PgM.cs at HDP;dsimp only at HDP;(go_wp2_with fail);refine HDP.out.mono ?_;rintro e w7 ⟨rfl,hb7⟩;have HB7:=h_ (HB5.out.trans (hb7.mono HB5.out.size));have HX7:=h_ (HX5.out.next hb7);have HC7:=h_ (HC6.out.below hb7 HC6.out.lt);clear hb7 c0 c1 HDP;have d0:=HC7.out.cell (j:=0) (by simp);have d1:=HC7.out.cell (j:=1) (by simp);simp only [nD,nE] at d0 d1;have HS:=h_ (same12G w2.heap.size (fun _=>True) (fun _=>True) ⟨F1,k1,s4,F2,k2,f4⟩ pgZ w7 HX7.out (PgM.Og.of _ (pgZ_ok _ _)) HD4.out (by rw [HD4.out];exact ⟨by simp,fun _ q=>absurd q (by simp),fun _ q=>absurd q (by simp)⟩));unfold PgM.cs pgZ at HS;dsimp only at HS;(go_wp2_with fail);refine HS.out.mono ?_;rintro e wB ⟨rfl,hbB⟩;have HBB:=h_ (HB7.out.trans (hbB.mono HB7.out.size));clear hbB d0 d1;(go_wp2_with fail);refine (works_any _).mono ?_;rintro e wD ⟨rfl,hbD⟩;(go_wp2_with fail);go_ret;exact ⟨rfl,HBB.out.trans (hbD.mono HBB.out.size)⟩
   | false=>
    rw [if_neg (by rw [hdp];decide)] at hpa;have HP:=h_ hpa;have HD:=h_ hdp;clear hpa hdp;(go_wp2_with fail);refine HP.out.mono ?_;rintro e w5 ⟨⟨F1,k1,s4,F2,k2,f4⟩,rfl,hd4,ho4,hb4⟩;have hnew:=below_lnew w5 (.cells #[.slice F1 s4.length k1,.slice F2 f4.length k2] 27);have hb5:=hb4.trans (hnew.mono hb4.size);have HB5:=h_ (HB4.out.trans (hb5.mono HB4.out.size));have HQ5:=h_ (HQ4.out.next hb5);have HX5:=h_ ((PgM.Og.of w2.heap.size (ho4.keep (Q:=fun _=>True) (fun g _ _ ht _=>hnew.block g ht.lt) (fun _ _=>trivial))));have HC5:=h_ (HC4.out.below hb5 HC4.out.lt);have HC6:=h_ (show CAt (w5.alloc (.cells #[.slice F1 s4.length k1,.slice F2 f4.length k2] 27)) w5.heap.size 27 [.slice F1 s4.length k1,.slice F2 f4.length k2] from heap_alloc_new w5 _);have HD4:=h_ hd4;clear hd4 ho4 hb4 hb5 hnew HP HQ4;unfold PgM.cs;dsimp only;(go_upto_region 7 with fail);obtain ⟨g6,hg6⟩:∃ g,w5.heap.size=g:=⟨_,rfl⟩;obtain ⟨w6,hw6⟩:∃ g,w5.alloc (.cells #[.slice F1 s4.length k1,.slice F2 f4.length k2] 27)=g:=⟨_,rfl⟩;rw [hg6] at HC6 ⊢;rw [hw6] at HB5 HQ5 HX5 HC5 HC6 ⊢;clear hg6 hw6;have c0:=HC5.out.cell (j:=0) (by simp);have c1:=HC5.out.cell (j:=1) (by simp);simp only [nD,nE] at c0 c1;have HDP:=h_ (rdeepG _ _ ⟨E1,e1,s3,E2,e2,f3⟩ w6 HQ5.out HFEW.out HHT.out);rw [HD.out] at HDP;unfold PgM.cs at HDP;dsimp only at HDP;(go_wp2_with fail);refine HDP.out.mono ?_;rintro e w7 ⟨rfl,hb7⟩;have HB7:=h_ (HB5.out.trans (hb7.mono HB5.out.size));have HX7:=h_ (HX5.out.next hb7);have HQ7:=h_ (HQ5.out.next hb7);have HC7:=h_ (HC6.out.below hb7 HC6.out.lt);have HC8:=h_ (HC5.out.below hb7 HC5.out.lt);clear hb7 c0 c1 HDP;have c0:=HC8.out.cell (j:=0) (by simp);have c1:=HC8.out.cell (j:=1) (by simp);have d0:=HC7.out.cell (j:=0) (by simp);have d1:=HC7.out.cell (j:=1) (by simp);simp only [nD,nE] at c0 c1 d0 d1;have HS:=h_ (same12G w2.heap.size (fun _=>True) (fun _=>True) ⟨F1,k1,s4,F2,k2,f4⟩ ⟨E1,e1,s3,E2,e2,f3⟩ w7 HX7.out HQ7.out HD4.out (by rw [HD4.out];exact HFEW.out));unfold PgM.cs at HS;dsimp only at HS;(go_wp2_with fail);refine HS.out.mono ?_;rintro e wB ⟨rfl,hbB⟩;have HBB:=h_ (HB7.out.trans (hbB.mono HB7.out.size));clear hbB c0 c1 d0 d1;(go_wp2_with fail);refine (works_any _).mono ?_;rintro e wD ⟨rfl,hbD⟩;(go_wp2_with fail);go_ret;exact ⟨rfl,HBB.out.trans (hbD.mono HBB.out.size)⟩
end Go.Proofs.Ytflhcdcifilfcaa
