/-
  Merged for a claim: S6I, S6J.
-/
import Derived.Test.YtflhcdcifilfcaaHL1
import Derived.Test.YtflhcdcifilfcaaHB1
import Derived.Test.YtflhcdcifilfcaaHQ2
namespace Go.Proofs.Ytflhcdcifilfcaa
open Go.ChangeShapes Go.WideShapes Go.ChangeAt Go.Deep
open Go Go.RowKit

mutual
def Ex.ct:Ex→Nat
 | .mk _ _ _ _ _ ks=>exsC ks
def exsC:List Ex→Nat
 | []=>0
 | x::l=>1+x.ct+exsC l
end
mutual
def St.ct:St→Nat
 | .mk _ _ _ _ _ _ ks bd el=>exsC ks+stsC bd+stsC el
def stsC:List St→Nat
 | []=>0
 | x::l=>1+x.ct+stsC l
end
theorem ret_int {v:Value} {a b:Int} (hv:v = .int .i64 a) (h:a=b):Ending.returned v = .returned (.int .i64 b):=by rw [hv,h]
theorem exsC_app:∀ a b:List Ex,exsC (a++b)=exsC a+exsC b
 | [],b=>by rw [nJ,exsC];omega
 | x::a,b=>by rw [nI,exsC,exsC,exsC_app a b];omega
theorem stsC_app:∀ a b:List St,stsC (a++b)=stsC a+stsC b
 | [],b=>by rw [nJ,stsC];omega
 | x::a,b=>by rw [nI,stsC,stsC,stsC_app a b];omega
theorem exsC_take (xs:List XT) {k:Nat} (hk:k < xs.length):exsC (xsd (xs.take (k+1)))=exsC (xsd (xs.take k))+1+xs[k].d.ct:=by
 rw [xsd_map,xsd_map,List.take_succ_eq_append_getElem hk,List.map_append,exsC_app,List.map_cons,List.map_nil,exsC,exsC];omega
theorem exsC_len:∀ l:List Ex,l.length≤exsC l
 | []=>Nat.zero_le _
 | x::l=>by
  have:=exsC_len l;rw [exsC,nF];omega
theorem exsC_rest (xs:List XT) (k:Nat):exsC (xsd (xs.take k))+(xs.length - k)≤exsC (xsd xs):=by
 have h:xsd xs=xsd (xs.take k)++xsd (xs.drop k):=by rw [xsd_map,xsd_map,xsd_map,← List.map_append,List.take_append_drop]
 have:=exsC_len (xsd (xs.drop k));rw [xsd_map,List.length_map,List.length_drop,← xsd_map] at this;rw [h,exsC_app];omega
theorem stsC_take (xs:List XS) {k:Nat} (hk:k < xs.length):stsC (xssd (xs.take (k+1)))=stsC (xssd (xs.take k))+1+xs[k].d.ct:=by
 rw [xssd_map,xssd_map,List.take_succ_eq_append_getElem hk,List.map_append,stsC_app,List.map_cons,List.map_nil,stsC,stsC];omega
theorem stsC_len:∀ l:List St,l.length≤stsC l
 | []=>Nat.zero_le _
 | x::l=>by
  have:=stsC_len l;rw [stsC,nF];omega
theorem stsC_rest (xs:List XS) (k:Nat):stsC (xssd (xs.take k))+(xs.length - k)≤stsC (xssd xs):=by
 have h:xssd xs=xssd (xs.take k)++xssd (xs.drop k):=by rw [xssd_map,xssd_map,xssd_map,← List.map_append,List.take_append_drop]
 have:=stsC_len (xssd (xs.drop k));rw [xssd_map,List.length_map,List.length_drop,← xssd_map] at this;rw [h,stsC_app];omega
structure CtI (lim len tot sofar k n:Nat):Prop where
 y:n≤lim→n+k=len+sofar
 o:lim < n→lim < tot
 l:len≤n∨lim < n
set_option maxRecDepth 100000 in
set_option maxHeartbeats 4000000 in
theorem exps_any (B:Nat) (P:Nat→Prop):∀ (xs:List XT) (A:Option Addr) (c:Nat) (li:Int) (lim:Nat) (w:World),li=(lim:Int)→lim≤1500→LiesG eX B w A xs→xsOg B w P xs →
 Calls Try.prog 49 #[.slice A xs.length c,.int .i64 li] w (fun e w'=>e = .returned (.int .i64 (min (exsC (xsd xs)) (lim+1):Nat))∧w'=w)
 | xs,A,c,li,lim,w,hli,hl,h1,h2=>by
  have HIH:∀ t∈xs,∀ (A:Option Addr) (c:Nat) (li:Int) (lim:Nat) (w:World),li=(lim:Int)→lim≤1500→LiesG eX B w A t.ks→xsOg B w P t.ks →
   Calls Try.prog 49 #[.slice A t.ks.length c,.int .i64 li] w (fun e w'=>e = .returned (.int .i64 (min (exsC (xsd t.ks)) (lim+1):Nat))∧w'=w):=fun t ht A c li lim w k1 k2 k3 k4=>
    have:SizeOf.sizeOf t.ks < SizeOf.sizeOf xs:=ks_mem ht
    exps_any B P t.ks A c li lim w k1 k2 k3 k4
  subst hli;have HI:=h_ HIH;have H1:=h_ h1;have H2:=h_ h2;obtain ⟨tot,htot⟩:∃ t,exsC (xsd xs)=t:=⟨_,rfl⟩;rw [htot];have HTT:=h_ htot;clear HIH h1 h2 htot;go_enter Try.func49,Try.ntmps49;go_wp2_with fail
  go_loopw [5,6] (fun s5 s6 wr=>∃ k n:Nat,k≤xs.length∧s5 = .int .i64 n∧s6 = .int .i64 k∧wr=w∧Hid (CtI lim xs.length tot (exsC (xsd (xs.take k))) k n)) (fun _ s6 _=>xs.length - (intOf s6).toNat)
  case atStart=>exact ⟨0,xs.length,by omega,rfl,rfl,rfl,h_ ⟨fun _=>by simp [xsd,exsC],fun h=>by have:=exsC_rest xs 0;rw [HTT.out] at this;omega,.inl (Nat.le_refl _)⟩⟩
  case round=>
   obtain ⟨k,n,hk,rfl,rfl,rfl,HC⟩:=hrel;by_cases hlt:k < xs.length
   · (have hki:(k:Int) < (xs.length:Int):=by omega);by_cases hn:n≤lim
     · (have hni:(n:Int)≤(lim:Int):=by omega);(have hxl:xs.length≤1500:=by have:=HC.out.l;omega);have HM:xs[k]∈xs:=List.getElem_mem hlt;have HTK:=h_ (exsC_take xs hlt);have HR:=h_ (exsC_rest xs (k+1));have HX:=h_ (HI.out _ HM);have HO:=h_ (xsOg_all H2.out _ HM);obtain ⟨g,o,rfl⟩:∃ g o,A=some ⟨g,o,none⟩:=by
        obtain ⟨g,o,e,_⟩:=H1.out.lies.at_ hlt;exact ⟨g,o,e⟩
       obtain ⟨a0,a1,a2,a3,a4,A5,a6,ys,hx⟩:∃ a0 a1 a2 a3 a4 A5 a6 ys,xs[k]=XT.mk a0 a1 a2 a3 a4 A5 a6 ys:=by
        cases xs[k];exact ⟨_,_,_,_,_,_,_,_,rfl⟩
       obtain ⟨d0,d1,d2,d3,d4,d5,dg⟩:=eX_cells H1.out hlt hx;clear HM;generalize xs[k]=t at *;subst hx;have ho:=HO.out;rw [XT.Og] at ho;have HKD:=h_ (HX.out A5 a6 _ (lim - n) wr (show (lim:Int) - (n:Int)=((lim - n:Nat):Int) by omega) (by omega) ho.1.1 ho.2);clear ho;obtain ⟨r,hr⟩:∃ r,min (exsC (xsd ys)) (lim - n+1)=r:=⟨_,rfl⟩;have hks:(XT.mk a0 a1 a2 a3 a4 A5 a6 ys).ks=ys:=rfl;rw [hks,hr] at HKD;have HRR:=h_ hr;(have hrb:r≤1501:=by omega);clear hr hks;(go_wp2_with fail);refine HKD.out.mono ?_;rintro e w' ⟨rfl,rfl⟩;clear HKD d0 d1 d2 d3 d4 d5 dg;(go_wp2_with fail);refine ⟨⟨k+1,n+r,by omega,by go_num,by go_num,by trivial,h_ ?_⟩,by simp [intOf];omega⟩;have hy:=HC.out.y hn;have hll:=HC.out.l;have ht:=HTK.out;have hR:=HR.out;have hrr:=HRR.out;(have hct:(XT.mk a0 a1 a2 a3 a4 A5 a6 ys).d.ct=exsC (xsd ys):=by rw [XT.d,Ex.ct]);rw [hct] at ht;rw [HTT.out] at hR;exact ⟨fun h=>by omega,fun h=>by omega,by omega⟩
     · (have hni:¬ (n:Int)≤(lim:Int):=by omega);(have hnj:(lim:Int) < (n:Int):=by omega);(go_wp2_with fail);(all_goals (try go_ret));(all_goals (have hO:=HC.out.o (by omega)));all_goals exact ⟨ret_int rfl (by omega),rfl⟩
   · (obtain rfl:k=xs.length:=by omega);have hT:xs.take xs.length=xs:=List.take_length;rw [hT,HTT.out] at HC;clear hT;by_cases hn:n≤lim
     · (have hni:(n:Int)≤(lim:Int):=by omega);(go_wp2_with fail);(all_goals (try go_ret));(all_goals (have hO:=HC.out.y hn));all_goals exact ⟨ret_int rfl (by omega),rfl⟩
     · (have hni:¬ (n:Int)≤(lim:Int):=by omega);(have hnj:(lim:Int) < (n:Int):=by omega);(go_wp2_with fail);(all_goals (try go_ret));(all_goals (have hO:=HC.out.o (by omega)));all_goals exact ⟨ret_int rfl (by omega),rfl⟩
termination_by xs=>SizeOf.sizeOf xs
end Go.Proofs.Ytflhcdcifilfcaa

namespace Go.Proofs.Ytflhcdcifilfcaa
open Go.ChangeShapes Go.WideShapes Go.ChangeAt Go.Deep
open Go Go.RowKit

set_option maxRecDepth 100000 in
set_option maxHeartbeats 8000000 in
theorem stmts_any (B:Nat) (P:Nat→Prop):∀ (xs:List XS) (A:Option Addr) (c:Nat) (li:Int) (lim:Nat) (w:World),li=(lim:Int)→lim≤1500→LiesG eSt B w A xs→xssOg B w P xs →
 Calls Try.prog 28 #[.slice A xs.length c,.int .i64 li] w (fun e w'=>e = .returned (.int .i64 (min (stsC (xssd xs)) (lim+1):Nat))∧w'=w)
 | xs,A,c,li,lim,w,hli,hl,h1,h2=>by
  have HIB:∀ t∈xs,∀ (A:Option Addr) (c:Nat) (li:Int) (lim:Nat) (w:World),li=(lim:Int)→lim≤1500→LiesG eSt B w A t.bd→xssOg B w P t.bd →
   Calls Try.prog 28 #[.slice A t.bd.length c,.int .i64 li] w (fun e w'=>e = .returned (.int .i64 (min (stsC (xssd t.bd)) (lim+1):Nat))∧w'=w):=fun t ht A c li lim w k1 k2 k3 k4=>
    have:SizeOf.sizeOf t.bd < SizeOf.sizeOf xs:=Nat.lt_trans t.bd_lt (List.sizeOf_lt_of_mem ht)
    stmts_any B P t.bd A c li lim w k1 k2 k3 k4
  have HIE:∀ t∈xs,∀ (A:Option Addr) (c:Nat) (li:Int) (lim:Nat) (w:World),li=(lim:Int)→lim≤1500→LiesG eSt B w A t.el→xssOg B w P t.el →
   Calls Try.prog 28 #[.slice A t.el.length c,.int .i64 li] w (fun e w'=>e = .returned (.int .i64 (min (stsC (xssd t.el)) (lim+1):Nat))∧w'=w):=fun t ht A c li lim w k1 k2 k3 k4=>
    have:SizeOf.sizeOf t.el < SizeOf.sizeOf xs:=Nat.lt_trans t.el_lt (List.sizeOf_lt_of_mem ht)
    stmts_any B P t.el A c li lim w k1 k2 k3 k4
  subst hli;have HI:=h_ HIB;have HJ:=h_ HIE;have H1:=h_ h1;have H2:=h_ h2;obtain ⟨tot,htot⟩:∃ t,stsC (xssd xs)=t:=⟨_,rfl⟩;rw [htot];have HTT:=h_ htot;clear HIB HIE h1 h2 htot;go_enter Try.func28,Try.ntmps28;go_wp2_with fail
  go_loopw [5,6] (fun s5 s6 wr=>∃ k n:Nat,k≤xs.length∧s5 = .int .i64 n∧s6 = .int .i64 k∧wr=w∧Hid (CtI lim xs.length tot (stsC (xssd (xs.take k))) k n)) (fun _ s6 _=>xs.length - (intOf s6).toNat)
  case atStart=>exact ⟨0,xs.length,by omega,rfl,rfl,rfl,h_ ⟨fun _=>by simp [xssd,stsC],fun h=>by have:=stsC_rest xs 0;rw [HTT.out] at this;omega,.inl (Nat.le_refl _)⟩⟩
  case round=>
   obtain ⟨k,n,hk,rfl,rfl,rfl,HC⟩:=hrel;by_cases hlt:k < xs.length
   · (have hki:(k:Int) < (xs.length:Int):=by omega);by_cases hn:n≤lim
     · (have hni:(n:Int)≤(lim:Int):=by omega);(have hxl:xs.length≤1500:=by have:=HC.out.l;omega);have HM:xs[k]∈xs:=List.getElem_mem hlt;have HTK:=h_ (stsC_take xs hlt);have HR:=h_ (stsC_rest xs (k+1));have HX:=h_ (HI.out _ HM);have HY:=h_ (HJ.out _ HM);have HO:=h_ (xssOg_all H2.out _ HM);obtain ⟨g,o,rfl⟩:∃ g o,A=some ⟨g,o,none⟩:=by
        obtain ⟨g,o,e,_⟩:=H1.out.lies.at_ hlt;exact ⟨g,o,e⟩
       obtain ⟨kd,sl,nm,f,cl,ty,kA,kc,ks,bA,bc,bd,eA,ec,el,hx⟩:∃ kd sl nm f cl ty kA kc ks bA bc bd eA ec el,xs[k]=XS.mk kd sl nm f cl ty kA kc ks bA bc bd eA ec el:=by
        cases xs[k];exact ⟨_,_,_,_,_,_,_,_,_,_,_,_,_,_,_,rfl⟩
       obtain ⟨d0,d1,d2,d3,d4,d5,d6,d7,d8,d9,d10,dg⟩:=eSt_cells H1.out hlt hx;clear HM;generalize xs[k]=t at *;subst hx;have ho:=HO.out;rw [XS.Og] at ho;have HOO:=h_ ho;clear ho d0 d1 d2 d3 d4 d5 d6 d7;have HCT:=h_ (show (XS.mk kd sl nm f cl ty kA kc ks bA bc bd eA ec el).d.ct=exsC (xsd ks)+stsC (xssd bd)+stsC (xssd el) by rw [XS.d,St.ct]);have HK1:=h_ (exps_any B P ks kA kc ((lim:Int) - (n:Int)) (lim - n) wr (by omega) (by omega) HOO.out.1.1.1 HOO.out.2.1);obtain ⟨r1,hr1⟩:∃ r,min (exsC (xsd ks)) (lim - n+1)=r:=⟨_,rfl⟩;rw [hr1] at HK1;have HR1:=h_ hr1;(have hb1:r1≤1501:=by omega);clear hr1;(go_wp2_with fail);refine HK1.out.mono ?_;rintro e w' ⟨rfl,rfl⟩;clear HK1;obtain ⟨n1,hn1⟩:∃ m,n+r1=m:=⟨_,rfl⟩;(have hn1i:(n:Int)+(r1:Int)=(n1:Int):=by omega);have HN1:=h_ hn1;clear hn1;by_cases h1:n1≤lim
       · (have h1i:(n1:Int)≤(lim:Int):=by omega);have HK2:=h_ (HX.out bA bc ((lim:Int) - ((n1:Nat):Int)) (lim - (n1)) _ (by omega) (by omega) HOO.out.1.2.1.1 HOO.out.2.2.1);have hks:(XS.mk kd sl nm f cl ty kA kc ks bA bc bd eA ec el).bd=bd:=rfl;obtain ⟨r2,hr2⟩:∃ r,min (stsC (xssd bd)) (lim - (n1)+1)=r:=⟨_,rfl⟩;rw [hks,hr2] at HK2;have HR2:=h_ hr2;(have hb2:r2≤1501:=by omega);clear hr2 hks;(go_wp2_with fail);refine HK2.out.mono ?_;rintro e w' ⟨rfl,rfl⟩;clear HK2;obtain ⟨n2,hn2⟩:∃ m,n1+r2=m:=⟨_,rfl⟩;(have hn2i:(n1:Int)+(r2:Int)=(n2:Int):=by omega);have HN2:=h_ hn2;clear hn2;by_cases h2:n2≤lim
         · (have h2i:(n2:Int)≤(lim:Int):=by omega);have HK3:=h_ (HY.out eA ec ((lim:Int) - ((n2:Nat):Int)) (lim - (n2)) _ (by omega) (by omega) HOO.out.1.2.2.1 HOO.out.2.2.2);have hks:(XS.mk kd sl nm f cl ty kA kc ks bA bc bd eA ec el).el=el:=rfl;obtain ⟨r3,hr3⟩:∃ r,min (stsC (xssd el)) (lim - (n2)+1)=r:=⟨_,rfl⟩;rw [hks,hr3] at HK3;have HR3:=h_ hr3;(have hb3:r3≤1501:=by omega);clear hr3 hks;(go_wp2_with fail);refine HK3.out.mono ?_;rintro e w' ⟨rfl,rfl⟩;clear HK3 d8 d9 d10 dg;(go_wp2_with fail);refine ⟨⟨k+1,n2+r3,by omega,by go_num,by go_num,by trivial,h_ ?_⟩,by simp [intOf];omega⟩;have hy:=HC.out.y hn;have hll:=HC.out.l;have ht:=HTK.out;have hR:=HR.out;rw [HCT.out] at ht;rw [HTT.out] at hR;have hn1:=HN1.out;have hn2:=HN2.out;have hr1:=HR1.out;have hr2:=HR2.out;have hr3:=HR3.out;exact ⟨fun h=>by omega,fun h=>by omega,by omega⟩
         · (have h2i:¬ (n2:Int)≤(lim:Int):=by omega);(have h2j:(lim:Int) < (n2:Int):=by omega);(go_wp2_with fail);refine ⟨⟨k+1,n2,by omega,by go_num,by go_num,by trivial,h_ ?_⟩,by simp [intOf];omega⟩;have hy:=HC.out.y hn;have hll:=HC.out.l;have ht:=HTK.out;have hR:=HR.out;rw [HCT.out] at ht;rw [HTT.out] at hR;have hn1:=HN1.out;have hn2:=HN2.out;have hr1:=HR1.out;have hr2:=HR2.out;exact ⟨fun h=>by omega,fun h=>by omega,by omega⟩
       · (have h1i:¬ (n1:Int)≤(lim:Int):=by omega);(have h1j:(lim:Int) < (n1:Int):=by omega);(go_wp2_with fail);refine ⟨⟨k+1,n1,by omega,by go_num,by go_num,by trivial,h_ ?_⟩,by simp [intOf];omega⟩;have hy:=HC.out.y hn;have hll:=HC.out.l;have ht:=HTK.out;have hR:=HR.out;rw [HCT.out] at ht;rw [HTT.out] at hR;have hn1:=HN1.out;have hr1:=HR1.out;exact ⟨fun h=>by omega,fun h=>by omega,by omega⟩
     · (have hni:¬ (n:Int)≤(lim:Int):=by omega);(have hnj:(lim:Int) < (n:Int):=by omega);(go_wp2_with fail);(all_goals (try go_ret));(all_goals (have hO:=HC.out.o (by omega)));all_goals exact ⟨ret_int rfl (by omega),rfl⟩
   · (obtain rfl:k=xs.length:=by omega);have hT:xs.take xs.length=xs:=List.take_length;rw [hT,HTT.out] at HC;clear hT;by_cases hn:n≤lim
     · (have hni:(n:Int)≤(lim:Int):=by omega);(go_wp2_with fail);(all_goals (try go_ret));(all_goals (have hO:=HC.out.y hn));all_goals exact ⟨ret_int rfl (by omega),rfl⟩
     · (have hni:¬ (n:Int)≤(lim:Int):=by omega);(have hnj:(lim:Int) < (n:Int):=by omega);(go_wp2_with fail);(all_goals (try go_ret));(all_goals (have hO:=HC.out.o (by omega)));all_goals exact ⟨ret_int rfl (by omega),rfl⟩
termination_by xs=>SizeOf.sizeOf xs
end Go.Proofs.Ytflhcdcifilfcaa
