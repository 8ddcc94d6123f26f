/-
  Merged for a claim: S1G, S1N, S2M, S2N, S3J.
-/
import Derived.Test.YtflhcdcifilfcaaHS1E
import Derived.Test.YtflhcdcifilfcaaHJ14
import Derived.Deep.QuietTactic
namespace Go.Proofs.Ytflhcdcifilfcaa
open Go Go.RowKit

theorem exsD_max:∀ (l:List Ex) (m:Nat),decide (m < exsD l)=l.any fun x=>decide (m < x.dp)
 | [],m=>by simp [exsD]
 | x::l,m=>by
  rw [List.any_cons,← exsD_max l m,exsD];by_cases h1:m < x.dp<;>by_cases h2:m < exsD l<;>simp [h1,h2]<;>omega
theorem stsD_max:∀ (l:List St) (m:Nat),decide (m < stsD l)=l.any fun x=>decide (m < x.dp)
 | [],m=>by simp [stsD]
 | x::l,m=>by
  rw [List.any_cons,← stsD_max l m,stsD];by_cases h1:m < x.dp<;>by_cases h2:m < stsD l<;>simp [h1,h2]<;>omega
theorem exsF_get:∀ {l:List Ex},exsF l→l.length≤mostT∧∀ x∈l,x.few
 | [],_=>⟨by simp,fun _ q=>absurd q (by simp)⟩
 | x::l,h=>by
  rw [exsF] at h;exact ⟨by rw [nF];exact h.1,fun y q=>(List.mem_cons.1 q).elim (fun e=>by rw [e];exact h.2.1) ((exsF_get h.2.2).2 y)⟩
theorem stsF_get:∀ {l:List St},stsF l→l.length≤mostT∧∀ x∈l,x.few
 | [],_=>⟨by simp,fun _ q=>absurd q (by simp)⟩
 | x::l,h=>by
  rw [stsF] at h;exact ⟨by rw [nF];exact h.1,fun y q=>(List.mem_cons.1 q).elim (fun e=>by rw [e];exact h.2.1) ((stsF_get h.2.2).2 y)⟩
theorem xsOk_all {w:World} {P:Nat→Prop}:∀ {l:List XT},xsOk w P l→∀ x∈l,x.Ok w P
 | [],_,_,q=>absurd q (by simp)
 | y::l,h,x,q=>by
  rw [xsOk] at h;rcases List.mem_cons.1 q with rfl | q
  · exact h.1
  · exact xsOk_all h.2 x q
theorem any_take {α:Type} (p:α→Bool):∀ (l:List α) (k:Nat),(∀ j (hj:j < l.length),j < k→p l[j]=false)→l.length≤k→l.any p=false
 | [],_,_,_=>rfl
 | x::l,0,_,h=>absurd h (by simp)
 | x::l,k+1,h,hk=>by
  have h0:p x=false:=h 0 (by simp) (by omega);rw [List.any_cons,h0,any_take p l k (fun j hj hjk=>h (j+1) (by simpa using hj) (by omega)) (by simpa using hk)];rfl
theorem any_at {α:Type} (p:α→Bool) {l:List α} {k:Nat} (hk:k < l.length) (h:p l[k]=true):l.any p=true:=List.any_eq_true.2 ⟨l[k],List.getElem_mem hk,h⟩
set_option maxRecDepth 100000 in
set_option maxHeartbeats 4000000 in
theorem deepKids_any (P:Nat→Prop):∀ (M:Nat) (A:Option Addr) (c:Nat) (ks:List XT) (W:World),M≤40→RowP eX W P A c ks→xsOk W P ks→exsF (xsd ks) →
 Calls Try.prog 64 #[.slice A ks.length c,.int .i64 M] W (fun e w'=>e = .returned (.bool (decide (M < exsD (xsd ks))))∧Below W.heap.size W w')
 | M,A,c,ks,W,hM,hR,hO,hF=>by
  have HIH:∀ m,m+1=M→∀ (A:Option Addr) (c:Nat) (ks:List XT) (W:World),RowP eX W P A c ks→xsOk W P ks→exsF (xsd ks) →
   Calls Try.prog 64 #[.slice A ks.length c,.int .i64 m] W (fun e w'=>e = .returned (.bool (decide (m < exsD (xsd ks))))∧Below W.heap.size W w'):=fun m hm A c ks W h1 h2 h3=>deepKids_any P m A c ks W (by omega) h1 h2 h3
  have hks:ks.length≤1000000:=by have:=(exsF_get hF).1;rw [xsd_map,List.length_map] at this;exact this
  obtain ⟨r,hr⟩:∃ r,decide (M < exsD (xsd ks))=r:=⟨_,rfl⟩;rw [hr];have HR:=h_ (show r=ks.any fun x=>decide (M < x.d.dp) by rw [← hr,exsD_max,xsd_map,List.any_map];rfl);have HRow:=h_ hR;have HO:=h_ hO;have HF:=h_ hF;clear hr hR hO hF;go_enter Try.func64,Try.ntmps64;go_wp2_with fail
  go_loopw [9] (fun i wr=>∃ k:Nat,k≤ks.length∧i = .int .i64 k∧Hid (∀ j (hj:j < ks.length),j < k→decide (M < ks[j].d.dp)=false)∧Hid (Below W.heap.size W wr)) (fun i _=>ks.length - (intOf i).toNat)
  case atStart=>exact ⟨0,by omega,rfl,fun j _ h=>absurd h (by omega),Below.refl _ _⟩
  case round=>
   obtain ⟨k,hk,rfl,hno,hB⟩:=hrel;by_cases hlt:k < ks.length
   · have hRw:=HRow.out.keep (w':=wr) (Q:=P) (fun g _ ht=>hB.out.block g ht.lt) (fun _ q=>q);obtain ⟨g,o,rfl,hg,hcell⟩:=hRw.1.lies.at_ hlt;have hko:=xsOk_all HO.out _ (List.getElem_mem hlt);have hfe:=(exsF_get HF.out).2 ks[k].d (by rw [xsd_map];exact List.mem_map.2 ⟨_,List.getElem_mem hlt,rfl⟩)
     have HK:=h_ (show ∀ b,decide (M < ks[k].d.dp)=b→(b=true→r=true)∧(b=false→∀ j (hj:j < ks.length),j < k+1→decide (M < ks[j].d.dp)=false) from fun b hb=>⟨fun e=>by rw [HR.out];exact any_at _ hlt (hb.trans e),fun e j hj hjk=>by
      by_cases hjk2:j < k
      · exact hno.out j hj hjk2
      · obtain rfl:j=k:=by omega
        exact hb.trans e⟩)
     generalize ks[k]=t at *;obtain ⟨kd,nu,nm,fl,op,kA,kc,kk⟩:=t;have d0:=hcell 0 _ rfl;have d1:=hcell 1 _ rfl;have d2:=hcell 2 _ rfl;have d3:=hcell 3 _ rfl;have d4:=hcell 4 _ rfl;have d5:=hcell 5 _ rfl;simp only [Nat.add_zero,show eX.sz=6 from rfl] at d0 d1 d2 d3 d4 d5;rw [XT.Ok] at hko;rw [XT.d] at hfe HK;rw [Ex.few] at hfe;have hbb:=below_lnew wr (.cells #[.int .u8 kd,.int .i64 nu,.string (str nm),.string (str fl),.string (str op),.slice kA kk.length kc] 53);have HBB:=h_ (hB.out.trans (hbb.mono hB.out.size));have hnew:=heap_alloc_new wr (.cells #[.int .u8 kd,.int .i64 nu,.string (str nm),.string (str fl),.string (str op),.slice kA kk.length kc] 53);have HKO:=h_ hko;have HFE:=h_ hfe;rw [Ex.dp] at HK;clear hcell hko hfe hno hbb hRw;by_cases hM0:M=0
     · subst hM0;have hT:=(HK.out true (decide_eq_true (Nat.succ_pos _))).1 rfl;(go_wp2_with fail);go_ret;exact ⟨by rw [hT];rfl,HBB.out⟩
     · obtain ⟨m,hm⟩:∃ m,m+1=M:=⟨M - 1,by omega⟩;have HC:=h_ (HIH m hm kA kc kk (wr.alloc (.cells #[.int .u8 kd,.int .i64 nu,.string (str nm),.string (str fl),.string (str op),.slice kA kk.length kc] 53)) (RowP.keep HKO.out.1 (fun g _ ht=>HBB.out.block g ht.lt) (fun _ q=>q)) (xsOk.keep (fun g _ ht=>HBB.out.block g ht.lt) (fun _ q=>q) _ HKO.out.2) HFE.out);(have hMi:¬ (M:Int)=0:=by omega);have hMw:IntKind.i64.wrap ((M:Int) - 1)=(m:Int):=by rw [IntKind.wrap_i64];omega
       have HD:=h_ (show decide (M < exsD (xsd kk)+1)=decide (m < exsD (xsd kk)) by
        by_cases h:m < exsD (xsd kk)
        · rw [decide_eq_true h,decide_eq_true (by omega)]
        · rw [decide_eq_false h,decide_eq_false (by omega)])
       rw [HD.out] at HK;clear hM0 hm HIH HKO HFE HRow HO HF HD;generalize decide (m < exsD (xsd kk))=b at *;have HK2:=h_ (HK.out b rfl);clear HK;(go_wp2_with fail);refine HC.out.mono ?_;rintro e w2 ⟨rfl,hb2⟩;have HB2:=h_ (HBB.out.trans (hb2.mono HBB.out.size));clear hb2 HC;cases b
       · have HN:=h_ (HK2.out.2 rfl);go_wp2_with fail
         go_roundw
         (case rel=>exact ⟨k+1,by omega,by go_num,HN,HB2⟩);case measure=>simp [intOf];omega
       · have hT:=HK2.out.1 rfl;(go_wp2_with fail);go_ret;exact ⟨by rw [hT];rfl,HB2.out⟩
   · (obtain rfl:k=ks.length:=by omega);have hT:r=false:=by
      rw [HR.out];exact any_take _ ks ks.length (fun j hj hjk=>hno.out j hj hjk) (Nat.le_refl _)
     (go_wp2_with fail);go_ret;exact ⟨by rw [hT];rfl,hB.out⟩
theorem St.dp_eq {M m:Nat} (hm:m+1=M) (hM:M≤40) (kd ln:Int) (nm fl cl:List UInt8) (ty:Ty) (ks:List Ex) (bd el:List St) :
 decide (M < (St.mk kd ln nm fl cl ty ks bd el).dp)=(decide (40 < exsD ks) || decide (m < stsD bd) || decide (m < stsD el)):=by
 rw [St.dp];by_cases h:40 < exsD ks
 · rw [if_pos h,decide_eq_true h,decide_eq_true (by omega)];rfl
 · rw [if_neg h,decide_eq_false h];by_cases h1:m < stsD bd<;>by_cases h2:m < stsD el<;>simp [h1,h2]<;>omega
theorem St.dp_pos (s:St):0 < s.dp:=by
 obtain ⟨kd,ln,nm,fl,cl,ty,ks,bd,el⟩:=s;rw [St.dp];split<;>omega
set_option maxRecDepth 100000 in
set_option maxHeartbeats 8000000 in
theorem deepList_any (P:Nat→Prop):∀ (M:Nat) (A:Option Addr) (c:Nat) (ks:List XS) (W:World),M≤40→RowP eSt W P A c ks→xssOk W P ks→stsF (xssd ks) →
 Calls Try.prog 38 #[.slice A ks.length c,.int .i64 M] W (fun e w'=>e = .returned (.bool (decide (M < stsD (xssd ks))))∧Below W.heap.size W w')
 | M,A,c,ks,W,hM,hR,hO,hF=>by
  have HIH:∀ m,m+1=M→∀ (A:Option Addr) (c:Nat) (ks:List XS) (W:World),RowP eSt W P A c ks→xssOk W P ks→stsF (xssd ks) →
   Calls Try.prog 38 #[.slice A ks.length c,.int .i64 m] W (fun e w'=>e = .returned (.bool (decide (m < stsD (xssd ks))))∧Below W.heap.size W w'):=fun m hm A c ks W h1 h2 h3=>deepList_any P m A c ks W (by omega) h1 h2 h3
  have hks:ks.length≤1000000:=by have:=(stsF_get hF).1;rw [xssd_map,List.length_map] at this;exact this
  obtain ⟨r,hr⟩:∃ r,decide (M < stsD (xssd ks))=r:=⟨_,rfl⟩;rw [hr];have HR:=h_ (show r=ks.any fun x=>decide (M < x.d.dp) by rw [← hr,stsD_max,xssd_map,List.any_map];rfl);have HRow:=h_ hR;have HO:=h_ hO;have HF:=h_ hF;clear hr hR hO hF;go_enter Try.func38,Try.ntmps38;go_wp2_with fail
  go_loopw [9] (fun i wr=>∃ k:Nat,k≤ks.length∧i = .int .i64 k∧Hid (∀ j (hj:j < ks.length),j < k→decide (M < ks[j].d.dp)=false)∧Hid (Below W.heap.size W wr)) (fun i _=>ks.length - (intOf i).toNat)
  case atStart=>exact ⟨0,by omega,rfl,fun j _ h=>absurd h (by omega),Below.refl _ _⟩
  case round=>
   obtain ⟨k,hk,rfl,hno,hB⟩:=hrel;by_cases hlt:k < ks.length
   · have hRw:=HRow.out.keep (w':=wr) (Q:=P) (fun g _ ht=>hB.out.block g ht.lt) (fun _ q=>q);obtain ⟨g,o,rfl,hg,hcell⟩:=hRw.1.lies.at_ hlt;have hko:=xssOk.all HO.out _ (List.getElem_mem hlt);have hfe:=(stsF_get HF.out).2 ks[k].d (by rw [xssd_map];exact List.mem_map.2 ⟨_,List.getElem_mem hlt,rfl⟩)
     have HK:=h_ (show ∀ b,decide (M < ks[k].d.dp)=b→(b=true→r=true)∧(b=false→∀ j (hj:j < ks.length),j < k+1→decide (M < ks[j].d.dp)=false) from fun b hb=>⟨fun e=>by rw [HR.out];exact any_at _ hlt (hb.trans e),fun e j hj hjk=>by
      by_cases hjk2:j < k
      · exact hno.out j hj hjk2
      · obtain rfl:j=k:=by omega
        exact hb.trans e⟩)
     generalize ks[k]=t at *;obtain ⟨kd,ln,nm,fl,cl,⟨tk,tn,tm⟩,kA,kc,kk,bA,bc,bd,eA,ec,el⟩:=t;have d0:=hcell 0 _ rfl;have d1:=hcell 1 _ rfl;have d2:=hcell 2 _ rfl;have d3:=hcell 3 _ rfl;have d4:=hcell 4 _ rfl;have d5:=hcell 5 _ rfl;have d6:=hcell 6 _ rfl;have d7:=hcell 7 _ rfl;have d8:=hcell 8 _ rfl;have d9:=hcell 9 _ rfl;have d10:=hcell 10 _ rfl;simp only [Nat.add_zero,show eSt.sz=11 from rfl] at d0 d1 d2 d3 d4 d5 d6 d7 d8 d9 d10;rw [XS.Ok] at hko;rw [XS.d] at hfe HK;rw [St.few] at hfe;have hbb:=below_lnew wr (.cells #[.int .u8 kd,.int .i64 ln,.string (str nm),.string (str fl),.string (str cl),.int .u8 tk,.int .i64 tn,.string (str tm),.slice kA kk.length kc,.slice bA bd.length bc,.slice eA el.length ec] 51);have hBB:=hB.out.trans (hbb.mono hB.out.size);have hnew:=heap_alloc_new wr (.cells #[.int .u8 kd,.int .i64 ln,.string (str nm),.string (str fl),.string (str cl),.int .u8 tk,.int .i64 tn,.string (str tm),.slice kA kk.length kc,.slice bA bd.length bc,.slice eA el.length ec] 51);have HKO:=h_ hko;have HFE:=h_ hfe;clear hcell hko hfe hno hbb hRw;by_cases hM0:M=0
     · subst hM0;have hT:=(HK.out true (decide_eq_true (St.dp_pos _))).1 rfl;have HBB:=h_ hBB;clear hBB;(go_wp2_with fail);go_ret;exact ⟨by rw [hT];rfl,HBB.out⟩
     · obtain ⟨m,hm⟩:∃ m,m+1=M:=⟨M - 1,by omega⟩;have HBB:=h_ hBB;clear hBB;have HKd:=h_ (fun W2 (hb:Below W.heap.size W W2)=>deepKids_any P 40 kA kc kk W2 (Nat.le_refl _) (RowP.keep HKO.out.1.1 (fun g _ ht=>hb.block g ht.lt) (fun _ q=>q)) (xsOk.keep (fun g _ ht=>hb.block g ht.lt) (fun _ q=>q) _ HKO.out.2.1) HFE.out.1);have HBd:=h_ (fun W2 (hb:Below W.heap.size W W2)=>HIH m hm bA bc bd W2 (RowP.keep HKO.out.1.2.1 (fun g _ ht=>hb.block g ht.lt) (fun _ q=>q)) (xssOk.keep (fun g _ ht=>hb.block g ht.lt) (fun g _ ht=>hb.block g ht.lt) (fun _ q=>q) _ HKO.out.2.2.1) HFE.out.2.1);have HEl:=h_ (fun W2 (hb:Below W.heap.size W W2)=>HIH m hm eA ec el W2 (RowP.keep HKO.out.1.2.2 (fun g _ ht=>hb.block g ht.lt) (fun _ q=>q)) (xssOk.keep (fun g _ ht=>hb.block g ht.lt) (fun g _ ht=>hb.block g ht.lt) (fun _ q=>q) _ HKO.out.2.2.2) HFE.out.2.2);(have hMi:¬ (M:Int)=0:=by omega);(have hMw:IntKind.i64.wrap ((M:Int) - 1)=(m:Int):=by rw [IntKind.wrap_i64];omega);rw [St.dp_eq hm hM] at HK;have HK2:=h_ (HK.out _ rfl);clear hM0 hm HIH HKO HFE HRow HO HF HK;generalize decide (40 < exsD (xsd kk))=b1 at *;generalize decide (m < stsD (xssd bd))=b2 at *;generalize decide (m < stsD (xssd el))=b3 at *;have n0:=hnew;have x8:=(show CAt _ wr.heap.size 51 [.int .u8 kd,.int .i64 ln,.string (str nm),.string (str fl),.string (str cl),.int .u8 tk,.int .i64 tn,.string (str tm),.slice kA kk.length kc,.slice bA bd.length bc,.slice eA el.length ec] from hnew);have HX:=h_ x8;clear n0 x8 hnew;(go_wp2_with fail);refine (HKd.out _ HBB.out).mono ?_;rintro e w2 ⟨rfl,hb2⟩;have HB2:=h_ (HBB.out.trans (hb2.mono HBB.out.size));have HX2:=h_ (HX.out.below hb2 HX.out.lt);have y9:=HX2.out.cell (j:=9) (by simp);have y10:=HX2.out.cell (j:=10) (by simp);simp only [nD,nE] at y9 y10;clear hb2 HKd HX;cases b1
       · (go_wp2_with fail);refine (HBd.out _ HB2.out).mono ?_;rintro e w3 ⟨rfl,hb3⟩;have HB3:=h_ (HB2.out.trans (hb3.mono HB2.out.size));have HX3:=h_ (HX2.out.below hb3 HX2.out.lt);have z10:=HX3.out.cell (j:=10) (by simp);simp only [nD,nE] at z10;clear hb3 HBd HX2 y9 y10;cases b2
         · (go_wp2_with fail);refine (HEl.out _ HB3.out).mono ?_;rintro e w4 ⟨rfl,hb4⟩;have HB4:=h_ (HB3.out.trans (hb4.mono HB3.out.size));clear hb4 HEl HX3 z10;cases b3
           · have HN:=h_ (HK2.out.2 rfl);go_wp2_with fail
             go_roundw
             (case rel=>exact ⟨k+1,by omega,by go_num,HN,HB4⟩);case measure=>simp [intOf];omega
           · have hT:=HK2.out.1 rfl;(go_wp2_with fail);go_ret;exact ⟨by rw [hT];rfl,HB4.out⟩
         · have hT:=HK2.out.1 rfl;(go_wp2_with fail);go_ret;exact ⟨by rw [hT];rfl,HB3.out⟩
       · have hT:=HK2.out.1 rfl;(go_wp2_with fail);go_ret;exact ⟨by rw [hT];rfl,HB2.out⟩
   · (obtain rfl:k=ks.length:=by omega);have hT:r=false:=by
      rw [HR.out];exact any_take _ ks ks.length (fun j hj hjk=>hno.out j hj hjk) (Nat.le_refl _)
     (go_wp2_with fail);go_ret;exact ⟨by rw [hT];rfl,hB.out⟩
end Go.Proofs.Ytflhcdcifilfcaa

namespace Go.Proofs.Ytflhcdcifilfcaa
open Go Go.RowKit

def XT.ks:XT→List XT | .mk _ _ _ _ _ _ _ ks=>ks
theorem XT.ks_lt (t:XT):SizeOf.sizeOf t.ks < SizeOf.sizeOf t:=by
 cases t;simp [XT.ks];omega
theorem ks_mem {t:XT} {xs:List XT} (h:t∈xs):SizeOf.sizeOf t.ks < SizeOf.sizeOf xs:=Nat.lt_trans t.ks_lt (List.sizeOf_lt_of_mem h)
def XS.bd:XS→List XS | .mk _ _ _ _ _ _ _ _ _ _ _ bd _ _ _=>bd
def XS.el:XS→List XS | .mk _ _ _ _ _ _ _ _ _ _ _ _ _ _ el=>el
theorem XS.bd_lt (t:XS):SizeOf.sizeOf t.bd < SizeOf.sizeOf t:=by
 cases t;simp [XS.bd];omega
theorem XS.el_lt (t:XS):SizeOf.sizeOf t.el < SizeOf.sizeOf t:=by
 cases t;simp [XS.el];omega
end Go.Proofs.Ytflhcdcifilfcaa

namespace Go.Proofs.Ytflhcdcifilfcaa
open Go Go.RowKit

theorem exsD_app (a b:List Ex):exsD (a++b)=max (exsD a) (exsD b):=by
 induction a with
 | nil=>simp [exsD]
 | cons x l ih=>rw [nI,exsD,exsD,ih];omega
theorem exsD_mem {x:Ex}:∀ {l:List Ex},x∈l→x.dp≤exsD l
 | [],h=>absurd h (by simp)
 | y::l,h=>by
  rw [exsD];rcases List.mem_cons.1 h with rfl | h
  · omega
  · have:=exsD_mem h;omega
end Go.Proofs.Ytflhcdcifilfcaa

namespace Go.Proofs.Ytflhcdcifilfcaa
open Go Go.RowKit

mutual
def St.dr:St→Option Nat
 | .mk _ _ _ _ _ _ ks bd el=>if 40 < exsD ks then none else some (max (1+stsR bd 0) (1+stsR el 0))
def stsR:List St→Nat→Nat
 | [],n=>n
 | s::l,n=>match s.dr with
  | none=>41
  | some m=>stsR l (max n m)
end
mutual
theorem dr_dp:∀ s:St,(s.dr=none→41≤s.dp)∧∀ m,s.dr=some m→min m 41=min s.dp 41
 | .mk _ _ _ _ _ _ ks bd el=>by
  rw [St.dr,St.dp];by_cases h:40 < exsD ks
  · rw [if_pos h,if_pos h];exact ⟨fun _=>Nat.le_refl _,fun m e=>(by cases e)⟩
  · rw [if_neg h,if_neg h];refine ⟨fun e=>(by cases e),fun m e=>?_⟩;injection e with e;subst e;have h1:=stsR_dp bd 0;have h2:=stsR_dp el 0;omega
theorem stsR_dp:∀ (l:List St) (n:Nat),min (stsR l n) 41=min (max n (stsD l)) 41
 | [],n=>by rw [stsR,stsD];omega
 | s::l,n=>by
  rw [stsR,stsD];have h:=dr_dp s;cases hs:s.dr with
  | none=>
   have:=h.1 hs;simp only;omega
  | some m=>
   have h1:=h.2 m hs;have h2:=stsR_dp l (max n m);simp only;omega
end
theorem stsR_deep (l:List St):decide (40 < stsR l 0)=decide (40 < stsD l):=by
 have h:=stsR_dp l 0;by_cases q:40 < stsD l
 · rw [decide_eq_true q,decide_eq_true (by omega)]
 · rw [decide_eq_false q,decide_eq_false (by omega)]
end Go.Proofs.Ytflhcdcifilfcaa

namespace Go.Proofs.Ytflhcdcifilfcaa
open Go

theorem prim_dp:∀ n,(∀ u x v,prim n u = .ok x v→x.dp+v.length≤u.length)∧(∀ k u x v,lev n k u = .ok x v→x.dp+v.length≤u.length)∧∀ k x u y v,lop n k x u = .ok y v→y.dp+v.length≤x.dp+u.length
 | 0=>⟨fun _ _ _ h=>(by cases h),fun _ _ _ _ h=>(by cases h),fun _ _ _ _ _ h=>(by cases h)⟩
 | n+1=>by
  obtain ⟨hp,hl,ho⟩:=prim_dp n;refine ⟨fun u x v h=>?_,fun k u x v h=>?_,fun k x u y v h=>?_⟩
  · rw [prim] at h;split at h
    · rename_i hs;have:=tail_len (isU_ne hs);obtain ⟨y,w,e,h⟩:=bind_is h;have:=hp _ _ _ e;injection h with h1 h2;subst h1 h2;rw [eUn,Ex.dp,exsD,exsD];omega
    · split at h
      · rename_i hs;have:=tail_len (isS_ne hs);obtain ⟨y,w,e,h⟩:=bind_is h;have:=hl _ _ _ _ e;obtain ⟨h3,h⟩:=takeS_len h;have:=tail_len h3;injection h with h1 h2;subst h1 h2;omega
      · split at h
        · rename_i hs;have:=tail_len (isE_ne hs).1;have:=tail_len (isE_ne hs).2;obtain ⟨y,w,e,h⟩:=bind_is h;have:=hl _ _ _ _ e;obtain ⟨h3,h⟩:=takeS_len h;have:=tail_len h3;injection h with h1 h2;subst h1 h2;rw [eElem,Ex.dp,exsD,exsD];omega
        · have h1:=leafP_len h;have h2:x.dp=1:=by
           unfold leafP at h;split at h
           · injection h with h _;subst h;rfl
           · split at h
             · injection h with h _;subst h;rfl
             · split at h
               · injection h with h _;subst h;rfl
               · obtain ⟨_,h⟩:=takeK_len h;unfold leafN at h;split at h
                 · obtain ⟨_,h⟩:=takeK_len h;injection h with h _;subst h;rfl
                 · injection h with h _;subst h;rfl
          omega
  · rw [lev] at h;split at h
    · exact hp _ _ _ h
    · obtain ⟨y,w,e,h⟩:=bind_is h;have:=hl _ _ _ _ e;have:=ho _ _ _ _ _ h;omega
  · rw [lop] at h;split at h
    · rename_i hs;have:=tail_len (bndU_ne hs);obtain ⟨z,w,e,h⟩:=bind_is h;have h1:=hl _ _ _ _ e;have h2:=ho _ _ _ _ _ h;have h3:=((enough n).2.1 (k+1) u.tail).2 _ _ e;have h4:(eBin (hd u).tx x z).dp=max x.dp z.dp+1:=by
       rw [eBin,Ex.dp,exsD,exsD,exsD];omega
      have h5:0 < x.dp:=by
       cases x;rw [Ex.dp];omega
      omega
    · injection h with h1 h2;subst h1 h2;omega
theorem exP_dp {u v:List To} {x:Ex} (h:exP u = .ok x v):x.dp+v.length≤u.length:=(prim_dp _).2.1 _ _ _ _ h
theorem com_dp:∀ n u l v,comP exP n u = .ok l v→exsD l+v.length≤u.length
 | 0,_,_,_,h=>by cases h
 | n+1,u,l,v,h=>by
  rw [comP] at h;obtain ⟨x,w,e,h⟩:=bind_is h;have:=exP_dp e;split at h
  · rename_i hs;have:=tail_len (isS_ne hs);obtain ⟨l2,z,e2,h⟩:=bind_is h;have h9:=com_dp n _ _ _ e2;have h8:=(comP_all exP_ne (fun _ _ _ h=>exP_len h) n _).2 _ _ e2;injection h with h1 h2;subst h1 h2;rw [exsD];omega
  · obtain ⟨h3,h⟩:=takeS_len h;have:=tail_len h3;injection h with h1 h2;subst h1 h2;rw [exsD,exsD];omega
theorem argP_dp {u v:List To} {l:List Ex} (h:argP u = .ok l v):exsD l+v.length≤u.length:=by
 unfold argP lisP at h;split at h
 · injection h with h1 h2;subst h1 h2;rw [exsD];simp
 · exact com_dp _ _ _ _ h
mutual
def St.ht:St→Nat
 | .mk _ _ _ _ _ _ ks bd el=>max (exsD ks) (max (stsH bd) (stsH el))+1
def stsH:List St→Nat
 | []=>0
 | s::l=>max s.ht (stsH l)
end
theorem stm_ht (kd ln:Int) (nm fl cl:List UInt8) (ty:Ty) (ks:List Ex):(stm kd ln nm fl cl ty ks).ht=exsD ks+1:=by
 rw [stm,St.ht,stsH];omega
theorem one_dp (x:Ex):exsD [x]=x.dp:=by rw [exsD,exsD];omega
theorem setP_ht {ln:Int} {nm:List UInt8} {u v:List To} {x:St} (h:setP ln nm u = .ok x v):x.ht+v.length≤u.length+1:=by
 have hl:=setP_len h;unfold setP at h;split at h
 · obtain ⟨_,h⟩:=takeS_len h;obtain ⟨_,h⟩:=takeS_len h;injection h with h1 h2;subst h1;rw [stm_ht,exsD];omega
 · split at h
   · rename_i hs;have:=tail_len (isC_ne hs).1;have:=tail_len (isC_ne hs).2;obtain ⟨y,w,e,h⟩:=bind_is h;have:=argP_dp e;injection h with h1 h2;subst h1 h2;rw [stm_ht];omega
   · obtain ⟨y,w,e,h⟩:=bind_is h;have:=exP_dp e;injection h with h1 h2;subst h1 h2;rw [stm_ht,one_dp];omega
theorem nmdP_ht {ln:Int} {u v:List To} {x:St} (h:nmdP ln u = .ok x v):x.ht+v.length≤u.length+1:=by
 unfold nmdP at h;split at h
 · rename_i hs;have:=tail_len (isC_ne hs).1;have:=tail_len (isC_ne hs).2;obtain ⟨y,w,e,h⟩:=bind_is h;have:=argP_dp e;injection h with h1 h2;subst h1 h2;rw [stm_ht];omega
 · obtain ⟨h1,h⟩:=takeK_len h;have:=tail_len h1;split at h
   · rename_i hs;have:=tail_len (isS_ne hs);obtain ⟨y,w,e,h⟩:=bind_is h;have h7:=exP_dp e;have:=exP_len e;obtain ⟨h2,h⟩:=takeS_len h;obtain ⟨h3,h⟩:=takeS_len h;have:=tail_len h2;have:=tail_len h3;obtain ⟨y2,w2,e2,h⟩:=bind_is h;have:=exP_dp e2;have:=exP_len e2;injection h with h1 h2;subst h1 h2;rw [stm_ht,exsD,exsD,exsD];omega
   · split at h
     · rename_i hs;have:=tail_len (isS_ne hs);obtain ⟨h2,h⟩:=takeK_len h;obtain ⟨h3,h⟩:=takeS_len h;have:=tail_len h2;have:=tail_len h3;obtain ⟨y2,w2,e2,h⟩:=bind_is h;have:=exP_dp e2;injection h with h1 h2;subst h1 h2;rw [stm_ht,one_dp];omega
     · obtain ⟨h2,h⟩:=takeS_len h;have:=tail_len h2;have:=setP_ht h;omega
theorem varP_ht {ln:Int} {u v:List To} {x:St} (h:varP ln u = .ok x v):x.ht+v.length≤u.length+1:=by
 have hl:=varP_len h;unfold varP at h;obtain ⟨h1,h⟩:=takeK_len h;have:=tail_len h1;obtain ⟨ty,w,e,h⟩:=bind_is h;have:=tyP_len e;split at h
 · rename_i hs;have:=tail_len (isS_ne hs);obtain ⟨y2,w2,e2,h⟩:=bind_is h;have:=exP_dp e2;injection h with h1 h2;subst h1 h2;rw [stm_ht,one_dp];omega
 · injection h with h1 h2;subst h1 h2;rw [stm_ht,exsD];omega
theorem semi_ht {s x:St} {u v:List To} (h:semi s u = .ok x v):x=s∧v.length+1=u.length:=by
 obtain ⟨h1,h⟩:=takeS_len h;have:=tail_len h1;injection h with h1 h2;subst h1 h2;exact ⟨rfl,this⟩
theorem hdP_ht {u v:List To} {x:St} (h:hdP u = .ok x v):x.ht+v.length≤u.length:=by
 unfold hdP at h;split at h
 · rename_i hs;have:=tail_len (isW_ne hs);obtain ⟨y,w,e,h⟩:=bind_is h;have:=exP_dp e;injection h with h1 h2;subst h1 h2;rw [stm_ht,one_dp];omega
 · split at h
   · rename_i hs;have:=tail_len (isW_ne hs);obtain ⟨y,w,e,h⟩:=bind_is h;have:=exP_dp e;injection h with h1 h2;subst h1 h2;rw [stm_ht,one_dp];omega
   · split at h
     · rename_i hs;have:=tail_len (isW_ne hs);obtain ⟨y,w,e,h⟩:=bind_is h;have:=varP_ht e;obtain ⟨rfl,_⟩:=semi_ht h;omega
     · split at h
       · rename_i hs;have:=tail_len (isW_ne hs);obtain ⟨h1,h⟩:=takeS_len h;have:=tail_len h1;obtain ⟨y,w,e,h⟩:=bind_is h;have:=exP_dp e;obtain ⟨h2,h⟩:=takeS_len h;have:=tail_len h2;obtain ⟨rfl,_⟩:=semi_ht h;rw [stm_ht,one_dp];omega
       · split at h
         · rename_i hs;have:=tail_len (isW_ne hs);split at h
           · obtain ⟨rfl,_⟩:=semi_ht h;rw [stm_ht,exsD];omega
           · obtain ⟨y,w,e,h⟩:=bind_is h;have:=exP_dp e;obtain ⟨rfl,_⟩:=semi_ht h;rw [stm_ht,one_dp];omega
         · obtain ⟨y,w,e,h⟩:=bind_is h;have:=nmdP_ht e;obtain ⟨rfl,_⟩:=semi_ht h;omega
theorem setB_ht (s:St) (b:List St):(s.setB b).ht≤max s.ht (stsH b+1):=by
 obtain ⟨kd,ln,nm,fl,cl,ty,ks,bd,el⟩:=s;rw [St.setB,St.ht,St.ht];omega
theorem setE_ht (s:St) (b:List St):(s.setE b).ht≤max s.ht (stsH b+1):=by
 obtain ⟨kd,ln,nm,fl,cl,ty,ks,bd,el⟩:=s;rw [St.setE,St.ht,St.ht];omega
theorem sta_ht:∀ n,(∀ u x v,staP n u = .ok x v→x.ht+v.length≤u.length)∧(∀ u l v,blkP n u = .ok l v→stsH l+v.length≤u.length)∧∀ u l v,lstP n u = .ok l v→stsH l+v.length≤u.length
 | 0=>⟨fun _ _ _ h=>(by cases h),fun _ _ _ h=>(by cases h),fun _ _ _ h=>(by cases h)⟩
 | n+1=>by
  obtain ⟨hs,hb,hl⟩:=sta_ht n;refine ⟨fun u x v h=>?_,fun u l v h=>?_,fun u l v h=>?_⟩
  · rw [staP] at h;obtain ⟨s,w,e,h⟩:=bind_is h;have h1:=hdP_ht e;have h2:=hdP_len e;split at h
    · obtain ⟨b,z,e2,h⟩:=bind_is h;have h3:=hb _ _ _ e2;(have h4:=(enoughS n).2.1 w |>.2 _ _ e2);have h6:=setB_ht s b;split at h
      · rename_i hq;have:=tail_len (isW_ne hq);obtain ⟨el,y,e3,h⟩:=bind_is h;have h5:=hb _ _ _ e3;(have h8:=(enoughS n).2.1 z.tail |>.2 _ _ e3);have h7:=setE_ht (s.setB b) el;injection h with q1 q2;subst q1 q2;omega
      · injection h with q1 q2;subst q1 q2;omega
    · split at h
      · obtain ⟨b,z,e2,h⟩:=bind_is h;have h3:=hb _ _ _ e2;(have h4:=(enoughS n).2.1 w |>.2 _ _ e2);have h6:=setB_ht s b;injection h with q1 q2;subst q1 q2;omega
      · injection h with q1 q2;subst q1 q2;omega
  · rw [blkP] at h;obtain ⟨h1,h⟩:=takeS_len h;have:=tail_len h1;have:=hl _ _ _ h;omega
  · rw [lstP] at h;split at h
    · rename_i hq;have:=tail_len (isS_ne hq);injection h with q1 q2;subst q1 q2;rw [stsH];omega
    · obtain ⟨s,w,e1,h⟩:=bind_is h;obtain ⟨l2,w2,e2,h⟩:=bind_is h;have h1:=hs _ _ _ e1;have h2:=hl _ _ _ e2;(have h3:=(enoughS n).2.2 w |>.2 _ _ e2);injection h with q1 q2;subst q1 q2;rw [stsH];omega
theorem blP_ht {u v:List To} {l:List St} (h:blP u = .ok l v):stsH l+v.length≤u.length:=(sta_ht _).2.1 _ _ _ h
theorem dcP_ht {u v:List To} {d:Dc} (h:dcP u = .ok d v):stsH d.bd≤u.length:=by
 obtain ⟨h1,h⟩:=takeW_len h;obtain ⟨h2,h⟩:=takeK_len h;obtain ⟨h3,h⟩:=takeS_len h;have:=tail_len h1;have:=tail_len h2;have:=tail_len h3;obtain ⟨l,w,e,h⟩:=bind_is h;have:=lisP_len pmP_out (fun _ _ _ h=>pmP_len h) e;obtain ⟨l2,w2,e2,h⟩:=bind_is h;have:=rsP_len e2;obtain ⟨l3,w3,e3,h⟩:=bind_is h;have:=blP_ht e3;injection h with h _;subst h;show stsH l3≤_;omega
theorem pg_ht (N:Nat):∀ n x u y v,pgP n x u = .ok y v→u.length≤N→(∀ d∈x.fs,stsH d.bd≤N)→∀ d∈y.fs,stsH d.bd≤N
 | 0,_,_,_,_,h,_,_=>by cases h
 | n+1,x,u,y,v,h,hu,hx=>by
  rw [pgP] at h;split at h
  · injection h with h _;subst h;exact hx
  · split at h
    · obtain ⟨s,w,e,h⟩:=bind_is h;have:=scP_len e;exact pg_ht N n _ _ _ _ h (by omega) hx
    · obtain ⟨d,w,e,h⟩:=bind_is h;have h1:=dcP_len e;have h2:=dcP_ht e;(refine pg_ht N n _ _ _ _ h (by omega) fun q hq=>?_);rcases List.mem_append.1 hq with hq | hq
      · exact hx q hq
      · rw [List.mem_singleton.1 hq];omega
theorem proP_ht {u v:List To} {y:Pg} (h:proP u = .ok y v):∀ d∈y.fs,stsH d.bd≤u.length:=pg_ht _ _ _ _ _ _ h (Nat.le_refl _) fun _ q=>absurd q (by simp)
mutual
theorem dr_ht:∀ (s:St) (m:Nat),s.dr=some m→m≤41+s.ht
 | .mk _ _ _ _ _ _ ks bd el,m,h=>by
  rw [St.dr] at h;rw [St.ht];split at h
  · cases h
  · injection h with h;subst h;have h1:=stsR_ht bd 0;have h2:=stsR_ht el 0;omega
theorem stsR_ht:∀ (l:List St) (n:Nat),stsR l n≤max n (41+stsH l)
 | [],n=>by rw [stsR];omega
 | s::l,n=>by
  rw [stsR,stsH];cases hs:s.dr with
  | none=>simp only;omega
  | some m=>
   have h1:=dr_ht s m hs;have h2:=stsR_ht l (max n m);simp only;omega
end
theorem stsH_mem {s:St}:∀ {l:List St},s∈l→s.ht≤stsH l
 | [],h=>absurd h (by simp)
 | y::l,h=>by
  rw [stsH];rcases List.mem_cons.1 h with rfl | h
  · omega
  · have:=stsH_mem h;omega
end Go.Proofs.Ytflhcdcifilfcaa
