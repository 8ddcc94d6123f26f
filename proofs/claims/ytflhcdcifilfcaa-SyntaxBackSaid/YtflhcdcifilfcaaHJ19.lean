/-
  Merged for a claim: VCF, VKU, VCG, S1K, GF, S1L, S1P, S1Q, S3O, S3P.
-/
import Derived.Test.YtflhcdcifilfcaaHJ18
import Derived.Test.YtflhcdcifilfcaaHJ17
import Derived.Deep.QuietTactic
import Derived.KernelRfl
import Derived.Lib.SlBytesConst
import Derived.Deep.DeepMust
import Derived.Test.YtflhcdcifilfcaaHJ16
import Derived.Laws.IdiomStrings
import Derived.Test.YtflhcdcifilfcaaHJ0
import Derived.Test.YtflhcdcifilfcaaHJ3
import Derived.Deep.Slices
import Derived.Deep.Fields
import Derived.Deep.CutRange
namespace Go.Proofs.Ytflhcdcifilfcaa
open Go Go.RowKit

def refSg:List (List UInt8):=sigs2++sigs1
theorem refSigns_any (w:World):Calls Try.prog 48 #[] w fun e w'=>e = .returned (.slice (some ⟨w.heap.size,0,none⟩) 24 24)∧Below w.heap.size w w'∧eS.Lies w' w'.heap.size (some ⟨w.heap.size,0,none⟩) refSg:=by
 have hb0:∀ o,Below w.heap.size w (w.alloc o):=fun o=>(Below.refl _ _).alloc (Nat.le_refl _) _
 go_enter Try.func48,Try.ntmps48;go_wp2_with fail
 go_ret;refine ⟨rfl,hb0 _,strs_lie w _ refSg rfl⟩
def NoRef (m:List UInt8) (j:Nat):Prop:=∀ i (h:i < 24),i < j→(refSg[i]'h).isPrefixOf m=false
theorem NoRef.next {m:List UInt8} {j:Nat} (h:NoRef m j) (hj:j < 24) (hn:(refSg[j]'hj).isPrefixOf m=false):NoRef m (j+1):=fun i hi hlt=>by
 by_cases e:i=j
 · subst e;exact hn
 · exact h i hi (by omega)
theorem ref_no2 {m:List UInt8} {j:Nat} (h:NoRef m j) (hj:6≤j):m.take 2 ∉ sigs2:=fun hm=>by
 obtain ⟨i,hi,e⟩:=List.mem_iff_getElem.1 hm;have hi6:i < 6:=hi;have e1:refSg[i]'(show i < 24 by omega)=sigs2[i]:=List.getElem_append_left hi;have h3:=h i (by omega) (by omega);have e2:refSg[i]'(show i < 24 by omega)=m.take 2:=e1.trans e;rw [e2,take_pre] at h3;cases h3
theorem ref_sh:∀ i:Fin 18,refSg[i.1+6]'(show i.1+6 < 24 by omega)=sigs1[i.1]'(show i.1 < 18 from i.2):=by decide
theorem ref_hit {m:List UInt8} {j:Nat} (hj:j < 24) (h:NoRef m j) (hp:(refSg[j]'hj).isPrefixOf m=true):sign m=refSg[j]'hj∧refSg[j]'hj≠[]:=by
 by_cases h6:j < 6
 · have e1:refSg[j]'hj=sigs2[j]'h6:=List.getElem_append_left h6;(have hm:refSg[j]'hj∈sigs2:=by rw [e1];exact List.getElem_mem _);have hl:=sigs2_len _ hm;have:=pre_take hp;rw [hl] at this;refine ⟨?_,fun e=>by rw [e] at hl;cases hl⟩;unfold sign;rw [this,if_pos hm]
 · (have h18:j - 6 < 18:=by omega);have e1:refSg[j]'hj=sigs1[j - 6]'h18:=List.getElem_append_right (by show 6≤j;omega);(have hm:refSg[j]'hj∈sigs1:=by rw [e1];exact List.getElem_mem _);have hl:=sigs1_len _ hm;have:=pre_take hp;rw [hl] at this;refine ⟨?_,fun e=>by rw [e] at hl;cases hl⟩;unfold sign;rw [if_neg (ref_no2 h (by omega)),this,if_pos hm]
theorem ref_none {m:List UInt8} (h:NoRef m 24):sign m=[]:=by
 unfold sign;rw [if_neg (ref_no2 h (by omega)),if_neg];intro hm;obtain ⟨i,hi,e⟩:=List.mem_iff_getElem.1 hm;have hi18:i < 18:=hi;have e2:refSg[i+6]'(show i+6 < 24 by omega)=m.take 1:=(ref_sh ⟨i,hi18⟩).trans e;have h3:=h (i+6) (by omega) (by omega);rw [e2,take_pre] at h3;cases h3
theorem pre_iff {s m:List UInt8}:s.isPrefixOf m=true↔m.take s.length=s:=⟨pre_take,fun h=>by rw [← h];exact take_pre m _⟩
set_option maxRecDepth 100000 in
set_option maxHeartbeats 8000000 in
theorem refOne_sign (A:Option Addr) (c:Nat) (l:List UInt8) (k:Nat) (w:World) (hl:Lies w w.heap.size A l) (hn:l.length≤1099511627776) (hlc:l.length≤c) (hA:A=none→c=0) (hk:k < l.length) (hc1:tLe l[k]=false) (hc:tDi l[k]=false) :
 Calls Try.prog 27 #[.slice A l.length c,.int .i64 k] w (OneR (l.drop k) w):=by
 have HT:=Lib.hid (show tok1 (l.drop k)=if sign (l.drop k)=[] then none else some (4,sign (l.drop k),0) by rw [List.drop_eq_getElem_cons hk];simp only [tok1,hc1,hc];rfl);have hb0:∀ o,Below w.heap.size w (w.alloc o):=fun o=>(Below.refl _ _).alloc (Nat.le_refl _) _
 have HSUB:=Lib.hid (fun (q:Nat) (hq:k+q≤l.length)=>sub_str hl hlc hA (k:=k) (m:=k+q) (by omega) hq);have HLE:=Lib.hid (show ∀ w',Calls Try.prog 43 #[.int .u8 ((l[k]).toNat:Int)] w' fun e w2=>e = .returned (.bool false)∧w'=w2 from fun w'=>by have:=refLetter_i ((l[k]).toNat:Int) w';rw [show leI ((l[k]).toNat:Int)=false from hc1] at this;exact this);have HDE:=Lib.hid (show ∀ w',Calls Try.prog 44 #[.int .u8 ((l[k]).toNat:Int)] w' fun e w2=>e = .returned (.bool false)∧w'=w2 from fun w'=>by have:=refDigit_i ((l[k]).toNat:Int) w';rw [show diI ((l[k]).toNat:Int)=false from hc] at this;exact this);have hdl:(l.drop k).length=l.length - k:=List.length_drop;have HDL:=Lib.hid hdl;obtain ⟨m,HM⟩:∃ m,Hid (l.drop k=m):=⟨_,rfl⟩;rw [HM.out] at HT HDL;rw [HM.out];unfold OneR;generalize tok1 m=res at *;obtain ⟨g,o,hAe,hg,hcell⟩:=hl.at_ hk;have hc0:∀ ob,(w.alloc ob).cell? ⟨g,o+k,none⟩=some (.int .u8 ((l[k]).toNat:Int)):=fun ob=>((hb0 ob).cell hg).trans hcell
 have hlti:(k:Int) < (l.length:Int):=by omega
 have hni:(l.length:Int)≤1099511627776:=by omega
 clear hl hcell hdl;subst hAe;generalize ((l[k]).toNat:Int)=C at *;go_enter Try.func27,Try.ntmps27;go_wp2_with fail
 refine (HLE.out _).mono ?_;rintro e w' ⟨rfl,rfl⟩;clear HLE;go_wp2_with fail
 refine (HDE.out _).mono ?_;rintro e w' ⟨rfl,rfl⟩;clear HDE hc0;go_wp2_with fail
 refine (refSigns_any _).mono ?_;rintro e w2 ⟨rfl,hb2,hS⟩;have hA2:CAt w2 w.heap.size 77 [.int .u8 0,.string (str []),.int .i64 0,.int .i64 0]:=CAt.below (heap_alloc_new w _) hb2 (by simp);have HA2:=Lib.hid hA2;have HB2:=Lib.hid ((hb0 _).trans (hb2.mono (hb0 _).size))
 have HSG:=Lib.hid (fun j (hj:j < 24) (wr:World) (hbr:Below w2.heap.size w2 wr)=>(show wr.cell? ⟨(w.alloc (.cells #[.int .u8 0,.string ⟨#[]⟩,.int .i64 0,.int .i64 0] 77)).heap.size,0+j,none⟩=some (.string (str (refSg[j]'hj))) by
  obtain ⟨g',o',e',hg',hcj⟩:=hS.at_ (show j < refSg.length from hj);injection e' with e';injection e' with e1 e2;subst e1 e2;have:=(hbr.cell hg').trans (hcj 0 _ rfl);rw [show 0+j*eS.sz+0=0+j by show 0+j*1+0=_;omega] at this
  exact this))
 simp only [World.size_alloc,Nat.zero_add] at HSG;clear hb2 hS hA2;go_wp2_with fail
 go_loopw [13] (fun i wr=>∃ j:Nat,j≤24∧i = .int .i64 j∧Hid (NoRef m j)∧Hid (Below w2.heap.size w2 wr)) (fun i _=>24 - (intOf i).toNat)
 case atStart=>exact ⟨0,by omega,rfl,(fun _ _ h=>absurd h (by omega)),Below.refl _ _⟩
 case round=>
  obtain ⟨j,hj,rfl,HN,hBr⟩:=hrel;have hA:=CAt.below HA2.out hBr.out HA2.out.lt;have HB1:=Lib.hid (HB2.out.trans (hBr.out.mono HB2.out.size));have f0:=hA.frozen 0;have f1:=hA.frozen 1;have f2:=hA.frozen 2;have f3:=hA.frozen 3;have s0:=hA.cell (j:=0) (by simp);have s1:=hA.cell (j:=1) (by simp);have s2:=hA.cell (j:=2) (by simp);have s3:=hA.cell (j:=3) (by simp);by_cases hlt:j < 24
  · (have hlti24:(j:Int) < 24:=by omega);have hcj:=HSG.out j hlt wr hBr.out;have HNX:=Lib.hid (fun h=>HN.out.next hlt h);have HHI:=Lib.hid (fun h=>ref_hit hlt HN.out h);have HLN:=Lib.hid (show ∀ s∈refSg,s.length≤2 from by decide);have hs2:=HLN.out _ (List.getElem_mem (show j < refSg.length from hlt));clear HN HLN;generalize refSg[j]'hlt=s at *;have hss:=str_sz s;have hst:=str_toList s;by_cases hfit:k+s.length≤l.length
    · (have hfi:(k:Int)+(s.length:Int)≤(l.length:Int):=by omega);obtain ⟨A',c',hsl,hcv⟩:=HSUB.out s.length hfit;rw [show k+s.length - k=s.length by omega,HM.out] at hcv;rw [show k+s.length - k=s.length by omega] at hsl;simp only [Int.natCast_add] at hsl;(have hcvn:=fun n=>hcv (wr.drewN n) (HB1.out.trans (below_draws n)));by_cases heq:m.take s.length=s
      · have HRES:=Lib.hid (show res=some (4,s,0) by
         obtain ⟨h1,h2⟩:=HHI.out (pre_iff.2 heq)
         rw [HT.out,h1,if_neg h2])
        rw [heq] at hcvn;have HW:=Lib.hid ((((hA.set 0 (.int .u8 4)).set 1 (.string (str s))).set 2 (.int .i64 0)).set 3 (.int .i64 0));clear heq HHI HNX HT HSUB hcv hA;go_wp2_with fail
        go_quiet (fail)
        (go_wp2_with fail);refine bodyPost_ret (tokv_back rfl rfl HW.out) rfl ?_;exact ⟨(HB1.out.trans (below_draws nq)).grown (grown4 _ _ _ _ _ _) HB1.out.size (fun j e=>by cases e;exact Nat.le_refl _),_,_,_,_,rfl,.inr ⟨HRES.out,rfl⟩⟩
      · have HNN:=Lib.hid (HNX.out (by
         cases hp:s.isPrefixOf m with
         | false=>rfl
         | true=>exact absurd (pre_iff.1 hp) heq))
        (have hxe:((str (m.take s.length)).toList == (str s).toList)=false:=by rw [str_toList,str_toList];exact beq_eq_false_iff_ne.2 heq);(have hxe2:¬ (str (m.take s.length)).toList=(str s).toList:=by rw [str_toList,str_toList];exact heq);clear heq HHI HNX HT HSUB hcv hA hst;generalize m.take s.length=t at *;(have hxe3:¬ str t=str s:=fun e=>hxe2 (by rw [e]));go_wp2_with fail
        go_quiet (fail)
        go_wp2_with fail
        go_roundw
        (case rel=>exact ⟨j+1,by omega,by go_num,HNN,hBr.out.trans (below_draws nq)⟩);case measure=>simp [intOf];omega
    · (have hfi:(l.length:Int) < (k:Int)+(s.length:Int):=by omega);have hfd:decide ((k:Int)+(s.length:Int)≤(l.length:Int))=false:=decide_eq_false (by omega)
      have HNN:=Lib.hid (HNX.out (by
       cases hp:s.isPrefixOf m with
       | false=>rfl
       | true=>
        have:=congrArg List.length (pre_iff.1 hp);rw [List.length_take] at this;have:=HDL.out
        omega))
      clear HHI HNX HT HSUB hA;go_wp2_with fail
      go_quiet (fail)
      go_wp2_with fail
      go_roundw
      (case rel=>exact ⟨j+1,by omega,by go_num,HNN,hBr.out.trans (below_draws nq)⟩);case measure=>simp [intOf];omega
  · (obtain rfl:j=24:=by omega);have HRES:=Lib.hid (show res=none by rw [HT.out,if_pos (ref_none HN.out)]);have HW:=Lib.hid ((((hA.set 0 (.int .u8 0)).set 1 (.string (str []))).set 2 (.int .i64 0)).set 3 (.int .i64 0));clear HN HT HSUB hA;(go_wp2_with fail);refine bodyPost_ret (tokv_back rfl rfl HW.out) rfl ?_;exact ⟨HB1.out.grown (grown4 _ _ _ _ _ _) HB1.out.size (fun j e=>by cases e;exact Nat.le_refl _),_,_,_,_,rfl,.inl ⟨HRES.out,rfl⟩⟩
theorem refOne_any (A:Option Addr) (c:Nat) (l:List UInt8) (k:Nat) (w:World) (hl:Lies w w.heap.size A l) (hn:l.length≤1099511627776) (hlc:l.length≤c) (hA:A=none→c=0) (hk:k < l.length) :
 Calls Try.prog 27 #[.slice A l.length c,.int .i64 k] w (OneR (l.drop k) w):=by
 cases h1:tLe l[k]
 · cases h2:tDi l[k]
   · exact refOne_sign A c l k w hl hn hlc hA hk h1 h2
   · exact refOne_num A c l k w hl hn hlc hA hk h1 h2
 · exact refOne_name A c l k w hl hn hlc hA hk h1
end Go.Proofs.Ytflhcdcifilfcaa

namespace Go.Proofs.Ytflhcdcifilfcaa
open Go Go.RowKit

theorem nl_take {a:List UInt8} {j:Nat} (h:j < a.length):nl (a.take (j+1))=nl (a.take j)+if a[j]=10 then 1 else 0:=by
 rw [List.take_add_one,List.getElem?_eq_getElem h,nl_append];simp only [Option.toList];rw [nl_cons,nl_nil,Nat.zero_add]
theorem nl_take_le (a:List UInt8) (j:Nat):nl (a.take j)≤a.length:=Nat.le_trans (nl_le _) (by rw [List.length_take];omega)
end Go.Proofs.Ytflhcdcifilfcaa

namespace Go.Proofs.Ytflhcdcifilfcaa
open Go Go.RowKit

theorem nl_split (l:List UInt8) (p:Nat):nl (l.take p)+nl (l.drop p)=nl l:=by
 conv=>rhs;rw [← List.take_append_drop p l]
 rw [nl_append]
set_option maxRecDepth 100000 in
set_option maxHeartbeats 8000000 in
theorem refScan_any (A:Option Addr) (c:Nat) (l:List UInt8) (w:World) (hl:Lies w w.heap.size A l) (hlc:l.length≤c) (hA:A=none→c=0) (hn:l.length≤1099511627776) :
 Calls Try.prog 11 #[.slice A l.length c] w (ScanR l w):=by
 by_cases hbig:16384 < l.length
 · (have hbi:(16384:Int) < (l.length:Int):=by omega);go_enter Try.func11,Try.ntmps11;go_wp2_with fail
   go_ret3
   exact ⟨Below.refl _ _,.inl ⟨hbig,rfl⟩⟩
 have hbi:(l.length:Int)≤16384:=by omega
 obtain ⟨N,hN⟩:∃ N,1+nl l=N:=⟨_,rfl⟩;have hNl:=nl_le l;have hT0:appT [] (scanS N (sk false l))=scanP l:=by
  rw [← hN];unfold scanP;cases scanS (1+nl l) (sk false l)<;>rfl
 have hb0:=bp_drop (l:=l) (k:=0) (by omega);rw [List.drop_zero] at hb0;have HBL:=Lib.hid (refBlank_any A c l 0 w hl hn (by omega));have HS0:=Lib.hid (show appT [] (scanS N (l.drop (bp l 0)))=scanP l from by rw [hb0.1];exact hT0);have hp0:=hb0.2.1;have HLi:=Lib.hid hl;have HNE:=Lib.hid hN;have hN2:N≤20000:=by omega
 clear hT0 hb0 hl hN hNl;unfold ScanR;generalize scanP l=TOT at *;generalize bp l 0=p0 at *;go_enter Try.func11,Try.ntmps11;go_wp2_with fail
 refine HBL.out.mono ?_;rintro e w' ⟨rfl,rfl⟩;clear HBL;go_wp2_with fail
 go_loopw [5,6,7,8] (fun v ln la at_ wr=>∃ (acc:List Tk) (q p:Nat) (A:Option Addr) (n c:Nat),v = .slice A n c∧ln = .int .i64 ((1+nl (l.take q):Nat):Int)∧la = .int .i64 q∧at_ = .int .i64 p∧q≤p∧p≤l.length∧Hid (acc.length=n)∧Hid (eT.Own wr w.heap.size (.slice A n c) acc)∧Hid (Below w.heap.size w wr)∧Hid (appT acc (scanS N (l.drop p))=TOT)∧acc.length+(l.length - p)≤16384) (fun _ _ _ at_ _=>l.length - (intOf at_).toNat)
 case atStart=>exact ⟨[],0,p0,none,0,0,rfl,rfl,rfl,rfl,by omega,hp0,rfl,El.Own.nil _ _,Below.refl _ _,HS0,by simp;omega⟩
 case round=>
  obtain ⟨acc,q,p,A1,n,c1,rfl,rfl,rfl,rfl,hqp,hpl,hn1,hO,hB,hS,hSl⟩:=hrel;clear HS0;by_cases hlt:p < l.length
  · (have hlti:(p:Int) < (l.length:Int):=by omega);have hLw:=HLi.out.below hB.out;have HBr:=Lib.hid hB.out;go_wp2_with fail
    go_loop [6,7] (fun ln i=>∃ j:Nat,j≤p∧i = .int .i64 j∧ln = .int .i64 ((1+nl (l.take j):Nat):Int)) (fun _ i=>p - (intOf i).toNat)
    (case atStart=>exact ⟨q,hqp,rfl,rfl⟩);case round=>
     obtain ⟨j,hj,rfl,rfl⟩:=hrel;have hq:=nl_take_le l j;by_cases hltj:j < p
     · (have hjl:j < l.length:=by omega);obtain ⟨g,o,rfl,hg,hcell⟩:=hLw.at_ hjl;have hst:=Lib.hid (nl_take hjl);generalize nl (l.take j)=Q at *;by_cases hx:l[j]=10
       · have hs1:=Lib.hid (show nl (l.take (j+1))=Q+1 by rw [hst.out,if_pos hx]);rw [hx] at hcell
         replace hcell:wr.cell? ⟨g,o+j,none⟩=some (.int .u8 10):=hcell
         clear hx hst;go_wp2_with fail
         go_round
         (case rel=>exact ⟨j+1,by omega,by go_num,by rw [hs1.out];go_num⟩);case measure=>simp [intOf];omega
       · have hs1:=Lib.hid (show nl (l.take (j+1))=Q by rw [hst.out,if_neg hx];rfl);(have hx2:¬ ((l[j]).toNat:Int)=10:=fun e=>hx (UInt8.toNat_inj.1 (show (l[j]).toNat=10 by omega)));clear hx hst;generalize ((l[j]).toNat:Int)=X at *;go_wp2_with fail
         go_round
         (case rel=>exact ⟨j+1,by omega,by go_num,by rw [hs1.out]⟩);case measure=>simp [intOf];omega
     · (obtain rfl:j=p:=by omega);(have hLQ:1+nl (l.take j)=N - nl (l.drop j):=by have:=nl_split l j;have:=HNE.out;omega);have HF:=Lib.hid (refOne_any A c l j wr (hLw.more hB.out.size) hn hlc hA hlt);obtain ⟨r,HRD⟩:∃ r,Hid (l.drop j=r):=⟨_,rfl⟩;have HRL:=Lib.hid (show r.length+j=l.length by rw [← HRD.out,List.length_drop];omega);have HNN:=Lib.hid (show nl r≤N by rw [← HRD.out];have:=nl_split l j;have:=HNE.out;omega);rw [hLQ];rw [HRD.out] at HF hS hLQ ⊢;have HNE2:=Lib.hid (show r≠[] from fun e=>by have:=HRL.out;rw [e] at this;simp at this;omega);have hnr:nl r≤N:=HNN.out;unfold OneR at HF;have HLQ:=Lib.hid hLQ;clear hLQ hltj hq hLw;(go_wp2_with fail);refine HF.out.mono ?_;rintro e w1 ⟨hb1,kd,s,nu,bb,rfl,hres⟩;clear HF;have hz1:=hb1.size;have hzB:=hB.out.size;have HB1:=Lib.hid (hB.out.trans (hb1.mono hzB));have HO1:=Lib.hid (hO.out.below hb1);have hB1z:=HB1.out.size;clear hb1 hB hO;rcases hres with ⟨ht,rfl⟩ | ⟨ht,rfl⟩
       · have HT:=Lib.hid (show TOT = .error (N - nl r) by
          rw [← hS.out,scanS_none N HNE2.out ht]
          rfl)
         clear hS ht;unfold tokV;go_wp2_with fail
         go_ret3
         exact ⟨HB1.out.alloc (by omega) _,.inr ⟨by omega,.inl ⟨_,HT.out,rfl⟩⟩⟩
       · obtain ⟨hs0,hsl,hS2,hsh,hnl2,hnl3,hln⟩:=scan_step hS.out ht HNN.out;have HS2:=Lib.hid hS2;have HSL1:1≤s.length:=List.length_pos_iff.2 hs0;have HSH:=Lib.hid hsh;have hss:=str_sz s;clear hS ht hS2 hsh hnl2 hnl3 hln;have HR2:=Lib.hid (show sk false (r.drop s.length)=l.drop (bp l (j+s.length)) by rw [(bp_drop (l:=l) (k:=j+s.length) (by have:=HRL.out;omega)).1,← HRD.out,List.drop_drop]);(have hpl2:j+s.length≤l.length:=by have:=HRL.out;omega);have hbp:=(bp_drop (l:=l) hpl2).2;generalize r.drop s.length=r2 at *;generalize sk false r2=r3 at *;(have hn2:acc.length≤1000000:=by omega);have HACC:=Lib.hid hn1;clear hn1;unfold tokV;have hX0:Below w1.heap.size w1 (w1.alloc (.cells #[.int .u8 kd,.string (str s),.int .i64 nu,.int .i64 ((N - nl r:Nat):Int)] 77)):=(Below.refl _ _).alloc (Nat.le_refl _) _;have hXn:=heap_alloc_new w1 (.cells #[.int .u8 kd,.string (str s),.int .i64 nu,.int .i64 ((N - nl r:Nat):Int)] 77);(have hXz:(w1.alloc (.cells #[.int .u8 kd,.string (str s),.int .i64 nu,.int .i64 ((N - nl r:Nat):Int)] 77)).heap.size=w1.heap.size+1:=by simp);have HX:Hid (∀ X0,w1.alloc (.cells #[.int .u8 kd,.string (str s),.int .i64 nu,.int .i64 ((N - nl r:Nat):Int)] 77)=X0→Below w1.heap.size w1 X0∧X0.heap[w1.heap.size]? = some (.cells #[.int .u8 kd,.string (str s),.int .i64 nu,.int .i64 ((N - nl r:Nat):Int)] 77 (0,0))∧X0.heap.size=w1.heap.size+1):=by
          rintro _ rfl;exact ⟨hX0,hXn,hXz⟩
         clear hX0 hXn hXz;obtain ⟨hx1,hx2,hx3⟩:=HX.out _ rfl;have hY:=hx1.trans ((Below.refl _ _).alloc (by omega) (.cells #[.int .u8 kd,.string (str s),.int .i64 nu,.int .i64 ((N - nl r:Nat):Int)] 77));have hY2:=heap_alloc_new (w1.alloc (.cells #[.int .u8 kd,.string (str s),.int .i64 nu,.int .i64 ((N - nl r:Nat):Int)] 77)) (.cells #[.int .u8 kd,.string (str s),.int .i64 nu,.int .i64 ((N - nl r:Nat):Int)] 77);rw [hx3] at hY2;have HY2:=Lib.hid hY2;have HOX:=Lib.hid (HO1.out.below hY);have HBX:=Lib.hid (HB1.out.trans (hY.mono hB1z));have HSX:Hid (∀ w6:World,((w1.alloc (.cells #[.int .u8 kd,.string (str s),.int .i64 nu,.int .i64 ((N - nl r:Nat):Int)] 77)).alloc (.cells #[.int .u8 kd,.string (str s),.int .i64 nu,.int .i64 ((N - nl r:Nat):Int)] 77)).grownBy w6 (Value.slice A1 n c1).ownBlock→w6.cell? ⟨w1.heap.size,1,none⟩=some (.string (str s))):=by
          intro w6 hg6;have hq:w6.heap[w1.heap.size]? = some (.cells #[.int .u8 kd,.string (str s),.int .i64 nu,.int .i64 ((N - nl r:Nat):Int)] 77 (0,0)):=(hg6.block w1.heap.size (by simp;omega) (fun e=>by have:=(HO1.out.lt _ e.symm).2.1;omega)).trans (((Below.heap_alloc _ _ _ (by rw [hx3];omega))).trans hx2);exact CAt.cell (e:=77) (cs:=[.int .u8 kd,.string (str s),.int .i64 nu,.int .i64 ((N - nl r:Nat):Int)]) hq (j:=1) (by simp)
         clear HX hx1 hx2 hx3 hY hY2
         go_wp2_with (at_builtin
                      refine El.app1 eT _ rfl 22 (.agg #[.int .u8 0,.string ⟨#[]⟩,.int .i64 0,.int .i64 0]) 40 Try.underlying22 tokv_info rfl (by omega) (by decide) (.tmp 43) (.tmp 45) rfl w.heap.size _ acc rfl HOX.out (w1.heap.size+1) 1 ⟨kd,s,nu,N - nl r⟩ rfl 77 HY2.out hn2 HBX.out.size ?_;intro v6 w6 ho6 hg6;have HO6:=Lib.hid ho6;have HG6:=Lib.hid hg6;have hs1:=HSX.out w6 hg6;obtain ⟨A6,n6,c6,rfl,hn6,_,_,_⟩:=ho6.formN
                      clear ho6 hg6)
         have HB6:=Lib.hid (El.below_grown HBX.out HG6.out HOX.out HBX.out.size);have HBQ:=Lib.hid (refBlank_any A c l (j+s.length) w6 ((HLi.out.below HB6.out).more HB6.out.size) hn hpl2);rw [Int.natCast_add] at HBQ;refine HBQ.out.mono ?_;rintro e w' ⟨rfl,rfl⟩;clear HBQ;go_wp2_with fail
         go_round
         case rel=>
          refine ⟨_,j,bp l (j+s.length),A6,n6,c6,rfl,by rw [HLQ.out],rfl,rfl,by omega,hbp.1,hn6,HO6.out,HB6.out,?_,?_⟩
          · rw [← HR2.out];exact HS2.out
          · rw [List.length_append,List.length_singleton];omega
         case measure=>simp [intOf];omega
  · obtain rfl:p=l.length:=by omega
    have HT:=Lib.hid (show TOT = .ok acc by
     rw [← hS.out,List.drop_length,scanS_nil];show Except.ok (acc++[])=_
     rw [List.append_nil])
    clear hS hn1;go_wp2_with fail
    go_ret3
    exact ⟨hB.out,.inr ⟨by omega,.inr ⟨acc,_,HT.out,rfl,hO.out⟩⟩⟩
end Go.Proofs.Ytflhcdcifilfcaa

namespace Go.Proofs.Ytflhcdcifilfcaa
open Go Go.RowKit

theorem toTo_lies {w:World} {A:Option Addr} {ts:List Tk} (h:eT.LiesT w A ts):eTo.LiesT w A (ts.map toTo):=fun hl=>by
 obtain ⟨g,o,e,hg,hc⟩:=h (by simpa using hl);refine ⟨g,o,e,hg,fun j hj f u hu=>hc j (by simpa using hj) f u ?_⟩;rw [List.getElem_map] at hu;exact hu
theorem bytes_lie (w:World) (s:List UInt8) (n k:Nat):Lies (w.drew.alloc (.cells (bytesRow (str s) n) 5 (k,k+1))) (w.heap.size+1) (some ⟨w.heap.size,0,none⟩) s:=fun hl=>by
 refine ⟨w.heap.size,0,rfl,by omega,fun j hj=>?_⟩;have:(w.drew.alloc (.cells (bytesRow (str s) n) 5 (k,k+1))).heap[w.heap.size]? = some (.cells (bytesRow (str s) n) 5 (k,k+1)):=heap_alloc_new w.drew _;rw [Nat.zero_add];simp only [World.cell?,this];unfold bytesRow str;rw [Array.getElem?_append_left (by simpa using hj)];simp [hj]
theorem toksP_len (s:List UInt8):(toksP s).length≤16384:=by
 unfold toksP;split
 · simp
 · rename_i hs;rcases h:scanP s with k | ts
   · simp
   · have h1:=(scan_all _ _ _ _ (Nat.le_refl _) h).2.2;have h2:=sk_len false s;simp;omega
set_option maxRecDepth 100000 in
theorem toks_any (s:List UInt8) (w:World) (hs:s.length≤1000000):Calls Try.prog 15 #[.string (str s)] w (fun e w'=>Below w.heap.size w w'∧∃ A c,e = .returned (.slice A (toksP s).length c)∧eTo.LiesT w' A (toksP s)):=by
 have hcv:=run_bytes_of_string w 9 34 5 (str s) Try.underlying9 Try.underlying34 Try.underlying5;have hsz:(str s).size=s.length:=by simp [str,ByteArray.size]
 rw [hsz] at hcv;have hcg:=grownCap_ge w s.length 0 5;have hB0:Below w.heap.size w (w.drew.alloc (.cells (bytesRow (str s) (grownCap w s.length 0 5)) 5 ((bytesRow (str s) (grownCap w s.length 0 5)).size,(bytesRow (str s) (grownCap w s.length 0 5)).size+1))):=((Below.refl _ w).drew).alloc (Nat.le_refl _) _;have hL0:=bytes_lie w s (grownCap w s.length 0 5) (bytesRow (str s) (grownCap w s.length 0 5)).size;have hz:(w.drew.alloc (.cells (bytesRow (str s) (grownCap w s.length 0 5)) 5 ((bytesRow (str s) (grownCap w s.length 0 5)).size,(bytesRow (str s) (grownCap w s.length 0 5)).size+1))).heap.size=w.heap.size+1:=by simp
 rw [← hz] at hL0;generalize w.drew.alloc (.cells (bytesRow (str s) (grownCap w s.length 0 5)) 5 ((bytesRow (str s) (grownCap w s.length 0 5)).size,(bytesRow (str s) (grownCap w s.length 0 5)).size+1))=w1 at *;have HS:=h_ (refScan_any _ _ s w1 hL0 hcg (fun e=>by cases e) (by omega));have HB0:=h_ hB0;clear hL0 hB0 hz hsz;go_enter Try.func15,Try.ntmps15;go_wp2_with fail
 refine HS.out.mono ?_;rintro e w2 ⟨hb2,h2⟩;have HB2:=h_ (HB0.out.trans (hb2.mono HB0.out.size));have HF:Hid (∃ A c,e = .returned (.tuple #[.slice A (toksP s).length c,.int .i64 0,.int .i64 0])∧eTo.LiesT w2 A (toksP s)∨∃ k x,e = .returned (.tuple #[.slice none 0 0,.int .i64 k,.int .i64 x])∧toksP s=[]):=by
  unfold toksP;rcases h2 with ⟨h,rfl⟩ | ⟨h,⟨k,hk,rfl⟩ | ⟨ts,v,hk,rfl,ho⟩⟩
  · exact ⟨none,0,.inr ⟨0,11,rfl,by rw [if_pos h]⟩⟩
  · exact ⟨none,0,.inr ⟨k,6,rfl,by rw [if_neg (by omega),hk]⟩⟩
  · obtain ⟨A,c,rfl,_,_,h3⟩:=ho.form;refine ⟨A,c,.inl ?_⟩;rw [if_neg (by omega),hk];exact ⟨by simp,toTo_lies h3⟩
 clear h2 HS hb2 HB0;obtain ⟨A,c,⟨rfl,hl⟩ | ⟨k,x,rfl,ht⟩⟩:=HF.out
 · have HL:=h_ hl;clear hl HF;(go_wp2_with fail);go_ret;exact ⟨HB2.out,A,c,rfl,HL.out⟩
 · have HT:=h_ ht;clear ht HF;(go_wp2_with fail);go_ret;exact ⟨HB2.out,none,0,by rw [HT.out];rfl,fun h=>by rw [HT.out] at h;simp at h⟩
theorem map_one {α β:Type} {f:α→β} {l:List α} {b:β} (h:l.map f=[b]):∃ x,l=[x]∧f x=b:=by
 rcases l with _ | ⟨x,_ | ⟨y,l⟩⟩
 · simp at h
 · exact ⟨x,rfl,by simpa using h⟩
 · simp at h
theorem map_two {α β:Type} {f:α→β} {l:List α} {b c:β} (h:l.map f=[b,c]):∃ x y,l=[x,y]∧f x=b∧f y=c:=by
 rcases l with _ | ⟨x,_ | ⟨y,_ | ⟨z,l⟩⟩⟩
 · simp at h
 · simp at h
 · exact ⟨x,y,rfl,by simpa using h⟩
 · simp at h
theorem shape1 {m:PgM} (h:m.d=⟨[],[dc1]⟩):∃ (A1 A2 pA bA kA b1 e1 xA yA zA:Option Addr) (c1 c2 pc bc kc b2 e2 xc yc zc:Nat) (ys zs:List XT),
 m=⟨A1,c1,[],A2,c2,[⟨[109,97,105,110],1,pA,pc,[],ty0,bA,bc,[XS.mk 2 1 [120] [] [] ty0 kA kc [XT.mk 7 0 [] [] [45] xA xc [XT.mk 7 0 [] [] [45] yA yc ys,XT.mk 7 0 [] [] [42] zA zc zs]] b1 b2 [] e1 e2 []]⟩]⟩:=by
 obtain ⟨A1,c1,ss,A2,c2,fs⟩:=m;injection h with h1 h2;have hs1:ss=[]:=by simpa using h1
 clear h1;obtain ⟨⟨nm,ln,pA,pc,ps,rs,bA,bc,bd⟩,rfl,h3⟩:=map_one h2;injection h3 with e1 e2 e3 e4 h5;have h5:bd.map XS.d=_:=(xssd_map bd).symm.trans h5;obtain ⟨t,rfl,h6⟩:=map_one h5;obtain ⟨kd,ln2,nm2,fl,cl,ty,kA,kc,ks,b1,b2,bd2,e5,e6,el⟩:=t;rw [XS.d] at h6;injection h6 with f1 f2 f3 f4 f5 f6 h7 h8 h9;rw [xsd_map] at h7;rw [xssd_map] at h8 h9;have hs8:bd2=[]:=by simpa using h8
 have hs9:el=[]:=by simpa using h9
 clear h8 h9;obtain ⟨⟨k1,n1,m1,g1,o1,xA,xc,xs⟩,rfl,h10⟩:=map_one h7;rw [XT.d] at h10;injection h10 with g2 g3 g4 g5 g6 h11;rw [xsd_map] at h11;obtain ⟨⟨k3,n3,m3,g33,o3,yA,yc,ys⟩,⟨k4,n4,m4,g44,o4,zA,zc,zs⟩,rfl,h12,h13⟩:=map_two h11;rw [XT.d] at h12 h13;injection h12 with a1 a2 a3 a4 a5 a6;injection h13 with b3 b4 b5 b6 b7 b8;subst hs1 e1 e2 e3 e4 f1 f2 f3 f4 f5 f6 hs8 hs9 g2 g3 g4 g5 g6 a1 a2 a3 a4 a5 b3 b4 b5 b6 b7;exact ⟨A1,A2,pA,bA,kA,b1,e5,xA,yA,zA,c1,c2,pc,bc,kc,b2,e6,xc,yc,zc,ys,zs,rfl⟩
set_option maxRecDepth 100000 in
set_option maxHeartbeats 8000000 in
theorem works_any (w:World):Calls Try.prog 6 #[] w (fun e w'=>e = .returned (.bool true)∧Below w.heap.size w w'):=by
 have HT1:=h_ (show Calls Try.prog 15 #[.string ⟨#[102,117,110,99,32,109,97,105,110,40,41,32,123,32,120,32,61,32,49,32,45,32,50,32,45,32,51,32,42,32,45,121,59,32,125]⟩] w _ from toks_any src1 w (by decide));have HT2:=h_ (fun W=>show Calls Try.prog 15 #[.string ⟨#[102,117,110,99,32,109,97,105,110,40,41,32,123,32,120,32,61,32,102,40,49,41,32,43,32,50,59,32,125]⟩] W _ from toks_any src2 W (by decide));go_enter Try.func6,Try.ntmps6;go_wp2_with fail
 refine HT1.out.mono ?_;rintro e w1 ⟨hb1,A1,c1,rfl,hl1⟩;have HB1:=h_ hb1;have HP1:=h_ (parse_any A1 c1 (toksP src1) (w:=w1) hl1.lies (Nat.le_trans (toksP_len _) (by decide)));clear hb1 hl1 HT1;go_wp2_with fail
 refine HP1.out.mono ?_;rintro e w2 ⟨m1,rfl,hd1,ho1,hb2⟩;rw [par_src1] at hd1 ⊢;obtain ⟨a1,a2,pA,bA,kA,b1,e1,xA,yA,zA,n1,n2,pc,bc,kc,b2,e2,xc,yc,zc,ys,zs,rfl⟩:=shape1 hd1;have HB2:=h_ (HB1.out.trans (hb2.mono HB1.out.size));obtain ⟨hr1,hr2,_,hdd⟩:=ho1;have hd2:=hdd _ (List.mem_singleton_self _);obtain ⟨gd,od,rfl,hgd,hcd⟩:=hr2.1.lies.at_ (j:=0) (by simp);obtain ⟨gb,ob,rfl,hgb,hcb⟩:=hd2.2.1.1.lies.at_ (j:=0) (by simp);have hx1:=xssOk.all hd2.2.2 _ (List.mem_singleton_self _);rw [XS.Ok] at hx1;obtain ⟨gk,ok,rfl,hgk,hck⟩:=hx1.1.1.1.lies.at_ (j:=0) (by simp);have hx2:=xsOk_all hx1.2.1 _ (List.mem_singleton_self _);rw [XT.Ok] at hx2;obtain ⟨gx,ox,rfl,hgx,hcx⟩:=hx2.1.1.lies.at_ (j:=0) (by simp);obtain ⟨gx2,ox2,he2,hgx2,hcx2⟩:=hx2.1.1.lies.at_ (j:=1) (by simp);injection he2 with he2;injection he2 with he2 he3;subst he2 he3
 have HQ:=h_ (show w2.cell? ⟨gd,od+6,none⟩=some (.slice (some ⟨gb,ob,none⟩) 1 bc)∧w2.cell? ⟨gb,ob+8,none⟩=some (.slice (some ⟨gk,ok,none⟩) 1 kc)
  ∧ (w2.cell? ⟨gk,ok,none⟩=some (.int .u8 7)∧w2.cell? ⟨gk,ok+1,none⟩=some (.int .i64 0)∧w2.cell? ⟨gk,ok+2,none⟩=some (.string ⟨#[]⟩)∧w2.cell? ⟨gk,ok+3,none⟩=some (.string ⟨#[]⟩)∧w2.cell? ⟨gk,ok+4,none⟩=some (.string ⟨#[45]⟩)∧w2.cell? ⟨gk,ok+5,none⟩=some (.slice (some ⟨gx,ox,none⟩) 2 xc))
  ∧ w2.cell? ⟨gx,ox+4,none⟩=some (.string ⟨#[45]⟩)∧w2.cell? ⟨gx,ox+10,none⟩=some (.string ⟨#[42]⟩)
  from ⟨hcd 6 _ rfl,hcb 8 _ rfl,⟨hck 0 _ rfl,hck 1 _ rfl,hck 2 _ rfl,hck 3 _ rfl,hck 4 _ rfl,hck 5 _ rfl⟩,hcx 4 _ rfl,hcx2 4 _ rfl⟩)
 have HN:=h_ (And.intro hgd (And.intro hgb (And.intro hgk hgx)));clear hr1 hr2 hdd hd2 hx1 hx2 hcd hcb hck hcx hcx2 hgd hgb hgk hgx hgx2 hd1 HP1 hb2;unfold PgM.cs;dsimp only;have hw2:=below_lnew w2 (.cells #[.slice a1 0 n1,.slice (some ⟨gd,od,none⟩) 1 n2] 27);have HW2:=h_ hw2;have HC2:=h_ (show CAt (w2.alloc (.cells #[.slice a1 0 n1,.slice (some ⟨gd,od,none⟩) 1 n2] 27)) w2.heap.size 27 _ from heap_alloc_new w2 _);clear hw2;go_wp2_with fail
 refine (HT2.out _).mono ?_;rintro e w3 ⟨hb3,A3,c3,rfl,hl3⟩;have HB3:=h_ hb3;have HP3:=h_ (parse_any A3 c3 (toksP src2) (w:=w3) hl3.lies (Nat.le_trans (toksP_len _) (by decide)));clear hb3 hl3 HT2;go_wp2_with fail
 refine HP3.out.mono ?_;rintro e w4 ⟨⟨q1,q2,qs,q3,q4,qf⟩,rfl,hd4,ho4,hb4⟩;rw [par_src2];unfold PgM.cs;dsimp only;have HB4:=h_ (HB3.out.trans (hb4.mono HB3.out.size));have hc4:=HC2.out.below HB4.out HC2.out.lt;have g4:=hc4.lt;have p1:=hc4.cell (j:=1) (by simp);simp only [nD,nE] at p1;have HB24:=h_ (HW2.out.trans (HB4.out.mono HW2.out.size));obtain ⟨hq1,hq2,⟨k0,k1,k2,k3,k4,k5⟩,hq4,hq5⟩:=HQ.out;obtain ⟨l1,l2,l3,l4⟩:=HN.out;have hz:=HB24.out.size
 replace hq1:=(HB24.out.cell (p:=⟨gd,od+6,none⟩) l1).trans hq1
 replace hq2:=(HB24.out.cell (p:=⟨gb,ob+8,none⟩) l2).trans hq2
 replace k0:=(HB24.out.cell (p:=⟨gk,ok,none⟩) l3).trans k0
 replace k1:=(HB24.out.cell (p:=⟨gk,ok+1,none⟩) l3).trans k1
 replace k2:=(HB24.out.cell (p:=⟨gk,ok+2,none⟩) l3).trans k2
 replace k3:=(HB24.out.cell (p:=⟨gk,ok+3,none⟩) l3).trans k3
 replace k4:=(HB24.out.cell (p:=⟨gk,ok+4,none⟩) l3).trans k4
 replace k5:=(HB24.out.cell (p:=⟨gk,ok+5,none⟩) l3).trans k5
 replace hq4:=(HB24.out.cell (p:=⟨gx,ox+4,none⟩) l4).trans hq4
 replace hq5:=(HB24.out.cell (p:=⟨gx,ox+10,none⟩) l4).trans hq5
 have l1':gd < w4.heap.size:=by omega
 have l2':gb < w4.heap.size:=by omega
 have l3':gk < w4.heap.size:=by omega
 have l4':gx < w4.heap.size:=by omega
 have HBF:=h_ (show ∀ o1 o2:Obj,Below w.heap.size w ((w4.alloc o1).alloc o2) from fun o1 o2=>HB2.out.trans ((HB24.out.mono HB2.out.size).trans ((below_al2 w4 o1 o2).mono (Nat.le_trans HB2.out.size hz))));clear hc4 hb4 ho4 hd4 HQ HN l1 l2 l3 l4 hz HP3 HC2;go_wp2_with fail
 go_ret;exact ⟨rfl,HBF.out _ _⟩
end Go.Proofs.Ytflhcdcifilfcaa

namespace Go.Proofs.Ytflhcdcifilfcaa
open Go.ChangeShapes Go.WideShapes Go.ChangeAt Go.RowKit Go.Deep

theorem str_of (s:ByteArray):∃ l,s=str l:=⟨s.data.toList,by cases s;simp [str]⟩
section
variable {H:Type} {enc:TypeId×Value→H} {P:Program} {W:World} {base:Nat}
end
end Go.Proofs.Ytflhcdcifilfcaa

namespace Go.Proofs.Ytflhcdcifilfcaa
open Go Go.RowKit

def TrueR12 (w:World) (e:Ending) (w':World):Prop:=e = .returned (.bool true)∧Below w.heap.size w w'
end Go.Proofs.Ytflhcdcifilfcaa

namespace Go.Proofs.Ytflhcdcifilfcaa
open Go Go.RowKit

section
variable {W0 W Z:World} {o1:Option (Value×List ScM)} {o2:Option (Value×List DcM)} {o3:Option Nat} {v v':Value} {xs xs':List ScM} {ys ys':List DcM} {g:Nat}
end
end Go.Proofs.Ytflhcdcifilfcaa

namespace Go.Proofs.Ytflhcdcifilfcaa
open Go Go.RowKit

end Go.Proofs.Ytflhcdcifilfcaa

namespace Go.Proofs.Ytflhcdcifilfcaa
open Go Go.RowKit

end Go.Proofs.Ytflhcdcifilfcaa

namespace Go.Proofs.Ytflhcdcifilfcaa
open Go Go.RowKit

theorem scanP_few {s:List UInt8} {ts:List Tk} (h:scanP s = .ok ts):ts.length≤s.length:=by
 have h1:=(scan_all _ _ _ _ (Nat.le_refl _) h).2.2;have h2:=sk_len false s;omega
end Go.Proofs.Ytflhcdcifilfcaa
