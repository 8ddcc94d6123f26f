/-
  Merged for a claim: S5B, S5C.
-/
import Derived.Test.YtflhcdcifilfcaaHL2
namespace Go.Proofs.Ytflhcdcifilfcaa
open Go.ChangeShapes Go.WideShapes Go.ChangeAt Go.Deep
open Go Go.RowKit
set_option maxRecDepth 100000 in
set_option maxHeartbeats 16000000 in
theorem lexp_2 (B gy:Nat) (ln:Int) {m:Nat} (_hm:m≤1000000) (P:Nat→Prop) (kd nu:Int) (nm fe op:List UInt8) (Ak:Option Addr) (ck:Nat) (ks:List XT) (hI:∀ t∈ks,t.d.rg→LayX B gy m ln P t) (hkd:kd=2):(XT.mk kd nu nm fe op Ak ck ks).d.rg→LayX B gy m ln P (.mk kd nu nm fe op Ak ck ks):=by
 intro hr fl L W h ho hl;have HIH:=h_ hI;clear hI;obtain ⟨k0,hc,hf,hb⟩:=h.box (cs:=(XT.mk kd nu nm fe op Ak ck ks).cs) (e:=53) rfl;have ho1:=XT.Og.keep (P:=P) (Q:=P) (w:=W) (w':=W.alloc (.cells (XT.mk kd nu nm fe op Ak ck ks).cs.toArray 53)) (fun g _ ht=>(below_lnew W _).block g ht.lt) (fun _ q=>q) _ ho;obtain ⟨W1,hW1⟩:∃ W1,W.alloc (.cells (XT.mk kd nu nm fe op Ak ck ks).cs.toArray 53)=W1:=⟨_,rfl⟩;obtain ⟨gb,hgb⟩:∃ gb,W.heap.size=gb:=⟨_,rfl⟩;rw [hW1] at k0 hc hf hb ho1;rw [hgb] at hc;have HF:=h_ (And.intro hf hb);have K0:=h_ k0;rw [XT.Og] at ho1;have HO:=h_ ho1;clear k0 hf hb ho1 h ho;have hdx:(XT.mk kd nu nm fe op Ak ck ks).d = .mk kd nu nm fe op (xsd ks):=by rw [XT.d]
 rw [hdx] at hr hl ⊢;rw [Ex.rg] at hr;obtain ⟨hnu9,hrk⟩:=hr;have HRK:=h_ hrk;have HNU:=h_ hnu9;have HLN:=h_ hl;obtain ⟨R,hR⟩:∃ R,LyR B gy m ln ln fl L (Fine (.mk kd nu nm fe op (xsd ks))) (Ex.ly m ln (.mk kd nu nm fe op (xsd ks))) (Ex.wt m (.mk kd nu nm fe op (xsd ks))) W=R:=⟨_,rfl⟩;rw [hR];have HR:=h_ hR;unfold xV;unfold XT.cs at hW1 hc ⊢;dsimp only at hW1 hc ⊢;have HC:=h_ hc;clear hR hdx hrk hnu9 hl hc;subst hkd;by_cases hx:ks.length=0
 · obtain rfl:ks=[]:=List.length_eq_zero_iff.1 hx;clear hx;simp only [nG] at hW1 ⊢;by_cases hx:nm=[]
   · (have s_nm:(str nm).toList.isEmpty=true:=by rw [str_isE,hx];rfl);have HE_nm:=h_ hx;clear hx;by_cases hx:fe=[]
     · (have s_fe:(str fe).toList.isEmpty=true:=by rw [str_isE,hx];rfl);have HE_fe:=h_ hx;clear hx;by_cases hx:op=[]
       · (have s_op:(str op).toList.isEmpty=true:=by rw [str_isE,hx];rfl);have HE_op:=h_ hx;clear hx;by_cases h1:nu=1
         · subst h1;have c9:=K0.out.keeps HC.out (by decide);have c0:=c9.cell (j:=0) (by simp);have c1:=c9.cell (j:=1) (by simp);have c2:=c9.cell (j:=2) (by simp);have c3:=c9.cell (j:=3) (by simp);have c4:=c9.cell (j:=4) (by simp);have c5:=c9.cell (j:=5) (by simp);simp only [nD,nE,nG] at c0 c1 c2 c3 c4 c5;clear c9;go_enter Try.func76,Try.ntmps76;(go_wp2_with fail);refine (K0.out.put1 3 [116,114,117,101] (by have:=HLN.out;simp only [Ex.wt,xsd,exsWt] at this;(try simp only [nH,nF,nG]);omega) _ (by simp)).mono ?_;rintro e X2 ⟨rfl,h9⟩;have K1:=h_ h9;clear h9;go_wp2_with fail
           go_end0
           rw [← HR.out];refine lyr_end K1.out HF.out.1 HF.out.2 (Gd.put _ _ _) (by simp only [Ex.wt,xsd,exsWt,nH,nF,nG];omega) (fun hp=>?_);rw [HE_nm.out];rw [HE_fe.out];rw [HE_op.out];exact ⟨.bool 1 (.inr rfl),by rw [xsd,show Ex.mk 2 1 [] [] [] []=eBool 1 from rfl,ly_bool];rfl⟩
         (have e1:(nu == 1)=false:=by simpa using h1);have c9:=K0.out.keeps HC.out (by decide);have c0:=c9.cell (j:=0) (by simp);have c1:=c9.cell (j:=1) (by simp);have c2:=c9.cell (j:=2) (by simp);have c3:=c9.cell (j:=3) (by simp);have c4:=c9.cell (j:=4) (by simp);have c5:=c9.cell (j:=5) (by simp);simp only [nD,nE,nG] at c0 c1 c2 c3 c4 c5;clear c9;obtain ⟨_,_,q3,_,q5,q6⟩:=K0.out.cells;cases fl with
         | true=>
          go_enter Try.func76,Try.ntmps76;(go_wp2_with fail);refine ((K0.out.setF true).put1 3 [102,97,108,115,101] (by have:=HLN.out;simp only [Ex.wt,xsd,exsWt] at this;(try simp only [nH,nF,nG]);omega) _ (by simp)).mono ?_;rintro e X3 ⟨rfl,h9⟩;have K1:=h_ h9;clear h9;go_wp2_with fail
          go_end0
          rw [← HR.out];exact lyr_off2 K1.out HF.out.1 HF.out.2 (by simp only [Ex.wt,xsd,exsWt];(try simp only [nH,nF,nG]);omega)
         | false=>
          by_cases h0:nu=0
          · subst h0;go_enter Try.func76,Try.ntmps76;(go_wp2_with fail);refine ((K0.out.setF false).put1 3 [102,97,108,115,101] (by have:=HLN.out;simp only [Ex.wt,xsd,exsWt] at this;(try simp only [nH,nF,nG]);omega) _ (by simp)).mono ?_;rintro e X4 ⟨rfl,h9⟩;have K1:=h_ h9;clear h9;go_wp2_with fail
            go_end0
            rw [← HR.out];refine lyr_end K1.out HF.out.1 HF.out.2 (Gd.put _ _ _) (by simp only [Ex.wt,xsd,exsWt,nH,nF,nG];omega) (fun hp=>?_);rw [HE_nm.out];rw [HE_fe.out];rw [HE_op.out];exact ⟨.bool 0 (.inl rfl),by rw [xsd,show Ex.mk 2 0 [] [] [] []=eBool 0 from rfl,ly_bool];rfl⟩
          · (have e0:(nu != 0)=true:=by simpa using h0);go_enter Try.func76,Try.ntmps76;(go_wp2_with fail);refine ((K0.out.setF true).put1 3 [102,97,108,115,101] (by have:=HLN.out;simp only [Ex.wt,xsd,exsWt] at this;(try simp only [nH,nF,nG]);omega) _ (by simp)).mono ?_;rintro e X5 ⟨rfl,h9⟩;have K1:=h_ h9;clear h9;go_wp2_with fail
            go_end0
            rw [← HR.out];exact lyr_off2 K1.out HF.out.1 HF.out.2 (by simp only [Ex.wt,xsd,exsWt];(try simp only [nH,nF,nG]);omega)
       · (have s_op:(str op).toList.isEmpty=false:=by rw [str_isE];cases op with | nil=>exact absurd rfl hx | cons _ _=>rfl);clear hx;have c9:=K0.out.keeps HC.out (by decide);have c0:=c9.cell (j:=0) (by simp);have c1:=c9.cell (j:=1) (by simp);have c2:=c9.cell (j:=2) (by simp);have c3:=c9.cell (j:=3) (by simp);have c4:=c9.cell (j:=4) (by simp);have c5:=c9.cell (j:=5) (by simp);simp only [nD,nE,nG] at c0 c1 c2 c3 c4 c5;clear c9;obtain ⟨_,_,q3,_,q5,q6⟩:=K0.out.cells;go_enter Try.func76,Try.ntmps76;go_wp2_with fail
         go_end0
         rw [← HR.out];exact lyr_off K0.out HF.out.1 HF.out.2 (by omega) rfl
     · (have s_fe:(str fe).toList.isEmpty=false:=by rw [str_isE];cases fe with | nil=>exact absurd rfl hx | cons _ _=>rfl);clear hx;have c9:=K0.out.keeps HC.out (by decide);have c0:=c9.cell (j:=0) (by simp);have c1:=c9.cell (j:=1) (by simp);have c2:=c9.cell (j:=2) (by simp);have c3:=c9.cell (j:=3) (by simp);have c4:=c9.cell (j:=4) (by simp);have c5:=c9.cell (j:=5) (by simp);simp only [nD,nE,nG] at c0 c1 c2 c3 c4 c5;clear c9;obtain ⟨_,_,q3,_,q5,q6⟩:=K0.out.cells;go_enter Try.func76,Try.ntmps76;go_wp2_with fail
       go_end0
       rw [← HR.out];exact lyr_off K0.out HF.out.1 HF.out.2 (by omega) rfl
   · (have s_nm:(str nm).toList.isEmpty=false:=by rw [str_isE];cases nm with | nil=>exact absurd rfl hx | cons _ _=>rfl);clear hx;have c9:=K0.out.keeps HC.out (by decide);have c0:=c9.cell (j:=0) (by simp);have c1:=c9.cell (j:=1) (by simp);have c2:=c9.cell (j:=2) (by simp);have c3:=c9.cell (j:=3) (by simp);have c4:=c9.cell (j:=4) (by simp);have c5:=c9.cell (j:=5) (by simp);simp only [nD,nE,nG] at c0 c1 c2 c3 c4 c5;clear c9;obtain ⟨_,_,q3,_,q5,q6⟩:=K0.out.cells;go_enter Try.func76,Try.ntmps76;go_wp2_with fail
     go_end0
     rw [← HR.out];exact lyr_off K0.out HF.out.1 HF.out.2 (by omega) rfl
 · obtain ⟨kn,hkn⟩:∃ kn,ks.length=kn:=⟨_,rfl⟩;rw [hkn] at hx hW1 HC ⊢;clear hkn;(have s_ks:((kn:Int) == 0)=false:=by rw [beq_eq_false_iff_ne];omega);(have s_k2:¬ (kn:Int)=0:=by omega);have c9:=K0.out.keeps HC.out (by decide);have c0:=c9.cell (j:=0) (by simp);have c1:=c9.cell (j:=1) (by simp);have c2:=c9.cell (j:=2) (by simp);have c3:=c9.cell (j:=3) (by simp);have c4:=c9.cell (j:=4) (by simp);have c5:=c9.cell (j:=5) (by simp);simp only [nD,nE] at c0 c1 c2 c3 c4 c5;clear c9;obtain ⟨_,_,q3,_,q5,q6⟩:=K0.out.cells;go_enter Try.func76,Try.ntmps76;go_wp2_with fail
   go_end0
   rw [← HR.out];exact lyr_off K0.out HF.out.1 HF.out.2 (by omega) rfl
end Go.Proofs.Ytflhcdcifilfcaa

namespace Go.Proofs.Ytflhcdcifilfcaa
open Go.ChangeShapes Go.WideShapes Go.ChangeAt Go.Deep
open Go Go.RowKit
set_option maxRecDepth 100000 in
set_option maxHeartbeats 16000000 in
theorem lexp_3 (B gy:Nat) (ln:Int) {m:Nat} (_hm:m≤1000000) (P:Nat→Prop) (kd nu:Int) (nm fe op:List UInt8) (Ak:Option Addr) (ck:Nat) (ks:List XT) (hI:∀ t∈ks,t.d.rg→LayX B gy m ln P t) (hkd:kd=3):(XT.mk kd nu nm fe op Ak ck ks).d.rg→LayX B gy m ln P (.mk kd nu nm fe op Ak ck ks):=by
 intro hr fl L W h ho hl;have HIH:=h_ hI;clear hI;obtain ⟨k0,hc,hf,hb⟩:=h.box (cs:=(XT.mk kd nu nm fe op Ak ck ks).cs) (e:=53) rfl;have ho1:=XT.Og.keep (P:=P) (Q:=P) (w:=W) (w':=W.alloc (.cells (XT.mk kd nu nm fe op Ak ck ks).cs.toArray 53)) (fun g _ ht=>(below_lnew W _).block g ht.lt) (fun _ q=>q) _ ho;obtain ⟨W1,hW1⟩:∃ W1,W.alloc (.cells (XT.mk kd nu nm fe op Ak ck ks).cs.toArray 53)=W1:=⟨_,rfl⟩;obtain ⟨gb,hgb⟩:∃ gb,W.heap.size=gb:=⟨_,rfl⟩;rw [hW1] at k0 hc hf hb ho1;rw [hgb] at hc;have HF:=h_ (And.intro hf hb);have K0:=h_ k0;rw [XT.Og] at ho1;have HO:=h_ ho1;clear k0 hf hb ho1 h ho;have hdx:(XT.mk kd nu nm fe op Ak ck ks).d = .mk kd nu nm fe op (xsd ks):=by rw [XT.d]
 rw [hdx] at hr hl ⊢;rw [Ex.rg] at hr;obtain ⟨hnu9,hrk⟩:=hr;have HRK:=h_ hrk;have HNU:=h_ hnu9;have HLN:=h_ hl;obtain ⟨R,hR⟩:∃ R,LyR B gy m ln ln fl L (Fine (.mk kd nu nm fe op (xsd ks))) (Ex.ly m ln (.mk kd nu nm fe op (xsd ks))) (Ex.wt m (.mk kd nu nm fe op (xsd ks))) W=R:=⟨_,rfl⟩;rw [hR];have HR:=h_ hR;unfold xV;unfold XT.cs at hW1 hc ⊢;dsimp only at hW1 hc ⊢;have HC:=h_ hc;clear hR hdx hrk hnu9 hl hc;subst hkd;by_cases hx:ks.length=0
 · obtain rfl:ks=[]:=List.length_eq_zero_iff.1 hx;clear hx;simp only [nG] at hW1 ⊢;by_cases hx:fe=[]
   · (have s_fe:(str fe).toList.isEmpty=true:=by rw [str_isE,hx];rfl);have HE_fe:=h_ hx;clear hx;by_cases hx:op=[]
     · (have s_op:(str op).toList.isEmpty=true:=by rw [str_isE,hx];rfl);have HE_op:=h_ hx;clear hx;by_cases hx:nu=0
       · subst hx;have c9:=K0.out.keeps HC.out (by decide);have c0:=c9.cell (j:=0) (by simp);have c1:=c9.cell (j:=1) (by simp);have c2:=c9.cell (j:=2) (by simp);have c3:=c9.cell (j:=3) (by simp);have c4:=c9.cell (j:=4) (by simp);have c5:=c9.cell (j:=5) (by simp);simp only [nD,nE,nG] at c0 c1 c2 c3 c4 c5;clear c9;go_enter Try.func76,Try.ntmps76;(go_wp2_with fail);refine (K0.out.nam nm (by have:=HLN.out;simp only [Ex.wt,xsd,exsWt] at this;(try simp only [nH,nF,nG]);omega)).mono ?_;rintro e X6 ⟨rfl,fl2,G19,h9⟩;have K1:=h_ h9;have G1:=h_ G19;clear h9 G19;go_wp2_with fail
         go_end0
         rw [← HR.out];refine lyr_end K1.out HF.out.1 HF.out.2 (G1.out) (by simp only [Ex.wt,xsd,exsWt,nH,nF,nG];omega) (fun hp=>?_);rw [HE_fe.out];rw [HE_op.out];exact ⟨.var nm,(ly_var _ _ _).symm⟩
       · (have s_nu:(nu == 0)=false:=by simpa using hx);have c9:=K0.out.keeps HC.out (by decide);have c0:=c9.cell (j:=0) (by simp);have c1:=c9.cell (j:=1) (by simp);have c2:=c9.cell (j:=2) (by simp);have c3:=c9.cell (j:=3) (by simp);have c4:=c9.cell (j:=4) (by simp);have c5:=c9.cell (j:=5) (by simp);simp only [nD,nE,nG] at c0 c1 c2 c3 c4 c5;clear c9;obtain ⟨_,_,q3,_,q5,q6⟩:=K0.out.cells;go_enter Try.func76,Try.ntmps76;go_wp2_with fail
         go_end0
         rw [← HR.out];exact lyr_off K0.out HF.out.1 HF.out.2 (by omega) rfl
     · (have s_op:(str op).toList.isEmpty=false:=by rw [str_isE];cases op with | nil=>exact absurd rfl hx | cons _ _=>rfl);clear hx;have c9:=K0.out.keeps HC.out (by decide);have c0:=c9.cell (j:=0) (by simp);have c1:=c9.cell (j:=1) (by simp);have c2:=c9.cell (j:=2) (by simp);have c3:=c9.cell (j:=3) (by simp);have c4:=c9.cell (j:=4) (by simp);have c5:=c9.cell (j:=5) (by simp);simp only [nD,nE,nG] at c0 c1 c2 c3 c4 c5;clear c9;obtain ⟨_,_,q3,_,q5,q6⟩:=K0.out.cells;go_enter Try.func76,Try.ntmps76;go_wp2_with fail
       go_end0
       rw [← HR.out];exact lyr_off K0.out HF.out.1 HF.out.2 (by omega) rfl
   · (have s_fe:(str fe).toList.isEmpty=false:=by rw [str_isE];cases fe with | nil=>exact absurd rfl hx | cons _ _=>rfl);clear hx;have c9:=K0.out.keeps HC.out (by decide);have c0:=c9.cell (j:=0) (by simp);have c1:=c9.cell (j:=1) (by simp);have c2:=c9.cell (j:=2) (by simp);have c3:=c9.cell (j:=3) (by simp);have c4:=c9.cell (j:=4) (by simp);have c5:=c9.cell (j:=5) (by simp);simp only [nD,nE,nG] at c0 c1 c2 c3 c4 c5;clear c9;obtain ⟨_,_,q3,_,q5,q6⟩:=K0.out.cells;go_enter Try.func76,Try.ntmps76;go_wp2_with fail
     go_end0
     rw [← HR.out];exact lyr_off K0.out HF.out.1 HF.out.2 (by omega) rfl
 · obtain ⟨kn,hkn⟩:∃ kn,ks.length=kn:=⟨_,rfl⟩;rw [hkn] at hx hW1 HC ⊢;clear hkn;(have s_ks:((kn:Int) == 0)=false:=by rw [beq_eq_false_iff_ne];omega);(have s_k2:¬ (kn:Int)=0:=by omega);have c9:=K0.out.keeps HC.out (by decide);have c0:=c9.cell (j:=0) (by simp);have c1:=c9.cell (j:=1) (by simp);have c2:=c9.cell (j:=2) (by simp);have c3:=c9.cell (j:=3) (by simp);have c4:=c9.cell (j:=4) (by simp);have c5:=c9.cell (j:=5) (by simp);simp only [nD,nE] at c0 c1 c2 c3 c4 c5;clear c9;obtain ⟨_,_,q3,_,q5,q6⟩:=K0.out.cells;go_enter Try.func76,Try.ntmps76;go_wp2_with fail
   go_end0
   rw [← HR.out];exact lyr_off K0.out HF.out.1 HF.out.2 (by omega) rfl
end Go.Proofs.Ytflhcdcifilfcaa
