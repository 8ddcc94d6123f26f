/-
  Merged for a claim: S4K, S4L.
-/
import Derived.Test.YtflhcdcifilfcaaHL1
import Derived.Test.YtflhcdcifilfcaaHJ5
import Derived.Test.YtflhcdcifilfcaaHJ15
namespace Go.Proofs.Ytflhcdcifilfcaa
open Go.ChangeShapes Go.WideShapes Go.ChangeAt Go.Deep
open Go Go.RowKit

mutual
def Ex.wt (m:Nat):Ex→Nat
 | .mk _ _ _ _ _ ks=>3+exsWt m ks
def exsWt (m:Nat):List Ex→Nat
 | []=>0
 | x::l=>(x.wt m+2*(m+1))+exsWt m l
end
def LayX (B gy m:Nat) (ln:Int) (P:Nat→Prop) (t:XT):Prop:=∀ (fl:Bool) (L:List To) (W:World),LyS B gy m ln fl L W W→t.Og B W P→L.length+t.d.wt m≤1000000 →
 Calls Try.prog 76 #[.pointer (some ⟨gy,0,none⟩),xV t] W (LyR B gy m ln ln fl L (Fine t.d) (t.d.ly m ln) (t.d.wt m) W)
section
variable {B gy:Nat} {mo ln:Int} {fl:Bool} {L:List To} {W:World}
theorem kid_end {m:Nat} {t:XT} {fl2:Bool} {L2:List To} {W1 Z:World} {N:Nat} (hN:parN m t.d=N) (K:LyS B gy m ln fl2 (L2++List.replicate N (sgn [41] ln)) W1 Z) (hf:FrT [84,77] W W1) (hb:Below B W W1)
 (hg:Gd fl fl2 (L++List.replicate N (sgn [40] ln)) L2 (Fine t.d) (t.d.ly m ln)) (hl:L2.length≤(L++List.replicate N (sgn [40] ln)).length+t.d.wt m):LyR B gy m ln ln fl L (Fine t.d) (t.d.kl m ln) (t.d.wt m+2*(m+1)) W (.returned (.tuple #[])) Z:=by
 refine ⟨rfl,fl2,_,(((Gd.put fl L _).trans hg).trans (Gd.put fl2 L2 _)).as (fun h=>h.1.2) (fun _=>?_),?_,K.from_ hf hb⟩
 · unfold Ex.kl pars;rw [hN]
 · (have:N≤m+1:=by rw [← hN];unfold parN;split<;>omega);rw [nH,List.length_replicate] at hl ⊢;omega
set_option maxRecDepth 100000 in
set_option maxHeartbeats 2000000 in
theorem lkid_any {m:Nat} {P:Nat→Prop} {t:XT} (hx:LayX B gy m ln P t) (h:LyS B gy m ln fl L W W) (ho:t.Og B W P) (hm:m≤1000000) (hl:L.length+t.d.wt m+2*(m+1)≤1000000) :
 Calls Try.prog 68 #[.pointer (some ⟨gy,0,none⟩),xV t] W (LyR B gy m ln ln fl L (Fine t.d) (t.d.kl m ln) (t.d.wt m+2*(m+1)) W):=by
 have HKE:=h_ (fun (N:Nat) (fl2:Bool) (L2:List To) (W1 Z:World) (hN:parN m t.d=N)=>kid_end (B:=B) (gy:=gy) (ln:=ln) (fl:=fl) (L:=L) (W:=W) (fl2:=fl2) (L2:=L2) (W1:=W1) (Z:=Z) hN);have HLX:=h_ hx;obtain ⟨R,hR⟩:∃ R,LyR B gy m ln ln fl L (Fine t.d) (t.d.kl m ln) (t.d.wt m+2*(m+1)) W=R:=⟨_,rfl⟩;rw [hR] at HKE ⊢;obtain ⟨wt,hwt⟩:∃ wt,t.d.wt m=wt:=⟨_,rfl⟩;rw [hwt] at hl HKE;have HLN:=h_ (show L.length+wt+2*(m+1)≤1000000 from hl);have HWT:=h_ hwt;obtain ⟨k0,hc,hf,hb⟩:=h.box (cs:=t.cs) (e:=53) rfl;have ho1:=XT.Og.keep (P:=P) (Q:=P) (w:=W) (w':=W.alloc (.cells t.cs.toArray 53)) (fun g _ ht=>(below_lnew W _).block g ht.lt) (fun _ q=>q) t ho;obtain ⟨W1,hW1⟩:∃ W1,W.alloc (.cells t.cs.toArray 53)=W1:=⟨_,rfl⟩;obtain ⟨gb,hgb⟩:∃ gb,W.heap.size=gb:=⟨_,rfl⟩;rw [hW1] at k0 hc hf hb ho1;rw [hgb] at hc;have HF:=h_ (And.intro hf hb);have K0:=h_ k0;have HO:=h_ ho1;clear k0 hf hb ho1 hl hwt hR hx h ho;obtain ⟨kd,nu,nm,fe,op,Ak,ck,ks⟩:=t;have HPN:parN m (XT.mk kd nu nm fe op Ak ck ks).d=m+if kd=6∨kd=7 then 1 else 0:=by rw [XT.d];rfl
 unfold xV;unfold XT.cs at hW1 hc ⊢;have HC:=h_ hc;have c0:=hc.cell (j:=0) (by simp);simp only [nD] at c0;clear hc;obtain ⟨q1,q2,q3,q4,q5,q6⟩:=K0.out.cells;go_enter Try.func68,Try.ntmps68;by_cases h6:kd=6
 · subst h6;rw [if_pos (Or.inl rfl)] at HPN;obtain ⟨N,hN⟩:∃ N,m+1=N:=⟨_,rfl⟩;(have hmN:(m:Int)+1=(N:Int):=by omega);have HN:=h_ (show parN m _=N from HPN.trans hN);clear HPN;have HNN:=h_ (show N≤m+1 by omega);go_wp2_with fail
   go_loopw [5] (fun i wr=>∃ k:Nat,k≤N∧i = .int .i64 k∧Hid (LyS B gy m ln fl (L++List.replicate k (sgn [40] ln)) W1 wr)) (fun i _=>N - (intOf i).toNat)
   (case atStart=>exact ⟨0,by omega,rfl,by rw [List.replicate_zero,List.append_nil];exact K0⟩);case round=>
    obtain ⟨k,hk,rfl,K⟩:=hrel;clear c0 q1 q2 q3 q4 q5 q6;by_cases hlt:k < N
    · (have hki:(k:Int) < (N:Int):=by omega);(go_wp2_with fail);refine (K.out.put1 4 [40] (by have:=HLN.out;have:=HNN.out;simp only [nH,List.length_replicate];omega) _ (by simp)).mono ?_;rintro e X ⟨rfl,h9⟩;have K2:=h_ (show LyS B gy m ln fl (L++List.replicate (k+1) (sgn [40] ln)) W1 X by rw [List.replicate_succ',← List.append_assoc];exact h9);clear h9;(go_wp2_with fail);exact ⟨⟨k+1,by omega,by go_num,K2⟩,by simp [intOf];omega⟩
    · (obtain rfl:k=N:=by omega);have c9:=K.out.keeps HC.out (by decide);have c0:=c9.cell (j:=0) (by simp);have c1:=c9.cell (j:=1) (by simp);have c2:=c9.cell (j:=2) (by simp);have c3:=c9.cell (j:=3) (by simp);have c4:=c9.cell (j:=4) (by simp);have c5:=c9.cell (j:=5) (by simp);simp only [nD,nE] at c0 c1 c2 c3 c4 c5;clear c9;have HO2:=h_ (XT.Og.keep (Q:=P) (fun g _ ht=>K.out.frG g _ ht (by decide)) (fun _ q=>q) _ HO.out);(go_wp2_with fail);refine (HLX.out fl _ _ K.out.start HO2.out (by have:=HLN.out;have:=HNN.out;rw [HWT.out];simp only [nH,List.length_replicate];omega)).mono ?_;rintro e X ⟨rfl,fl2,L2,g9,l9,h9⟩;rw [HWT.out] at l9;have l8:=l9;rw [nH,List.length_replicate] at l8;have HL2:=h_ l8;have HKF:=h_ (fun Z=>HKE.out k fl2 L2 W1 Z HN.out);have K3:=h_ (K.out.next h9);have HG:=h_ (And.intro g9 l9);clear g9 l9 h9 l8 c0 c1 c2 c3 c4 c5;go_wp2_with fail
      go_loopw [6] (fun i wr=>∃ j:Nat,j≤k∧i = .int .i64 j∧Hid (LyS B gy m ln fl2 (L2++List.replicate j (sgn [41] ln)) W1 wr)) (fun i _=>k - (intOf i).toNat)
      (case atStart=>exact ⟨0,by omega,rfl,by rw [List.replicate_zero,List.append_nil];exact K3⟩);case round=>
       clear K K3;obtain ⟨j,hj,rfl,K⟩:=hrel;by_cases hlt2:j < k
       · (have hki:(j:Int) < (k:Int):=by omega);(go_wp2_with fail);refine (K.out.put1 4 [41] (by have:=HLN.out;have:=HNN.out;have:=HL2.out;simp only [nH,List.length_replicate];omega) _ (by simp)).mono ?_;rintro e X2 ⟨rfl,h9⟩;have K2:=h_ (show LyS B gy m ln fl2 (L2++List.replicate (j+1) (sgn [41] ln)) W1 X2 by rw [List.replicate_succ',← List.append_assoc];exact h9);clear h9;(go_wp2_with fail);exact ⟨⟨j+1,by omega,by go_num,K2⟩,by simp [intOf];omega⟩
       · (obtain rfl:j=k:=by omega);go_wp2_with fail
         go_end0
         exact HKF.out _ K.out HF.out.1 HF.out.2 HG.out.1 HG.out.2
 by_cases h7:kd=7
 · subst h7;rw [if_pos (Or.inr rfl)] at HPN;obtain ⟨N,hN⟩:∃ N,m+1=N:=⟨_,rfl⟩;(have hmN:(m:Int)+1=(N:Int):=by omega);have HN:=h_ (show parN m _=N from HPN.trans hN);clear HPN;have HNN:=h_ (show N≤m+1 by omega);go_wp2_with fail
   go_loopw [5] (fun i wr=>∃ k:Nat,k≤N∧i = .int .i64 k∧Hid (LyS B gy m ln fl (L++List.replicate k (sgn [40] ln)) W1 wr)) (fun i _=>N - (intOf i).toNat)
   (case atStart=>exact ⟨0,by omega,rfl,by rw [List.replicate_zero,List.append_nil];exact K0⟩);case round=>
    obtain ⟨k,hk,rfl,K⟩:=hrel;clear c0 q1 q2 q3 q4 q5 q6;by_cases hlt:k < N
    · (have hki:(k:Int) < (N:Int):=by omega);(go_wp2_with fail);refine (K.out.put1 4 [40] (by have:=HLN.out;have:=HNN.out;simp only [nH,List.length_replicate];omega) _ (by simp)).mono ?_;rintro e X ⟨rfl,h9⟩;have K2:=h_ (show LyS B gy m ln fl (L++List.replicate (k+1) (sgn [40] ln)) W1 X by rw [List.replicate_succ',← List.append_assoc];exact h9);clear h9;(go_wp2_with fail);exact ⟨⟨k+1,by omega,by go_num,K2⟩,by simp [intOf];omega⟩
    · (obtain rfl:k=N:=by omega);have c9:=K.out.keeps HC.out (by decide);have c0:=c9.cell (j:=0) (by simp);have c1:=c9.cell (j:=1) (by simp);have c2:=c9.cell (j:=2) (by simp);have c3:=c9.cell (j:=3) (by simp);have c4:=c9.cell (j:=4) (by simp);have c5:=c9.cell (j:=5) (by simp);simp only [nD,nE] at c0 c1 c2 c3 c4 c5;clear c9;have HO2:=h_ (XT.Og.keep (Q:=P) (fun g _ ht=>K.out.frG g _ ht (by decide)) (fun _ q=>q) _ HO.out);(go_wp2_with fail);refine (HLX.out fl _ _ K.out.start HO2.out (by have:=HLN.out;have:=HNN.out;rw [HWT.out];simp only [nH,List.length_replicate];omega)).mono ?_;rintro e X ⟨rfl,fl2,L2,g9,l9,h9⟩;rw [HWT.out] at l9;have l8:=l9;rw [nH,List.length_replicate] at l8;have HL2:=h_ l8;have HKF:=h_ (fun Z=>HKE.out k fl2 L2 W1 Z HN.out);have K3:=h_ (K.out.next h9);have HG:=h_ (And.intro g9 l9);clear g9 l9 h9 l8 c0 c1 c2 c3 c4 c5;go_wp2_with fail
      go_loopw [6] (fun i wr=>∃ j:Nat,j≤k∧i = .int .i64 j∧Hid (LyS B gy m ln fl2 (L2++List.replicate j (sgn [41] ln)) W1 wr)) (fun i _=>k - (intOf i).toNat)
      (case atStart=>exact ⟨0,by omega,rfl,by rw [List.replicate_zero,List.append_nil];exact K3⟩);case round=>
       clear K K3;obtain ⟨j,hj,rfl,K⟩:=hrel;by_cases hlt2:j < k
       · (have hki:(j:Int) < (k:Int):=by omega);(go_wp2_with fail);refine (K.out.put1 4 [41] (by have:=HLN.out;have:=HNN.out;have:=HL2.out;simp only [nH,List.length_replicate];omega) _ (by simp)).mono ?_;rintro e X2 ⟨rfl,h9⟩;have K2:=h_ (show LyS B gy m ln fl2 (L2++List.replicate (j+1) (sgn [41] ln)) W1 X2 by rw [List.replicate_succ',← List.append_assoc];exact h9);clear h9;(go_wp2_with fail);exact ⟨⟨j+1,by omega,by go_num,K2⟩,by simp [intOf];omega⟩
       · (obtain rfl:j=k:=by omega);go_wp2_with fail
         go_end0
         exact HKF.out _ K.out HF.out.1 HF.out.2 HG.out.1 HG.out.2
 rw [if_neg (by omega)] at HPN;have HN:=h_ (show parN m _=m from HPN);clear HPN;have e6:(kd == 6)=false:=by simpa using h6
 have e7:(kd == 7)=false:=by simpa using h7
 have HNN:=h_ (show m≤m+1 by omega);go_wp2_with fail
 go_loopw [5] (fun i wr=>∃ k:Nat,k≤m∧i = .int .i64 k∧Hid (LyS B gy m ln fl (L++List.replicate k (sgn [40] ln)) W1 wr)) (fun i _=>m - (intOf i).toNat)
 case atStart=>exact ⟨0,by omega,rfl,by rw [List.replicate_zero,List.append_nil];exact K0⟩
 case round=>
  obtain ⟨k,hk,rfl,K⟩:=hrel;clear c0 q1 q2 q3 q4 q5 q6;by_cases hlt:k < m
  · (have hki:(k:Int) < (m:Int):=by omega);(go_wp2_with fail);refine (K.out.put1 4 [40] (by have:=HLN.out;have:=HNN.out;simp only [nH,List.length_replicate];omega) _ (by simp)).mono ?_;rintro e X ⟨rfl,h9⟩;have K2:=h_ (show LyS B gy m ln fl (L++List.replicate (k+1) (sgn [40] ln)) W1 X by rw [List.replicate_succ',← List.append_assoc];exact h9);clear h9;(go_wp2_with fail);exact ⟨⟨k+1,by omega,by go_num,K2⟩,by simp [intOf];omega⟩
  · (obtain rfl:m=k:=by omega);have c9:=K.out.keeps HC.out (by decide);have c0:=c9.cell (j:=0) (by simp);have c1:=c9.cell (j:=1) (by simp);have c2:=c9.cell (j:=2) (by simp);have c3:=c9.cell (j:=3) (by simp);have c4:=c9.cell (j:=4) (by simp);have c5:=c9.cell (j:=5) (by simp);simp only [nD,nE] at c0 c1 c2 c3 c4 c5;clear c9;have HO2:=h_ (XT.Og.keep (Q:=P) (fun g _ ht=>K.out.frG g _ ht (by decide)) (fun _ q=>q) _ HO.out);(go_wp2_with fail);refine (HLX.out fl _ _ K.out.start HO2.out (by have:=HLN.out;have:=HNN.out;rw [HWT.out];simp only [nH,List.length_replicate];omega)).mono ?_;rintro e X ⟨rfl,fl2,L2,g9,l9,h9⟩;rw [HWT.out] at l9;have l8:=l9;rw [nH,List.length_replicate] at l8;have HL2:=h_ l8;have HKF:=h_ (fun Z=>HKE.out m fl2 L2 W1 Z HN.out);have K3:=h_ (K.out.next h9);have HG:=h_ (And.intro g9 l9);clear g9 l9 h9 l8 c0 c1 c2 c3 c4 c5;go_wp2_with fail
    go_loopw [6] (fun i wr=>∃ j:Nat,j≤m∧i = .int .i64 j∧Hid (LyS B gy m ln fl2 (L2++List.replicate j (sgn [41] ln)) W1 wr)) (fun i _=>m - (intOf i).toNat)
    (case atStart=>exact ⟨0,by omega,rfl,by rw [List.replicate_zero,List.append_nil];exact K3⟩);case round=>
     clear K K3;obtain ⟨j,hj,rfl,K⟩:=hrel;by_cases hlt2:j < m
     · (have hki:(j:Int) < (m:Int):=by omega);(go_wp2_with fail);refine (K.out.put1 4 [41] (by have:=HLN.out;have:=HNN.out;have:=HL2.out;simp only [nH,List.length_replicate];omega) _ (by simp)).mono ?_;rintro e X2 ⟨rfl,h9⟩;have K2:=h_ (show LyS B gy m ln fl2 (L2++List.replicate (j+1) (sgn [41] ln)) W1 X2 by rw [List.replicate_succ',← List.append_assoc];exact h9);clear h9;(go_wp2_with fail);exact ⟨⟨j+1,by omega,by go_num,K2⟩,by simp [intOf];omega⟩
     · (obtain rfl:j=m:=by omega);go_wp2_with fail
       go_end0
       exact HKF.out _ K.out HF.out.1 HF.out.2 HG.out.1 HG.out.2
end
end Go.Proofs.Ytflhcdcifilfcaa

namespace Go.Proofs.Ytflhcdcifilfcaa
open Go.ChangeShapes Go.WideShapes Go.ChangeAt Go.Deep
open Go Go.RowKit

mutual
def Ex.rg:Ex→Prop
 | .mk _ nu _ _ _ ks=>nu < 10000000000000000000∧exsRg ks
def exsRg:List Ex→Prop
 | []=>True
 | x::l=>x.rg∧exsRg l
end
section
variable {B gy:Nat} {mo ln:Int} {fl:Bool} {L:List To} {W:World}
theorem lyr_off {ln2:Int} {fl1:Bool} {L1 T:List To} {q:Prop} {n:Nat} {W1 Z Y:World} (K:LyS B gy mo ln2 fl1 L1 W1 Z) (hf:FrT [84,77] W W1) (hb:Below B W W1) (hn:L1.length≤L.length+n) (hY:Z.setCell ⟨gy,3,none⟩ (.bool true)=Y):LyR B gy mo ln ln2 fl L q T n W (.returned (.tuple #[])) Y:=by
 subst hY;exact ⟨rfl,true,L1,Gd.off,hn,(K.setF true).from_ hf hb⟩
theorem lyr_end {ln2:Int} {fl1:Bool} {L1 T1 T:List To} {p q:Prop} {n:Nat} {W1 Z:World} (K:LyS B gy mo ln2 fl1 L1 W1 Z) (hf:FrT [84,77] W W1) (hb:Below B W W1) (hg:Gd fl fl1 L L1 p T1) (hn:L1.length≤L.length+n)
 (hq:p→q∧T1=T):LyR B gy mo ln ln2 fl L q T n W (.returned (.tuple #[])) Z:=
 ⟨rfl,fl1,L1,hg.as (fun h=>(hq h).1) (fun h=>(hq h).2),hn,K.from_ hf hb⟩
theorem lyr_off2 {ln2:Int} {L1 T:List To} {q:Prop} {n:Nat} {W1 Z:World} (K:LyS B gy mo ln2 true L1 W1 Z) (hf:FrT [84,77] W W1) (hb:Below B W W1) (hn:L1.length≤L.length+n):LyR B gy mo ln ln2 fl L q T n W (.returned (.tuple #[])) Z:=
 ⟨rfl,true,L1,Gd.off,hn,K.from_ hf hb⟩
theorem Gd.bit {fl2 fl3:Bool} {L2 T:List To} {p q:Prop} (h:Gd fl fl2 L L2 p T) (h2:fl3=false→fl2=false∧q):Gd fl fl3 L L2 (p∧q) T:=fun e=>by
 obtain ⟨h3,h4⟩:=h2 e;obtain ⟨h5,h6,h7⟩:=h h3;exact ⟨h5,⟨h6,h4⟩,h7⟩
theorem Gd.refl (fl:Bool) (L:List To):Gd fl fl L L True []:=fun e=>⟨e,trivial,by simp⟩
theorem eX_cells {Z:World} {g o:Nat} {ks:List XT} (h:LiesG eX B Z (some ⟨g,o,none⟩) ks) {i:Nat} (hi:i < ks.length) {a0 a1:Int} {a2 a3 a4:List UInt8} {A5:Option Addr} {a6:Nat} {ys:List XT} (hx:ks[i]=XT.mk a0 a1 a2 a3 a4 A5 a6 ys) :
 Z.cell? ⟨g,o+i*6,none⟩=some (.int .u8 a0)∧Z.cell? ⟨g,o+i*6+1,none⟩=some (.int .i64 a1)∧Z.cell? ⟨g,o+i*6+2,none⟩=some (.string (str a2))∧Z.cell? ⟨g,o+i*6+3,none⟩=some (.string (str a3))∧Z.cell? ⟨g,o+i*6+4,none⟩=some (.string (str a4))∧Z.cell? ⟨g,o+i*6+5,none⟩=some (.slice A5 ys.length a6)∧g < Z.heap.size:=by
 obtain ⟨g2,o2,e,hg,hcell⟩:=h.lies.at_ hi;cases e;have:=hcell;rw [hx] at this;exact ⟨this 0 _ rfl,this 1 _ rfl,this 2 _ rfl,this 3 _ rfl,this 4 _ rfl,this 5 _ rfl,hg⟩
end
end Go.Proofs.Ytflhcdcifilfcaa
