/-
  Merged for a claim: S4I, S4J, S4N, S6O, S5K.
-/
import Derived.Test.YtflhcdcifilfcaaHS4H
import Derived.Test.YtflhcdcifilfcaaHJ21
import Derived.Test.YtflhcdcifilfcaaHJ8
import Derived.Test.YtflhcdcifilfcaaHS1E
import Derived.Deep.QuietTactic
import Derived.BigGuard
namespace Go.Proofs.Ytflhcdcifilfcaa
open Go.ChangeShapes Go.WideShapes Go.ChangeAt Go.Deep
open Go Go.RowKit

def LyR (B gy:Nat) (mo _ln ln2:Int) (fl:Bool) (L:List To) (fine:Prop) (T:List To) (n:Nat) (W:World) (e:Ending) (W':World):Prop:=
 e = .returned (.tuple #[])∧∃ fl' L',Gd fl fl' L L' fine T∧L'.length≤L.length+n∧LyS B gy mo ln2 fl' L' W W'
theorem str_isE (s:List UInt8):(str s).toList.isEmpty=s.isEmpty:=by
 cases s<;>simp [str]
section
variable {B gy:Nat} {mo ln:Int} {fl:Bool} {L:List To} {W:World}
theorem LyS.box (h:LyS B gy mo ln fl L W W) {cs:List Value} {e:TypeId} {W1:World} (hW:W.alloc (.cells cs.toArray e)=W1):LyS B gy mo ln fl L W1 W1∧CAt W1 W.heap.size e cs∧FrT [84,77] W W1∧Below B W W1:=by
 subst hW;have hb:=below_lnew W (.cells cs.toArray e);exact ⟨(h.below hb).start,heap_alloc_new W _,.of_below hb,hb.mono (by have:=h.nb;have:=h.cells.2.2.2.2.2;omega)⟩
theorem LyS.keeps {W0 Z:World} (h:LyS B gy mo ln fl L W0 Z) {gb:Nat} {e:TypeId} {cs:List Value} (hc:CAt W0 gb e cs) (he:e ∉ [84,77]):CAt Z gb e cs:=(h.fr gb e ⟨_,_,hc⟩ he).trans hc
theorem LyS.from_ {W0 W1 Z:World} (h:LyS B gy mo ln fl L W1 Z) (hf:FrT [84,77] W0 W1) (hb:Below B W0 W1):LyS B gy mo ln fl L W0 Z:=h.elim fun v hv=>⟨v,hv.from_ hb hf⟩
theorem LyS.num {W0:World} (h:LyS B gy mo ln fl L W0 W) (n:Int) (hn:n < 10000000000000000000) (hl:L.length < 1000000):Calls Try.prog 51 #[.pointer (some ⟨gy,0,none⟩),.int .i64 n] W (fun e W'=>e = .returned (.tuple #[])∧∃ fl',Gd fl fl' L (L++[nuT n ln]) (0≤n) [nuT n ln]∧LyS B gy mo ln fl' (L++[nuT n ln]) W0 W'):=by
 refine (number_any h.start n hn hl).mono ?_;rintro e W' ⟨rfl,fl',hg,h2⟩;exact ⟨rfl,fl',hg,h.next h2⟩
theorem LyS.nam {W0:World} (h:LyS B gy mo ln fl L W0 W) (s:List UInt8) (hl:L.length < 1000000):Calls Try.prog 30 #[.pointer (some ⟨gy,0,none⟩),.string (str s)] W (fun e W'=>e = .returned (.tuple #[])∧∃ fl',Gd fl fl' L (L++[nmT s ln]) True [nmT s ln]∧LyS B gy mo ln fl' (L++[nmT s ln]) W0 W'):=by
 refine (lname_any h.start s hl).mono ?_;rintro e W' ⟨rfl,fl',hg,h2⟩;exact ⟨rfl,fl',hg,h.next h2⟩
theorem lyr_fail {ln2:Int} {fl1:Bool} {L1 T1 T:List To} {p q:Prop} {n:Nat} {W1 Z Y:World} (fl2:Bool) (K:LyS B gy mo ln2 fl1 L1 W1 Z) (hf:FrT [84,77] W W1) (hb:Below B W W1) (hg:Gd fl fl1 L L1 p T1) (hn:L1.length≤L.length+n) (hY:Z.setCell ⟨gy,3,none⟩ (.bool fl2)=Y)
 (hq:fl2=false→fl1=false∧(p→q∧T1=T)):LyR B gy mo ln ln2 fl L q T n W (.returned (.tuple #[])) Y:=by
 subst hY;refine ⟨rfl,fl2,L1,fun e=>?_,hn,(K.setF fl2).from_ hf hb⟩;obtain ⟨h1,h2⟩:=hq e;obtain ⟨h3,h4,h5⟩:=hg h1;obtain ⟨h6,h7⟩:=h2 h4;exact ⟨h3,h6,by rw [h5,h7]⟩
set_option maxRecDepth 100000 in
set_option maxHeartbeats 4000000 in
theorem lkind_any (h:LyS B gy mo ln fl L W W) (t:Ty) (hn : -9223372036854775808≤t.n∧t.n≤9223372036854775807) (hl:L.length+4≤1000000) :
 Calls Try.prog 31 #[.pointer (some ⟨gy,0,none⟩),tyV t] W (LyR B gy mo ln ln fl L (FineT t) (tyL ln t) 4 W):=by
 obtain ⟨kd,n,nm⟩:=t;obtain ⟨hn1,hn2⟩:=hn;dsimp only at hn1 hn2;have HLN:=h_ hl;have HNB:=h_ (show n < 10000000000000000000 by omega);obtain ⟨k0,hc,hf,hb⟩:=h.box (cs:=tyS ⟨kd,n,nm⟩) (e:=45) rfl;obtain ⟨W1,hW1⟩:∃ W1,W.alloc (.cells (tyS ⟨kd,n,nm⟩).toArray 45)=W1:=⟨_,rfl⟩;have hs:=str_isE nm;obtain ⟨gb,hgb⟩:∃ gb,W.heap.size=gb:=⟨_,rfl⟩;rw [hW1] at k0 hc hf hb;rw [hgb] at hc;unfold tyV;unfold tyS at hW1 hc ⊢;have HF:=h_ (And.intro hf hb);have K0:=h_ k0;have HC:=h_ hc;obtain ⟨c,hcc⟩:∃ c,nm.isEmpty=c:=⟨_,rfl⟩;have HE:=h_ (show c=true→nm=[] from fun e=>List.isEmpty_iff.1 (hcc.trans e));rw [hcc] at hs;clear hcc;clear k0 h hf hb hl;go_enter Try.func31,Try.ntmps31;by_cases h1:kd=1
 · subst h1;by_cases hn0:n=0
   · subst hn0;have c9:=K0.out.keeps HC.out (by decide);have c0:=c9.cell (j:=0) (by simp);have c1:=c9.cell (j:=1) (by simp);have c2:=c9.cell (j:=2) (by simp);simp only [nD,nE] at c0 c1 c2;clear c9;(go_wp2_with fail);refine (K0.out.put1 3 [105,110,116] (by have:=HLN.out;(try simp only [nH,List.length_singleton]);omega) _ (by simp)).mono ?_;rintro e X2 ⟨rfl,h9⟩;have K1:=h_ h9;clear h9;obtain ⟨_,_,q3,_,q5,q6⟩:=K1.out.cells;cases fl with
     | true=>
      go_wp2_with fail
      go_end0
      exact lyr_fail true K1.out HF.out.1 HF.out.2 (Gd.put _ _ _) (by simp) rfl (fun e=>by cases e)
     | false=>
      go_wp2_with fail
      go_end0
      exact lyr_fail (!c) K1.out HF.out.1 HF.out.2 (Gd.put _ _ _) (by simp) rfl (fun e=>⟨rfl,fun hp=>⟨by have:=HE.out (by simpa using e);subst this;exact .int,rfl⟩⟩)
   · have c9:=K0.out.keeps HC.out (by decide);have c0:=c9.cell (j:=0) (by simp);have c1:=c9.cell (j:=1) (by simp);have c2:=c9.cell (j:=2) (by simp);simp only [nD,nE] at c0 c1 c2;clear c9;(go_wp2_with fail);refine (K0.out.put1 3 [105,110,116] (by have:=HLN.out;(try simp only [nH,List.length_singleton]);omega) _ (by simp)).mono ?_;rintro e X4 ⟨rfl,h9⟩;have K3:=h_ h9;clear h9;obtain ⟨_,_,q3,_,q5,q6⟩:=K3.out.cells;cases fl with
     | true=>
      go_wp2_with fail
      go_end0
      exact lyr_fail true K3.out HF.out.1 HF.out.2 (Gd.put _ _ _) (by simp) rfl (fun e=>by cases e)
     | false=>
      go_wp2_with fail
      go_end0
      exact lyr_fail true K3.out HF.out.1 HF.out.2 (Gd.put _ _ _) (by simp) rfl (fun e=>by cases e)
 by_cases h2:kd=2
 · subst h2;by_cases hn0:n=0
   · subst hn0;have c9:=K0.out.keeps HC.out (by decide);have c0:=c9.cell (j:=0) (by simp);have c1:=c9.cell (j:=1) (by simp);have c2:=c9.cell (j:=2) (by simp);simp only [nD,nE] at c0 c1 c2;clear c9;(go_wp2_with fail);refine (K0.out.put1 3 [98,111,111,108] (by have:=HLN.out;(try simp only [nH,List.length_singleton]);omega) _ (by simp)).mono ?_;rintro e X6 ⟨rfl,h9⟩;have K5:=h_ h9;clear h9;obtain ⟨_,_,q3,_,q5,q6⟩:=K5.out.cells;cases fl with
     | true=>
      go_wp2_with fail
      go_end0
      exact lyr_fail true K5.out HF.out.1 HF.out.2 (Gd.put _ _ _) (by simp) rfl (fun e=>by cases e)
     | false=>
      go_wp2_with fail
      go_end0
      exact lyr_fail (!c) K5.out HF.out.1 HF.out.2 (Gd.put _ _ _) (by simp) rfl (fun e=>⟨rfl,fun hp=>⟨by have:=HE.out (by simpa using e);subst this;exact .bool,rfl⟩⟩)
   · have c9:=K0.out.keeps HC.out (by decide);have c0:=c9.cell (j:=0) (by simp);have c1:=c9.cell (j:=1) (by simp);have c2:=c9.cell (j:=2) (by simp);simp only [nD,nE] at c0 c1 c2;clear c9;(go_wp2_with fail);refine (K0.out.put1 3 [98,111,111,108] (by have:=HLN.out;(try simp only [nH,List.length_singleton]);omega) _ (by simp)).mono ?_;rintro e X8 ⟨rfl,h9⟩;have K7:=h_ h9;clear h9;obtain ⟨_,_,q3,_,q5,q6⟩:=K7.out.cells;cases fl with
     | true=>
      go_wp2_with fail
      go_end0
      exact lyr_fail true K7.out HF.out.1 HF.out.2 (Gd.put _ _ _) (by simp) rfl (fun e=>by cases e)
     | false=>
      go_wp2_with fail
      go_end0
      exact lyr_fail true K7.out HF.out.1 HF.out.2 (Gd.put _ _ _) (by simp) rfl (fun e=>by cases e)
 by_cases h3:kd=3
 · subst h3;by_cases hn0:n=0
   · subst hn0;have c9:=K0.out.keeps HC.out (by decide);have c0:=c9.cell (j:=0) (by simp);have c1:=c9.cell (j:=1) (by simp);have c2:=c9.cell (j:=2) (by simp);simp only [nD,nE] at c0 c1 c2;clear c9;(go_wp2_with fail);refine (K0.out.put1 4 [91] (by have:=HLN.out;(try simp only [nH,List.length_singleton]);omega) _ (by simp)).mono ?_;rintro e X10 ⟨rfl,h9⟩;have K9:=h_ h9;clear h9;clear c0 c1 c2;have c9:=K9.out.keeps HC.out (by decide);have c0:=c9.cell (j:=0) (by simp);have c1:=c9.cell (j:=1) (by simp);have c2:=c9.cell (j:=2) (by simp);simp only [nD,nE] at c0 c1 c2;clear c9;(go_wp2_with fail);refine (K9.out.num 0 HNB.out (by have:=HLN.out;(try simp only [nH,List.length_singleton]);omega)).mono ?_;rintro e X9 ⟨rfl,fl2,g2,h9⟩;have K11:=h_ h9;have G2:=h_ g2;clear h9 g2;(go_wp2_with fail);refine (K11.out.put1 4 [93] (by have:=HLN.out;(try simp only [nH,List.length_singleton]);omega) _ (by simp)).mono ?_;rintro e X13 ⟨rfl,h9⟩;have K12:=h_ h9;clear h9;(go_wp2_with fail);refine (K12.out.put1 3 [105,110,116] (by have:=HLN.out;(try simp only [nH,List.length_singleton]);omega) _ (by simp)).mono ?_;rintro e X15 ⟨rfl,h9⟩;have K14:=h_ h9;clear h9;obtain ⟨_,_,q3,_,q5,q6⟩:=K14.out.cells;cases fl2 with
     | true=>
      go_wp2_with fail
      go_end0
      exact lyr_fail true K14.out HF.out.1 HF.out.2 (((Gd.put _ _ _).trans G2.out).trans ((Gd.put _ _ _).trans (Gd.put _ _ _))) (by simp) rfl (fun e=>by cases e)
     | false=>
      go_wp2_with fail
      go_end0
      exact lyr_fail (!c) K14.out HF.out.1 HF.out.2 (((Gd.put _ _ _).trans G2.out).trans ((Gd.put _ _ _).trans (Gd.put _ _ _))) (by simp) rfl (fun e=>⟨rfl,fun hp=>⟨by have:=HE.out (by simpa using e);subst this;exact .arr _ hp.1.2,rfl⟩⟩)
   · have c9:=K0.out.keeps HC.out (by decide);have c0:=c9.cell (j:=0) (by simp);have c1:=c9.cell (j:=1) (by simp);have c2:=c9.cell (j:=2) (by simp);simp only [nD,nE] at c0 c1 c2;clear c9;(go_wp2_with fail);refine (K0.out.put1 4 [91] (by have:=HLN.out;(try simp only [nH,List.length_singleton]);omega) _ (by simp)).mono ?_;rintro e X17 ⟨rfl,h9⟩;have K16:=h_ h9;clear h9;clear c0 c1 c2;have c9:=K16.out.keeps HC.out (by decide);have c0:=c9.cell (j:=0) (by simp);have c1:=c9.cell (j:=1) (by simp);have c2:=c9.cell (j:=2) (by simp);simp only [nD,nE] at c0 c1 c2;clear c9;(go_wp2_with fail);refine (K16.out.num n HNB.out (by have:=HLN.out;(try simp only [nH,List.length_singleton]);omega)).mono ?_;rintro e X9 ⟨rfl,fl2,g2,h9⟩;have K18:=h_ h9;have G2:=h_ g2;clear h9 g2;(go_wp2_with fail);refine (K18.out.put1 4 [93] (by have:=HLN.out;(try simp only [nH,List.length_singleton]);omega) _ (by simp)).mono ?_;rintro e X20 ⟨rfl,h9⟩;have K19:=h_ h9;clear h9;(go_wp2_with fail);refine (K19.out.put1 3 [105,110,116] (by have:=HLN.out;(try simp only [nH,List.length_singleton]);omega) _ (by simp)).mono ?_;rintro e X22 ⟨rfl,h9⟩;have K21:=h_ h9;clear h9;obtain ⟨_,_,q3,_,q5,q6⟩:=K21.out.cells;cases fl2 with
     | true=>
      go_wp2_with fail
      go_end0
      exact lyr_fail true K21.out HF.out.1 HF.out.2 (((Gd.put _ _ _).trans G2.out).trans ((Gd.put _ _ _).trans (Gd.put _ _ _))) (by simp) rfl (fun e=>by cases e)
     | false=>
      go_wp2_with fail
      go_end0
      exact lyr_fail (!c) K21.out HF.out.1 HF.out.2 (((Gd.put _ _ _).trans G2.out).trans ((Gd.put _ _ _).trans (Gd.put _ _ _))) (by simp) rfl (fun e=>⟨rfl,fun hp=>⟨by have:=HE.out (by simpa using e);subst this;exact .arr _ hp.1.2,rfl⟩⟩)
 by_cases h4:kd=4
 · subst h4;by_cases hn0:n=0
   · subst hn0;have c9:=K0.out.keeps HC.out (by decide);have c0:=c9.cell (j:=0) (by simp);have c1:=c9.cell (j:=1) (by simp);have c2:=c9.cell (j:=2) (by simp);simp only [nD,nE] at c0 c1 c2;clear c9;(go_wp2_with fail);refine (K0.out.nam nm (by have:=HLN.out;(try simp only [nH,List.length_singleton]);omega)).mono ?_;rintro e X9 ⟨rfl,fl2,g2,h9⟩;have K23:=h_ h9;have G2:=h_ g2;clear h9 g2;obtain ⟨_,_,q3,_,q5,q6⟩:=K23.out.cells;cases fl2 with
     | true=>
      go_wp2_with fail
      go_end0
      exact lyr_fail true K23.out HF.out.1 HF.out.2 (G2.out) (by simp) rfl (fun e=>by cases e)
     | false=>
      go_wp2_with fail
      go_end0
      exact lyr_fail false K23.out HF.out.1 HF.out.2 (G2.out) (by simp) rfl (fun e=>⟨rfl,fun hp=>⟨.name nm,rfl⟩⟩)
   · have c9:=K0.out.keeps HC.out (by decide);have c0:=c9.cell (j:=0) (by simp);have c1:=c9.cell (j:=1) (by simp);have c2:=c9.cell (j:=2) (by simp);simp only [nD,nE] at c0 c1 c2;clear c9;(go_wp2_with fail);refine (K0.out.nam nm (by have:=HLN.out;(try simp only [nH,List.length_singleton]);omega)).mono ?_;rintro e X9 ⟨rfl,fl2,g2,h9⟩;have K24:=h_ h9;have G2:=h_ g2;clear h9 g2;obtain ⟨_,_,q3,_,q5,q6⟩:=K24.out.cells;cases fl2 with
     | true=>
      go_wp2_with fail
      go_end0
      exact lyr_fail true K24.out HF.out.1 HF.out.2 (G2.out) (by simp) rfl (fun e=>by cases e)
     | false=>
      go_wp2_with fail
      go_end0
      exact lyr_fail (!n == 0) K24.out HF.out.1 HF.out.2 (G2.out) (by simp) rfl (fun e=>absurd (by simpa using e) hn0)
 by_cases hn0:n=0
 · subst hn0;have c9:=K0.out.keeps HC.out (by decide);have c0:=c9.cell (j:=0) (by simp);have c1:=c9.cell (j:=1) (by simp);have c2:=c9.cell (j:=2) (by simp);simp only [nD,nE] at c0 c1 c2;clear c9;obtain ⟨_,_,q3,_,q5,q6⟩:=K0.out.cells;cases fl with
   | true=>
    go_wp2_with fail
    go_end0
    exact lyr_fail true K0.out HF.out.1 HF.out.2 (Gd.as (T:=[]) (p:=True) (fun e=>⟨e,trivial,by simp⟩) id (fun _=>rfl)) (by simp) rfl (fun e=>by cases e)
   | false=>
    go_wp2_with fail
    go_end0
    exact lyr_fail true K0.out HF.out.1 HF.out.2 (Gd.as (T:=[]) (p:=True) (fun e=>⟨e,trivial,by simp⟩) id (fun _=>rfl)) (by simp) rfl (fun e=>by cases e)
 · have c9:=K0.out.keeps HC.out (by decide);have c0:=c9.cell (j:=0) (by simp);have c1:=c9.cell (j:=1) (by simp);have c2:=c9.cell (j:=2) (by simp);simp only [nD,nE] at c0 c1 c2;clear c9;obtain ⟨_,_,q3,_,q5,q6⟩:=K0.out.cells;cases fl with
   | true=>
    go_wp2_with fail
    go_end0
    exact lyr_fail true K0.out HF.out.1 HF.out.2 (Gd.as (T:=[]) (p:=True) (fun e=>⟨e,trivial,by simp⟩) id (fun _=>rfl)) (by simp) rfl (fun e=>by cases e)
   | false=>
    go_wp2_with fail
    go_end0
    exact lyr_fail true K0.out HF.out.1 HF.out.2 (Gd.as (T:=[]) (p:=True) (fun e=>⟨e,trivial,by simp⟩) id (fun _=>rfl)) (by simp) rfl (fun e=>by cases e)
end
end Go.Proofs.Ytflhcdcifilfcaa

namespace Go.Proofs.Ytflhcdcifilfcaa
open Go Go.RowKit

theorem lvK_bnd:∀ k:Nat,k < 5→∀ s∈lvK k,bnd s≠0:=by decide
set_option maxRecDepth 100000 in
set_option maxHeartbeats 1000000 in
theorem level_any (op:List UInt8) (w:World):Calls Try.prog 83 #[.string (str op)] w (fun e w'=>∃ r:Int,e = .returned (.int .i64 r)∧(0≤r→bnd op≠0)∧Below w.heap.size w w'):=by
 have HL:=h_ (levels_any w);go_enter Try.func83,Try.ntmps83;go_wp2_with fail
 refine HL.out.mono ?_;rintro e X ⟨g,rfl,hb,hL⟩;have HV:=h_ hL;have HB:=h_ hb;clear hL hb HL;go_wp2_with fail
 go_loopw [4,5] (fun i _ wr=>∃ k:Nat,k≤5∧i = .int .i64 k∧Hid (∃ m,wr=X.drewN m)) (fun i _ _=>5 - (intOf i).toNat)
 case atStart=>exact ⟨0,by omega,rfl,h_ ⟨0,rfl⟩⟩
 case round=>
  obtain ⟨k,hk,rfl,hm⟩:=hrel;obtain ⟨m,hwm⟩:=hm.out;have HWM:=h_ hwm;clear hm;by_cases h5:k < 5
  · obtain ⟨b,q0x,hC⟩:=HV.out k h5;(have q0:wr.cell? ⟨g,k,none⟩=some (.slice (some ⟨b,0,none⟩) (lvK k).length (lvK k).length):=by rw [hwm];exact q0x);have KC:=h_ (show CAt X b 9 ((lvK k).map fun s=> .string (str s)) from hC);have hlen:=(lvK_len k).1;have HM:=h_ (lvK_bnd k h5);clear hC hwm;generalize lvK k=ss at *;(have hki:(k:Int) < 5:=by omega);go_wp2_with fail
    go_loopw [5] (fun i wr2=>∃ j:Nat,j≤ss.length∧i = .int .i64 j∧Hid (∃ m,wr2=X.drewN m)) (fun i _=>ss.length - (intOf i).toNat)
    (case atStart=>exact ⟨0,by omega,rfl,h_ ⟨m,HWM.out⟩⟩);case round=>
     obtain ⟨j,hj,rfl,hm2⟩:=hrel;obtain ⟨m2,hwm2⟩:=hm2.out;have HWM2:=h_ hwm2;clear hm2;(have q1:wr.cell? ⟨g,k,none⟩=some (.slice (some ⟨b,0,none⟩) ss.length ss.length):=by rw [hwm2];exact q0x);clear hwm2;by_cases hlt:j < ss.length
     · have d0:wr.cell? ⟨b,j,none⟩=some (.string (str ss[j])):=by
        rw [HWM2.out];have:=KC.out.cell (j:=j) (by rw [List.length_map];exact hlt);rw [show (X.drewN m2).cell? ⟨b,j,none⟩=X.cell? ⟨b,j,none⟩ from rfl,this,List.getElem_map]
       have HS:=h_ (List.getElem_mem hlt);generalize ss[j]=sx at *;(have hji:(j:Int) < (ss.length:Int):=by omega);by_cases hq:sx=op
       · subst hq;(go_wp2_with fail);go_ret;exact ⟨k,rfl,fun _=>HM.out _ HS.out,by rw [HWM2.out];exact HB.out.trans (below_draws m2)⟩
       · (have hq2:((str sx).toList == (str op).toList)=false:=by rw [str_toList,str_toList];simpa using hq);(go_wp2_with fail);exact ⟨⟨j+1,by omega,by go_num,h_ ⟨m2,HWM2.out⟩⟩,by simp [intOf];omega⟩
     · (obtain rfl:j=ss.length:=by omega);(go_wp2_with fail);exact ⟨⟨k+1,by omega,by go_num,h_ ⟨m2,HWM2.out⟩⟩,by simp [intOf];omega⟩
  · (obtain rfl:k=5:=by omega);clear hwm;(go_wp2_with fail);go_ret;exact ⟨-1,rfl,fun q=>absurd q (by decide),by rw [HWM.out];exact HB.out.trans (below_draws m)⟩
end Go.Proofs.Ytflhcdcifilfcaa

namespace Go.Proofs.Ytflhcdcifilfcaa
open Go Go.RowKit

def HasG (B:Nat) (w:World) (g:Nat) (e:TypeId):Prop:=HasT w g e∨(g < B∧g < w.heap.size)
theorem HasG.lt {B:Nat} {w:World} {g:Nat} {e:TypeId} (h:HasG B w g e):g < w.heap.size:=h.elim HasT.lt fun q=>q.2
theorem HasG.same {B:Nat} {w w':World} {g:Nat} {e:TypeId} (h:HasG B w g e) (hk:w'.heap[g]? = w.heap[g]?):HasG B w' g e:=by
 rcases h with h | h
 · exact .inl (h.same hk)
 · refine .inr ⟨h.1,?_⟩;(have:(w.heap[g]?).isSome:=by simp [h.2]);rw [← hk] at this;by_cases hl:g < w'.heap.size
   · exact hl
   · rw [Array.getElem?_eq_none (by omega)] at this;cases this
def LiesG {α:Type} (K:El α) (B:Nat) (w:World) (A:Option Addr) (xs:List α):Prop:=
 0 < xs.length→∃ g o,A=some ⟨g,o,none⟩∧HasG B w g K.e∧∀ j (hj:j < xs.length) f u,(K.f xs[j])[f]? = some u→w.cell? ⟨g,o+(j*K.sz+f),none⟩=some u
theorem LiesG.lies {α:Type} {K:El α} {B:Nat} {w:World} {A:Option Addr} {xs:List α} (h:LiesG K B w A xs):K.Lies w w.heap.size A xs:=fun hl=>by
 obtain ⟨g,o,e,hg,hc⟩:=h hl;exact ⟨g,o,e,hg.lt,hc⟩
theorem LiesG.of {α:Type} {K:El α} {B:Nat} {w:World} {A:Option Addr} {xs:List α} (h:K.LiesT w A xs):LiesG K B w A xs:=fun hl=>by
 obtain ⟨g,o,e,hg,hc⟩:=h hl;exact ⟨g,o,e,.inl hg,hc⟩
def RowG {α:Type} (B:Nat) (K:El α) (w:World) (P:Nat→Prop) (A:Option Addr) (c:Nat) (xs:List α):Prop:=
 LiesG K B w A xs∧xs.length≤c∧(A=none→c=0)∧(0 < xs.length→∀ a,A=some a→P a.block)
mutual
def XT.Og (B:Nat) (w:World) (P:Nat→Prop):XT→Prop
 | .mk _ _ _ _ _ A c ks=>RowG B eX w P A c ks∧xsOg B w P ks
def xsOg (B:Nat) (w:World) (P:Nat→Prop):List XT→Prop
 | []=>True
 | x::l=>x.Og B w P∧xsOg B w P l
end
mutual
def XS.Og (B:Nat) (w:World) (P:Nat→Prop):XS→Prop
 | .mk _ _ _ _ _ _ kA kc ks bA bc bd eA ec el=>(RowG B eX w P kA kc ks∧RowG B eSt w P bA bc bd∧RowG B eSt w P eA ec el)∧xsOg B w P ks∧xssOg B w P bd∧xssOg B w P el
def xssOg (B:Nat) (w:World) (P:Nat→Prop):List XS→Prop
 | []=>True
 | x::l=>x.Og B w P∧xssOg B w P l
end
section
variable {B:Nat} {w w':World} {P Q:Nat→Prop}
theorem liesG_keep {α:Type} {K:El α} {A:Option Addr} {xs:List α} (h:LiesG K B w A xs) (hp:0 < xs.length→∀ a,A=some a→P a.block) (hk:∀ g,P g→HasG B w g K.e→w'.heap[g]? = w.heap[g]?):LiesG K B w' A xs:=fun hl=>by
 obtain ⟨g,o,e,hg,hc⟩:=h hl;have hb:=hk g (hp hl _ e) hg;exact ⟨g,o,e,hg.same hb,fun j hj f u hu=>(World.cell?_of_block hb).trans (hc j hj f u hu)⟩
theorem RowG.keep {α:Type} {K:El α} {A:Option Addr} {c:Nat} {xs:List α} (h:RowG B K w P A c xs) (hk:∀ g,P g→HasG B w g K.e→w'.heap[g]? = w.heap[g]?) (hm:∀ g,P g→Q g):RowG B K w' Q A c xs:=
 ⟨liesG_keep h.1 h.2.2.2 hk,h.2.1,h.2.2.1,fun hl a e=>hm _ (h.2.2.2 hl a e)⟩
theorem RowG.low {α:Type} {K:El α} {A:Option Addr} {c:Nat} {xs:List α} (h:RowG B K w P A c xs):RowG B K w (fun g=>P g∧g < w.heap.size) A c xs:=
 ⟨h.1,h.2.1,h.2.2.1,fun hl a e=>⟨h.2.2.2 hl a e,by
  obtain ⟨g,o,e2,hg,_⟩:=h.1 hl;rw [e] at e2;injection e2 with e2;subst e2
  exact hg.lt⟩⟩
theorem RowG.of {α:Type} {K:El α} {A:Option Addr} {c:Nat} {xs:List α} (h:RowP K w P A c xs):RowG B K w P A c xs:=⟨.of h.1,h.2⟩
mutual
theorem XT.Og.keep (hk:∀ g,P g→HasG B w g 53→w'.heap[g]? = w.heap[g]?) (hm:∀ g,P g→Q g):∀ (t:XT),t.Og B w P→t.Og B w' Q
 | .mk _ _ _ _ _ _ _ ks,h=>by
  rw [XT.Og] at h ⊢;exact ⟨h.1.keep hk hm,xsOg.keep hk hm ks h.2⟩
theorem xsOg.keep (hk:∀ g,P g→HasG B w g 53→w'.heap[g]? = w.heap[g]?) (hm:∀ g,P g→Q g):∀ (l:List XT),xsOg B w P l→xsOg B w' Q l
 | [],_=>by rw [xsOg];trivial
 | x::l,h=>by
  rw [xsOg] at h ⊢;exact ⟨XT.Og.keep hk hm x h.1,xsOg.keep hk hm l h.2⟩
end
mutual
theorem XT.Og.low:∀ (t:XT),t.Og B w P→t.Og B w (fun g=>P g∧g < w.heap.size)
 | .mk _ _ _ _ _ _ _ ks,h=>by
  rw [XT.Og] at h ⊢;exact ⟨h.1.low,xsOg.low ks h.2⟩
theorem xsOg.low:∀ (l:List XT),xsOg B w P l→xsOg B w (fun g=>P g∧g < w.heap.size) l
 | [],_=>by rw [xsOg];trivial
 | x::l,h=>by
  rw [xsOg] at h ⊢;exact ⟨XT.Og.low x h.1,xsOg.low l h.2⟩
end
theorem xsOg_all {l:List XT} (h:xsOg B w P l):∀ x∈l,x.Og B w P:=by
 induction l with
 | nil=>intro x hx;cases hx
 | cons y l ih=>
  rw [xsOg] at h;intro x hx;rcases List.mem_cons.1 hx with rfl | hx
  · exact h.1
  · exact ih h.2 x hx
theorem xsOg.of {l:List XT} (h:∀ x∈l,x.Og B w P):xsOg B w P l:=by
 induction l with
 | nil=>rw [xsOg];trivial
 | cons y l ih=>
  rw [xsOg];exact ⟨h y (by simp),ih fun x hx=>h x (List.mem_cons_of_mem _ hx)⟩
mutual
theorem XS.Og.keep (h1:∀ g,P g→HasG B w g 53→w'.heap[g]? = w.heap[g]?) (h2:∀ g,P g→HasG B w g 51→w'.heap[g]? = w.heap[g]?) (hm:∀ g,P g→Q g):∀ (t:XS),t.Og B w P→t.Og B w' Q
 | .mk _ _ _ _ _ _ _ _ ks _ _ bd _ _ el,h=>by
  rw [XS.Og] at h ⊢;exact ⟨⟨h.1.1.keep h1 hm,h.1.2.1.keep h2 hm,h.1.2.2.keep h2 hm⟩,xsOg.keep h1 hm ks h.2.1,xssOg.keep h1 h2 hm bd h.2.2.1,xssOg.keep h1 h2 hm el h.2.2.2⟩
theorem xssOg.keep (h1:∀ g,P g→HasG B w g 53→w'.heap[g]? = w.heap[g]?) (h2:∀ g,P g→HasG B w g 51→w'.heap[g]? = w.heap[g]?) (hm:∀ g,P g→Q g):∀ (l:List XS),xssOg B w P l→xssOg B w' Q l
 | [],_=>by rw [xssOg];trivial
 | x::l,h=>by
  rw [xssOg] at h ⊢;exact ⟨XS.Og.keep h1 h2 hm x h.1,xssOg.keep h1 h2 hm l h.2⟩
end
mutual
theorem XS.Og.low:∀ (t:XS),t.Og B w P→t.Og B w (fun g=>P g∧g < w.heap.size)
 | .mk _ _ _ _ _ _ _ _ ks _ _ bd _ _ el,h=>by
  rw [XS.Og] at h ⊢;exact ⟨⟨h.1.1.low,h.1.2.1.low,h.1.2.2.low⟩,xsOg.low ks h.2.1,xssOg.low bd h.2.2.1,xssOg.low el h.2.2.2⟩
theorem xssOg.low:∀ (l:List XS),xssOg B w P l→xssOg B w (fun g=>P g∧g < w.heap.size) l
 | [],_=>by rw [xssOg];trivial
 | x::l,h=>by
  rw [xssOg] at h ⊢;exact ⟨XS.Og.low x h.1,xssOg.low l h.2⟩
end
theorem XS.Og.below {t:XS} (h:t.Og B w P) (hb:Below w.heap.size w w'):t.Og B w' P:=XS.Og.keep (fun g _ hg=>hb.block g hg.lt) (fun g _ hg=>hb.block g hg.lt) (fun _ h=>h) t h
theorem XS.Og.up {t:XS} (h:t.Og B w P) (hm:∀ g,P g→Q g):t.Og B w Q:=XS.Og.keep (fun _ _ _=>rfl) (fun _ _ _=>rfl) hm t h
theorem xssOg_all {l:List XS} (h:xssOg B w P l):∀ x∈l,x.Og B w P:=by
 induction l with
 | nil=>intro x hx;cases hx
 | cons y l ih=>
  rw [xssOg] at h;intro x hx;rcases List.mem_cons.1 hx with rfl | hx
  · exact h.1
  · exact ih h.2 x hx
theorem xssOg.of {l:List XS} (h:∀ x∈l,x.Og B w P):xssOg B w P l:=by
 induction l with
 | nil=>rw [xssOg];trivial
 | cons y l ih=>
  rw [xssOg];exact ⟨h y (by simp),ih fun x hx=>h x (List.mem_cons_of_mem _ hx)⟩
theorem xssOg.append {xs ys:List XS} (h:xssOg B w P xs) (h2:xssOg B w P ys):xssOg B w P (xs++ys):=
 xssOg.of fun x hx=>(List.mem_append.1 hx).elim (fun q=>xssOg_all h x q) (fun q=>xssOg_all h2 x q)
end
def FrG (B:Nat) (W Z:World):Prop:=∀ g e,HasG B W g e→e ∉ [84,77]→Z.heap[g]? = W.heap[g]?
theorem LyS.frG {B gy:Nat} {mo ln:Int} {fl:Bool} {L:List To} {W0 W:World} (h:LyS B gy mo ln fl L W0 W):FrG B W0 W:=fun g e hg he=>hg.elim (fun q=>h.fr g e q he) (fun q=>h.bl.block g q.1)
end Go.Proofs.Ytflhcdcifilfcaa

namespace Go.Proofs.Ytflhcdcifilfcaa
open Go.ChangeShapes Go.WideShapes Go.ChangeAt Go.Deep
open Go Go.RowKit

def ScM.Og (B:Nat) (w:World) (P:Nat→Prop) (s:ScM):Prop:=RowG B eSr w P s.A s.c s.fs
def DcM.Og (B:Nat) (w:World) (P:Nat→Prop) (d:DcM):Prop:=RowG B ePm w P d.pA d.pc d.ps∧RowG B eSt w P d.bA d.bc d.bd∧xssOg B w P d.bd
def PgM.Og (B:Nat) (w:World) (P:Nat→Prop) (p:PgM):Prop:=RowG B eSc w P p.A1 p.c1 p.ss∧RowG B eDc w P p.A2 p.c2 p.fs∧(∀ s∈p.ss,s.Og B w P)∧∀ d∈p.fs,d.Og B w P
section
variable {B:Nat} {W Z:World} {P Q:Nat→Prop}
theorem ScM.Og.keep {s:ScM} (h:s.Og B W P) (hf:∀ g,P g→HasG B W g 9→Z.heap[g]? = W.heap[g]?) (hm:∀ g,P g→Q g):s.Og B Z Q:=RowG.keep h hf hm
theorem DcM.Og.keep {d:DcM} (h:d.Og B W P) (h0:∀ g,P g→HasG B W g 75→Z.heap[g]? = W.heap[g]?) (h1:∀ g,P g→HasG B W g 53→Z.heap[g]? = W.heap[g]?) (h2:∀ g,P g→HasG B W g 51→Z.heap[g]? = W.heap[g]?) (hm:∀ g,P g→Q g):d.Og B Z Q:=
 ⟨h.1.keep h0 hm,h.2.1.keep h2 hm,xssOg.keep h1 h2 hm _ h.2.2⟩
theorem PgM.Og.keep {p:PgM} (h:p.Og B W P) (hk:∀ g e,P g→HasG B W g e→Z.heap[g]? = W.heap[g]?) (hm:∀ g,P g→Q g):p.Og B Z Q:=
 ⟨h.1.keep (fun g q ht=>hk g _ q ht) hm,h.2.1.keep (fun g q ht=>hk g _ q ht) hm,fun s hs=>(h.2.2.1 s hs).keep (fun g q ht=>hk g _ q ht) hm,fun d hd=>(h.2.2.2 d hd).keep (fun g q ht=>hk g _ q ht) (fun g q ht=>hk g _ q ht) (fun g q ht=>hk g _ q ht) hm⟩
mutual
theorem XT.Og.of (B:Nat):∀ (t:XT),t.Ok W P→t.Og B W P
 | .mk _ _ _ _ _ _ _ ks,h=>by
  rw [XT.Ok] at h;rw [XT.Og];exact ⟨.of h.1,xsOg.ofOk B ks h.2⟩
theorem xsOg.ofOk (B:Nat):∀ (l:List XT),xsOk W P l→xsOg B W P l
 | [],_=>by rw [xsOg];trivial
 | x::l,h=>by
  rw [xsOk] at h;rw [xsOg];exact ⟨XT.Og.of B x h.1,xsOg.ofOk B l h.2⟩
end
mutual
theorem XS.Og.of (B:Nat):∀ (t:XS),t.Ok W P→t.Og B W P
 | .mk _ _ _ _ _ _ _ _ ks _ _ bd _ _ el,h=>by
  rw [XS.Ok] at h;rw [XS.Og];exact ⟨⟨.of h.1.1,.of h.1.2.1,.of h.1.2.2⟩,xsOg.ofOk B ks h.2.1,xssOg.ofOk B bd h.2.2.1,xssOg.ofOk B el h.2.2.2⟩
theorem xssOg.ofOk (B:Nat):∀ (l:List XS),xssOk W P l→xssOg B W P l
 | [],_=>by rw [xssOg];trivial
 | x::l,h=>by
  rw [xssOk] at h;rw [xssOg];exact ⟨XS.Og.of B x h.1,xssOg.ofOk B l h.2⟩
end
theorem PgM.Og.of (B:Nat) {p:PgM} (h:p.Ok W P):p.Og B W P:=⟨.of h.1,.of h.2.1,fun s hs=>RowG.of (h.2.2.1 s hs),fun d hd=>⟨.of (h.2.2.2 d hd).1,.of (h.2.2.2 d hd).2.1,xssOg.ofOk B _ (h.2.2.2 d hd).2.2⟩⟩
end
end Go.Proofs.Ytflhcdcifilfcaa

namespace Go.Proofs.Ytflhcdcifilfcaa
open Go.ChangeShapes Go.WideShapes Go.ChangeAt Go.Deep
open Go Go.RowKit

structure FitC (kd:Int) (kn bn en:Nat) (nm fl cl:List UInt8) (ty:Ty):Prop where
 lo:1≤kd
 hi:kd≤10
 k2:kd=3→kn=2
 k0:kd=9→kn=0
 k1:kd=1∨kd=10→kn≤1
 kk:kd≠3→kd≠9→kd≠1→kd≠10→kd≠5→kn=1
 b:kd≠6→kd≠7→bn=0
 e:kd≠6→en=0
 n:6≤kd→kd≠9→nm=[]
 f:kd≠4→fl=[]
 c:kd≠5→cl=[]
 t:kd≠1→ty=ty0
def fitV (kd ln:Int) (nm fl cl:List UInt8) (tk tn:Int) (tm:List UInt8) (kA bA eA:Option Addr) (kn kc bn bc en ec:Nat):List Value:=[.int .u8 kd,.int .i64 ln,.string (str nm),.string (str fl),.string (str cl),.int .u8 tk,.int .i64 tn,.string (str tm),.slice kA kn kc,.slice bA bn bc,.slice eA en ec]
def FitR (kd:Int) (kn bn en:Nat) (nm fl cl:List UInt8) (ty:Ty) (w:World) (e:Ending) (w':World):Prop:=∃ b,e = .returned (.bool b)∧(b=true→FitC kd kn bn en nm fl cl ty)∧Below w.heap.size w w'
end Go.Proofs.Ytflhcdcifilfcaa
