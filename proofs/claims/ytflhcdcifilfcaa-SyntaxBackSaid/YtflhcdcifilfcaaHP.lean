/-
  Merged for a claim: S5I, S5J, S5P, S5N.
-/
import Derived.Test.YtflhcdcifilfcaaHA1
import Derived.Test.YtflhcdcifilfcaaHA2
import Derived.Test.YtflhcdcifilfcaaHA3
import Derived.Test.YtflhcdcifilfcaaHA4
import Derived.Test.YtflhcdcifilfcaaHL2
import Derived.Test.YtflhcdcifilfcaaHL1
import Derived.Test.YtflhcdcifilfcaaHF1
import Derived.Test.YtflhcdcifilfcaaHF2
import Derived.Test.YtflhcdcifilfcaaHF3
import Derived.Test.YtflhcdcifilfcaaHF4
namespace Go.Proofs.Ytflhcdcifilfcaa
open Go Go.RowKit
theorem lexp_any (B gy:Nat) (ln:Int) {m:Nat} (hm:m≤1000000) (P:Nat→Prop):∀ (t:XT),t.d.rg→LayX B gy m ln P t
 | .mk kd nu nm fe op Ak ck ks,hr=>by
  have hI:∀ t∈ks,t.d.rg→LayX B gy m ln P t:=fun t ht hr=>
   have:SizeOf.sizeOf t < SizeOf.sizeOf (XT.mk kd nu nm fe op Ak ck ks):=by have:=List.sizeOf_lt_of_mem ht;simp;omega
   lexp_any B gy ln hm P t hr
  by_cases hk1:kd=1
  · exact lexp_1 B gy ln hm P kd nu nm fe op Ak ck ks hI hk1 hr
  by_cases hk2:kd=2
  · exact lexp_2 B gy ln hm P kd nu nm fe op Ak ck ks hI hk2 hr
  by_cases hk3:kd=3
  · exact lexp_3 B gy ln hm P kd nu nm fe op Ak ck ks hI hk3 hr
  by_cases hk4:kd=4
  · exact lexp_4 B gy ln hm P kd nu nm fe op Ak ck ks hI hk4 hr
  by_cases hk5:kd=5
  · exact lexp_5 B gy ln hm P kd nu nm fe op Ak ck ks hI hk5 hr
  by_cases hk6:kd=6
  · exact lexp_6 B gy ln hm P kd nu nm fe op Ak ck ks hI hk6 hr
  by_cases hk7:kd=7
  · exact lexp_7 B gy ln hm P kd nu nm fe op Ak ck ks hI hk7 hr
  exact lexp_8 B gy ln hm P kd nu nm fe op Ak ck ks hI hk1 hk2 hk3 hk4 hk5 hk6 hk7 hr
termination_by t=>SizeOf.sizeOf t
end Go.Proofs.Ytflhcdcifilfcaa

namespace Go.Proofs.Ytflhcdcifilfcaa
open Go.ChangeShapes Go.WideShapes Go.ChangeAt Go.Deep
open Go Go.RowKit

theorem comL_snoc (m:Nat) (ln:Int) (x:Ex):∀ l:List Ex,comL m ln (l++[x])=comL m ln l++((if l=[] then [] else [sgn [44] ln])++x.kl m ln)
 | []=>by simp [comL]
 | [y]=>by simp [comL]
 | y::z::l=>by
  have h:=comL_snoc m ln x (z::l);rw [if_neg (by simp)] at h ⊢;rw [nI,nI,comL,← nI,h,comL];simp
theorem exsWt_app (m:Nat):∀ a b:List Ex,exsWt m (a++b)=exsWt m a+exsWt m b
 | [],b=>by rw [nJ,exsWt];omega
 | x::a,b=>by rw [nI,exsWt,exsWt,exsWt_app m a b];omega
theorem exsWt_take (m:Nat) (ks:List XT) (j:Nat):exsWt m (xsd (ks.take j))≤exsWt m (xsd ks):=by
 have h:xsd ks=xsd (ks.take j)++xsd (ks.drop j):=by rw [xsd_map,xsd_map,xsd_map,← List.map_append,List.take_append_drop]
 rw [h,exsWt_app];omega
section
variable {B gy:Nat} {ln:Int} {fl:Bool} {L:List To} {W:World}
set_option maxRecDepth 100000 in
set_option maxHeartbeats 4000000 in
theorem largs_any {m:Nat} (hm:m≤1000000) {P:Nat→Prop} {A:Option Addr} {c:Nat} {ks:List XT} (hI:∀ t∈ks,LayX B gy m ln P t) (h:LyS B gy m ln fl L W W) (hr:RowG B eX W P A c ks) (ho:xsOg B W P ks) (hl:L.length+exsWt m (xsd ks)+ks.length+2≤1000000) :
 Calls Try.prog 69 #[.pointer (some ⟨gy,0,none⟩),.slice A ks.length c] W (LyR B gy m ln ln fl L (∀ x∈xsd ks,Fine x) (arL m ln (xsd ks)) (exsWt m (xsd ks)+ks.length+2) W):=by
 have HIH:=h_ hI;have HRW:=h_ hr;have HOK:=h_ ho;have HLN:=h_ hl;have K0:=h_ h;have hkn:ks.length≤1000000:=by omega
 obtain ⟨R,hR⟩:∃ R,LyR B gy m ln ln fl L (∀ x∈xsd ks,Fine x) (arL m ln (xsd ks)) (exsWt m (xsd ks)+ks.length+2) W=R:=⟨_,rfl⟩;rw [hR];have HRR:=h_ hR;clear hI hr ho hl h hR;go_enter Try.func69,Try.ntmps69;go_wp2_with fail
 refine (K0.out.put1 4 [40] (by have:=HLN.out;omega) _ (by simp)).mono ?_;rintro e X ⟨rfl,h9⟩;have K1:=h_ h9;clear h9;go_wp2_with fail
 go_loopw [4] (fun i wr=>∃ k:Nat,k≤ks.length∧i = .int .i64 k∧Hid (∃ fl2 L2,Gd fl fl2 L L2 (∀ x∈xsd (ks.take k),Fine x) (sgn [40] ln::comL m ln (xsd (ks.take k)))∧L2.length≤L.length+1+exsWt m (xsd (ks.take k))+k∧LyS B gy m ln fl2 L2 W wr)) (fun i _=>ks.length - (intOf i).toNat)
 case atStart=>exact ⟨0,by omega,rfl,h_ ⟨fl,_,(Gd.put fl L [sgn [40] ln]).as (fun _ x hx=>absurd hx (by simp [xsd])) (fun _=>by rw [List.take_zero,xsd,comL]),by rw [nH,List.length_singleton];omega,K1.out⟩⟩
 case round=>
  clear K1;obtain ⟨k,hk,rfl,hK⟩:=hrel;obtain ⟨fl2,L2,g9,l9,k9⟩:=hK.out;have K:=h_ k9;have G:=h_ g9;have HL:=h_ l9;clear hK g9 l9 k9;by_cases hlt:k < ks.length
  · (have hki:(k:Int) < (ks.length:Int):=by omega);have HM:ks[k]∈ks:=List.getElem_mem hlt;have HXT:=h_ (show xsd (ks.take (k+1))=xsd (ks.take k)++[ks[k].d] by rw [List.take_succ_eq_append_getElem hlt,xsd_snoc])
    have HW:=h_ (show exsWt m (xsd (ks.take k))+(ks[k].d.wt m+2*(m+1))≤exsWt m (xsd ks) by
     have:=exsWt_take m ks (k+1);rw [HXT.out,exsWt_app,exsWt,exsWt] at this
     omega)
    have HX:=h_ (HIH.out _ HM);have HO:=h_ (xsOg_all HOK.out _ HM)
    have HKK:=h_ (show (xsd (ks.take k)=[])↔k=0 by
     rw [xsd_map,List.map_eq_nil_iff,List.take_eq_nil_iff];constructor
     · rintro (q | q)
       · exact q
       · rw [q] at hlt;exact absurd hlt (by simp)
     · exact .inl)
    have hAt:=HRW.out.1.lies.at_ hlt;obtain ⟨g,o,rfl⟩:∃ g o,A=some ⟨g,o,none⟩:=by
     obtain ⟨g,o,e,_⟩:=hAt;exact ⟨g,o,e⟩
    clear hAt;obtain ⟨a0,a1,a2,a3,a4,A5,a6,ys,hx⟩:∃ a0 a1 a2 a3 a4 A5 a6 ys,ks[k]=XT.mk a0 a1 a2 a3 a4 A5 a6 ys:=by
     cases ks[k];exact ⟨_,_,_,_,_,_,_,_,rfl⟩
    have HCC:=h_ (fun (Z:World) (hf:FrG B W Z)=>eX_cells (liesG_keep HRW.out.1 HRW.out.2.2.2 (fun g _ ht=>hf g _ ht (by decide))) hlt hx);clear HM;generalize ks[k]=t at *;obtain ⟨dx,hdx⟩:∃ dx,t.d=dx:=⟨_,rfl⟩;by_cases hk0:k=0
    · subst hk0;(have hk1:¬ (0:Int) < ((0:Nat):Int):=by omega);have hko:=XT.Og.keep (Q:=P) (fun g _ ht=>K.out.frG g _ ht (by decide)) (fun _ q=>q) _ HO.out;obtain ⟨d0,d1,d2,d3,d4,d5,dg⟩:=HCC.out _ K.out.frG;simp only [Nat.zero_mul,Nat.add_zero] at d0 d1 d2 d3 d4 d5;have HKD:=h_ (lkid_any HX.out K.out.start hko hm (by have:=HL.out;have:=HW.out;have:=HLN.out;(try simp only [nH,List.length_singleton]);omega));clear hko;have HDX:=h_ hdx;clear hdx;subst hx;unfold xV XT.cs at HKD;(go_wp2_with fail);refine HKD.out.mono ?_;rintro e X3 ⟨rfl,fl3,L3,g9,l9,h9⟩;have K3:=h_ (K.out.next h9);have G3:=h_ g9;have L9:=h_ l9;clear g9 l9 h9 HKD d0 d1 d2 d3 d4 d5 dg;(go_wp2_with fail);refine ⟨⟨0+1,by omega,by go_num,h_ ⟨fl3,L3,?_,?_,K3.out⟩⟩,by simp [intOf];omega⟩
      · refine (G.out.trans G3.out).as (fun q x hx=>?_) (fun _=>?_)
        · rw [HXT.out] at hx;rcases List.mem_append.1 hx with hx | hx
          · exact q.1 x hx
          · rw [List.mem_singleton.1 hx];exact q.2
        · rw [HXT.out,comL_snoc,if_pos (HKK.out.2 (by trivial))];rfl
      · have l1:=L9.out;have l2:=HL.out;rw [HXT.out,exsWt_app,exsWt,exsWt];(try simp only [nH,List.length_singleton] at l1);omega
    · (have hk1:(0:Int) < (k:Int):=by omega);(go_wp2_with fail);refine (K.out.put1 4 [44] (by have:=HL.out;have:=HW.out;have:=HLN.out;omega) _ (by simp)).mono ?_;rintro e X2 ⟨rfl,h9⟩;have K2:=h_ h9;clear h9;have hko:=XT.Og.keep (Q:=P) (fun g _ ht=>K2.out.frG g _ ht (by decide)) (fun _ q=>q) _ HO.out;obtain ⟨d0,d1,d2,d3,d4,d5,dg⟩:=HCC.out _ K2.out.frG;have HKD:=h_ (lkid_any HX.out K2.out.start hko hm (by have:=HL.out;have:=HW.out;have:=HLN.out;(try simp only [nH,List.length_singleton]);omega));clear hko;have HDX:=h_ hdx;clear hdx;subst hx;unfold xV XT.cs at HKD;(go_wp2_with fail);refine HKD.out.mono ?_;rintro e X3 ⟨rfl,fl3,L3,g9,l9,h9⟩;have K3:=h_ (K2.out.next h9);have G3:=h_ g9;have L9:=h_ l9;clear g9 l9 h9 HKD d0 d1 d2 d3 d4 d5 dg;(go_wp2_with fail);refine ⟨⟨k+1,by omega,by go_num,h_ ⟨fl3,L3,?_,?_,K3.out⟩⟩,by simp [intOf];omega⟩
      · refine ((G.out.trans (Gd.put fl2 L2 [sgn [44] ln])).trans G3.out).as (fun q x hx=>?_) (fun _=>?_)
        · rw [HXT.out] at hx;rcases List.mem_append.1 hx with hx | hx
          · exact q.1.1 x hx
          · rw [List.mem_singleton.1 hx];exact q.2
        · rw [HXT.out,comL_snoc,if_neg (fun q=>hk0 (HKK.out.1 q))];simp
      · have l1:=L9.out;have l2:=HL.out;rw [HXT.out,exsWt_app,exsWt,exsWt];(try simp only [nH,List.length_singleton] at l1);omega
  · (obtain rfl:k=ks.length:=by omega);have HT:=h_ (show ks.take ks.length=ks from List.take_length);rw [HT.out] at G HL;(go_wp2_with fail);refine (K.out.put1 4 [41] (by have:=HL.out;have:=HLN.out;omega) _ (by simp)).mono ?_;rintro e X4 ⟨rfl,h9⟩;have K4:=h_ h9;clear h9;go_wp2_with fail
    go_end0
    rw [← HRR.out];refine ⟨rfl,fl2,_,(G.out.trans (Gd.put fl2 L2 [sgn [41] ln])).as (fun q=>q.1) (fun _=>?_),?_,K4.out⟩
    · rfl
    · have:=HL.out;rw [nH,List.length_singleton];omega
end
end Go.Proofs.Ytflhcdcifilfcaa

namespace Go.Proofs.Ytflhcdcifilfcaa
open Go.ChangeShapes Go.WideShapes Go.ChangeAt Go.Deep
open Go Go.RowKit

mutual
def St.sw (m:Nat):St→Nat
 | .mk _ _ _ _ _ _ ks bd el=>16+exsWt m ks+ks.length+stsSw m bd+stsSw m el
def stsSw (m:Nat):List St→Nat
 | []=>0
 | s::l=>s.sw m+stsSw m l
end
mutual
def St.rg:St→Prop
 | .mk _ _ _ _ _ ty ks bd el=>(-9223372036854775808≤ty.n∧ty.n≤9223372036854775807)∧exsRg ks∧stsRg bd∧stsRg el
def stsRg:List St→Prop
 | []=>True
 | s::l=>s.rg∧stsRg l
end
theorem exsRg_all:∀ {l:List Ex},exsRg l→∀ x∈l,x.rg
 | [],_,x,h=>by cases h
 | y::l,h,x,hx=>by
  rw [exsRg] at h;rcases List.mem_cons.1 hx with rfl | hx
  · exact h.1
  · exact exsRg_all h.2 x hx
theorem stsRg_all:∀ {l:List St},stsRg l→∀ x∈l,x.rg
 | [],_,x,h=>by cases h
 | y::l,h,x,hx=>by
  rw [stsRg] at h;rcases List.mem_cons.1 hx with rfl | hx
  · exact h.1
  · exact stsRg_all h.2 x hx
theorem stsSw_app (m:Nat):∀ a b:List St,stsSw m (a++b)=stsSw m a+stsSw m b
 | [],b=>by rw [nJ,stsSw];omega
 | x::a,b=>by rw [nI,stsSw,stsSw,stsSw_app m a b];omega
def StL (B gy m:Nat) (l0:Int) (fl:Bool) (L:List To) (P:Nat→Prop) (s:St) (W:World) (e:Ending) (W':World):Prop:=
 ∃ (t':XS) (fl':Bool) (L':List To) (ln2:Int),e = .returned (sV t')∧Gd fl fl' L L' (FineS s∧t'.d=(stL m l0 s).2.1∧ln2=(stL m l0 s).2.2) (stL m l0 s).1∧L'.length≤L.length+s.sw m∧(l0≤ln2∧ln2≤l0+s.sw m)∧LyS B gy m ln2 fl' L' W W'∧t'.Og B W' (fun g=>P g∨W.heap.size≤g)
def BkL (B gy m:Nat) (l0:Int) (fl:Bool) (L:List To) (P:Nat→Prop) (l:List St) (W:World) (e:Ending) (W':World):Prop:=
 ∃ (A:Option Addr) (c:Nat) (ts:List XS) (fl':Bool) (L':List To) (ln2:Int),e = .returned (.slice A ts.length c)∧Gd fl fl' L L' ((∀ s∈l,FineS s)∧xssd ts=(stsL m l0 l).2.1∧ln2=(stsL m l0 l).2.2) (sgn [123] l0::((stsL m l0 l).1++[sgn [125] ln2]))∧L'.length≤L.length+(stsSw m l+2)∧(l0≤ln2∧ln2≤l0+stsSw m l)∧LyS B gy m ln2 fl' L' W W' ∧
  RowG B eSt W' (fun g=>P g∨W.heap.size≤g) A c ts∧xssOg B W' (fun g=>P g∨W.heap.size≤g) ts
def LayB (B gy m:Nat) (l:List XS):Prop:=∀ (P:Nat→Prop) (fl:Bool) (L:List To) (l0:Int) (W:World) (A:Option Addr) (c:Nat),LyS B gy m l0 fl L W W→RowG B eSt W P A c l→xssOg B W P l→L.length+stsSw m (xssd l)+2≤1000000→0≤l0→l0+stsSw m (xssd l)≤1000000 →
 Calls Try.prog 32 #[.pointer (some ⟨gy,0,none⟩),.slice A l.length c] W (BkL B gy m l0 fl L P (xssd l) W)
def LayS (B gy m:Nat) (t:XS):Prop:=∀ (P:Nat→Prop) (fl:Bool) (L:List To) (l0:Int) (W:World),LyS B gy m l0 fl L W W→t.Og B W P→L.length+t.d.sw m≤1000000→0≤l0→l0+t.d.sw m≤1000000 →
 Calls Try.prog 52 #[.pointer (some ⟨gy,0,none⟩),sV t] W (StL B gy m l0 fl L P t.d W)
theorem LyS.but {B gy:Nat} {mo ln:Int} {fl:Bool} {L:List To} {W0 W Z:World} (h:LyS B gy mo ln fl L W0 W) (hb:ButT 51 W Z) (hB:Below W0.heap.size W Z) (hg:gy < W0.heap.size):LyS B gy mo ln fl L W0 Z:=by
 obtain ⟨v,h⟩:=h;have hn:=h.n;exact ⟨v,(hb gy _ ⟨_,_,h.s⟩ (by decide)).trans h.s,h.r.but hb (by decide),h.b.trans (hB.mono (by omega)),fun k e hk he=>(hB.block k hk.lt).trans (h.f k e hk he),hn⟩
structure Ls (B gy m:Nat) (l0:Int) (fl0:Bool) (L0:List To) (P:Nat→Prop) (W0:World) (b z:Nat) (s:XS) (ln:Int) (fl:Bool) (L:List To) (p:Prop) (T:List To) (n:Nat) (W:World):Prop where
 y:LyS B gy m ln fl L W0 W
 sb:CAt W b 51 s.cs
 zb:CAt W z 51 zSt
 o:s.Og B W (fun g=>(P g∨W0.heap.size≤g)∧g≠b∧g≠z)
 g:Gd fl0 fl L0 L p T
 k:L.length≤L0.length+n
 n:W0.heap.size≤b∧W0.heap.size≤z∧b≠z∧gy < W0.heap.size
section
variable {B gy m b z n n2:Nat} {l0 ln ln2:Int} {fl0 fl fl2:Bool} {L0 L L2 T T2:List To} {P:Nat→Prop} {p q:Prop} {W0 W Z:World} {s s':XS}
theorem Ls.step (h:Ls B gy m l0 fl0 L0 P W0 b z s ln fl L p T n W) (k:LyS B gy m ln2 fl2 L2 W Z) (hg:Gd fl fl2 L L2 q T2) (hl:L2.length≤L.length+n2):Ls B gy m l0 fl0 L0 P W0 b z s ln2 fl2 L2 (p∧q) (T++T2) (n+n2) Z:=
 ⟨h.y.next k,k.keeps h.sb (by decide),k.keeps h.zb (by decide),XS.Og.keep (fun g _ ht=>k.frG g _ ht (by decide)) (fun g _ ht=>k.frG g _ ht (by decide)) (fun _ q=>q) s h.o,h.g.trans hg,by have:=h.k;omega,h.n⟩
theorem Ls.set (h:Ls B gy m l0 fl0 L0 P W0 b z s ln fl L p T n W) (j:Nat) (v:Value) (hs:s'.cs=s.cs.set j v) (ho:s'.Og B W (fun g=>(P g∨W0.heap.size≤g)∧g≠b∧g≠z)):Ls B gy m l0 fl0 L0 P W0 b z s' ln fl L p T n (W.setCell ⟨b,j,none⟩ v):=by
 have hn:=h.n;have hb:ButT 51 W (W.setCell ⟨b,j,none⟩ v):=ButT.set (p:=⟨b,j,none⟩) ⟨_,_,h.sb⟩ v;have hB:Below W0.heap.size W (W.setCell ⟨b,j,none⟩ v):=(Below.refl _ W).setCell (p:=⟨b,j,none⟩) hn.1 v;have key:∀ g,g≠b→(W.setCell ⟨b,j,none⟩ v).heap[g]? = W.heap[g]? := fun g hg=>Below.heap_setCell _ _ _ g hg
 refine ⟨h.y.but hb hB hn.2.2.2,?_,(key z (fun e=>hn.2.2.1 e.symm)).trans h.zb,XS.Og.keep (fun g q _=>key g q.2.1) (fun g q _=>key g q.2.1) (fun _ q=>q) s' ho,h.g,h.k,hn⟩;rw [hs];exact h.sb.set j v
theorem Ls.below (h:Ls B gy m l0 fl0 L0 P W0 b z s ln fl L p T n W) (hb:Below W.heap.size W Z):Ls B gy m l0 fl0 L0 P W0 b z s ln fl L p T n Z:=
 ⟨h.y.below hb,h.sb.below hb h.sb.lt,h.zb.below hb h.zb.lt,h.o.below hb,h.g,h.k,h.n⟩
theorem Ls.lay (h:Ls B gy m l0 fl0 L0 P W0 b z s ln fl L p T n W) (j:Nat) (v:Value) (k:LyS B gy m ln2 fl2 L W0 (W.setCell ⟨gy,j,none⟩ v)) (hg:Gd fl0 fl2 L0 L q T):Ls B gy m l0 fl0 L0 P W0 b z s ln2 fl2 L q T n (W.setCell ⟨gy,j,none⟩ v):=by
 obtain ⟨vy,hy⟩:=h.y;have hb:ButT 84 W (W.setCell ⟨gy,j,none⟩ v):=ButT.set (p:=⟨gy,j,none⟩) ⟨_,_,hy.s⟩ v;have hny:=hy.n;have key:∀ g e,HasG B W g e→e≠84→(W.setCell ⟨gy,j,none⟩ v).heap[g]? = W.heap[g]? := fun g e hg he=>hg.elim (fun q=>hb g e q he) (fun q=>Below.heap_setCell _ _ _ g (by show g≠gy;omega))
 exact ⟨k,(hb b _ ⟨_,_,h.sb⟩ (by decide)).trans h.sb,(hb z _ ⟨_,_,h.zb⟩ (by decide)).trans h.zb,XS.Og.keep (fun g _ ht=>key g _ ht (by decide)) (fun g _ ht=>key g _ ht (by decide)) (fun _ q=>q) s h.o,hg,h.k,h.n⟩
theorem Ls.line (h:Ls B gy m l0 fl0 L0 P W0 b z s ln fl L p T n W) (x:Int):Ls B gy m l0 fl0 L0 P W0 b z s x fl L p T n (W.setCell ⟨gy,1,none⟩ (.int .i64 x)):=h.lay 1 _ (h.y.setN x) h.g
theorem Ls.off (h:Ls B gy m l0 fl0 L0 P W0 b z s ln fl L p T n W):Ls B gy m l0 fl0 L0 P W0 b z s ln true L False T n (W.setCell ⟨gy,3,none⟩ (.bool true)):=h.lay 3 _ (h.y.setF true) Gd.off
theorem Ls.new (h:LyS B gy m l0 fl L W W) (s:XS) (ho:s.Og B W P):Ls B gy m l0 fl L P W W.heap.size (W.heap.size+1) s l0 fl L True [] 0 ((W.alloc (.cells s.cs.toArray 51)).alloc (.cells zSt.toArray 51)):=by
 have b1:=below_lnew W (.cells s.cs.toArray 51);have c1:CAt (W.alloc (.cells s.cs.toArray 51)) W.heap.size 51 s.cs:=heap_alloc_new W _;have s1:(W.alloc (.cells s.cs.toArray 51)).heap.size=W.heap.size+1:=by rw [World.size_alloc]
 have hgy:=h.cells.2.2.2.2.2;obtain ⟨W1,h1⟩:∃ W1,W.alloc (.cells s.cs.toArray 51)=W1:=⟨_,rfl⟩;rw [h1] at b1 c1 s1 ⊢;have b2:=below_lnew W1 (.cells zSt.toArray 51);have c2:CAt (W1.alloc (.cells zSt.toArray 51)) W1.heap.size 51 zSt:=heap_alloc_new W1 _;rw [s1] at c2;exact ⟨(h.below b1).below b2,c1.below b2 c1.lt,c2,XS.Og.keep (fun g _ ht=>(b2.block g (by have:=ht.lt;omega)).trans (b1.block g ht.lt)) (fun g _ ht=>(b2.block g (by have:=ht.lt;omega)).trans (b1.block g ht.lt)) (fun g q=>⟨.inl q.1,by omega,by omega⟩) s (XS.Og.low s ho),(Gd.refl fl L).as id (fun _=>rfl),by omega,⟨Nat.le_refl _,by omega,by omega,hgy⟩⟩
theorem Ls.cells {kd sl:Int} {nm f cl:List UInt8} {ty:Ty} {kA bA eA:Option Addr} {kc bc ec:Nat} {ks:List XT} {bd el:List XS} (h:Ls B gy m l0 fl0 L0 P W0 b z (.mk kd sl nm f cl ty kA kc ks bA bc bd eA ec el) ln fl L p T n W) :
 (W.cell? ⟨b,0,none⟩=some (.int .u8 kd)∧W.cell? ⟨b,1,none⟩=some (.int .i64 sl)∧W.cell? ⟨b,2,none⟩=some (.string (str nm))∧W.cell? ⟨b,3,none⟩=some (.string (str f))∧W.cell? ⟨b,4,none⟩=some (.string (str cl))∧W.cell? ⟨b,5,none⟩=some (.int .u8 ty.kd)∧W.cell? ⟨b,6,none⟩=some (.int .i64 ty.n)∧W.cell? ⟨b,7,none⟩=some (.string (str ty.nm))∧W.cell? ⟨b,8,none⟩=some (.slice kA ks.length kc)∧W.cell? ⟨b,9,none⟩=some (.slice bA bd.length bc)∧W.cell? ⟨b,10,none⟩=some (.slice eA el.length ec)) ∧
 (W.frozen? ⟨b,1,none⟩=false∧W.frozen? ⟨b,9,none⟩=false∧W.frozen? ⟨b,10,none⟩=false)∧b < W.heap.size:=
 ⟨⟨h.sb.cell (j:=0) (by simp [XS.cs]),h.sb.cell (j:=1) (by simp [XS.cs]),h.sb.cell (j:=2) (by simp [XS.cs]),h.sb.cell (j:=3) (by simp [XS.cs]),h.sb.cell (j:=4) (by simp [XS.cs]),h.sb.cell (j:=5) (by simp [XS.cs]),h.sb.cell (j:=6) (by simp [XS.cs]),h.sb.cell (j:=7) (by simp [XS.cs]),h.sb.cell (j:=8) (by simp [XS.cs]),h.sb.cell (j:=9) (by simp [XS.cs]),h.sb.cell (j:=10) (by simp [XS.cs])⟩,
  ⟨h.sb.frozen 1,h.sb.frozen 9,h.sb.frozen 10⟩,h.sb.lt⟩
theorem Ls.zeros (h:Ls B gy m l0 fl0 L0 P W0 b z s ln fl L p T n W) :
 (W.cell? ⟨z,0,none⟩=some (.int .u8 0)∧W.cell? ⟨z,1,none⟩=some (.int .i64 0)∧W.cell? ⟨z,2,none⟩=some (.string ⟨#[]⟩)∧W.cell? ⟨z,3,none⟩=some (.string ⟨#[]⟩)∧W.cell? ⟨z,4,none⟩=some (.string ⟨#[]⟩)∧W.cell? ⟨z,5,none⟩=some (.int .u8 0)∧W.cell? ⟨z,6,none⟩=some (.int .i64 0)∧W.cell? ⟨z,7,none⟩=some (.string ⟨#[]⟩)∧W.cell? ⟨z,8,none⟩=some (.slice none 0 0)∧W.cell? ⟨z,9,none⟩=some (.slice none 0 0)∧W.cell? ⟨z,10,none⟩=some (.slice none 0 0)) ∧
 (W.frozen? ⟨z,0,none⟩=false∧W.frozen? ⟨z,1,none⟩=false∧W.frozen? ⟨z,2,none⟩=false∧W.frozen? ⟨z,3,none⟩=false∧W.frozen? ⟨z,4,none⟩=false∧W.frozen? ⟨z,5,none⟩=false∧W.frozen? ⟨z,6,none⟩=false∧W.frozen? ⟨z,7,none⟩=false∧W.frozen? ⟨z,8,none⟩=false∧W.frozen? ⟨z,9,none⟩=false∧W.frozen? ⟨z,10,none⟩=false)∧z < W.heap.size:=
 ⟨⟨h.zb.cell (j:=0) (by simp [zSt]),h.zb.cell (j:=1) (by simp [zSt]),h.zb.cell (j:=2) (by simp [zSt]),h.zb.cell (j:=3) (by simp [zSt]),h.zb.cell (j:=4) (by simp [zSt]),h.zb.cell (j:=5) (by simp [zSt]),h.zb.cell (j:=6) (by simp [zSt]),h.zb.cell (j:=7) (by simp [zSt]),h.zb.cell (j:=8) (by simp [zSt]),h.zb.cell (j:=9) (by simp [zSt]),h.zb.cell (j:=10) (by simp [zSt])⟩,
  ⟨h.zb.frozen 0,h.zb.frozen 1,h.zb.frozen 2,h.zb.frozen 3,h.zb.frozen 4,h.zb.frozen 5,h.zb.frozen 6,h.zb.frozen 7,h.zb.frozen 8,h.zb.frozen 9,h.zb.frozen 10⟩,h.zb.lt⟩
theorem Ls.apart (h:Ls B gy m l0 fl0 L0 P W0 b z s ln fl L p T n W):¬ gy=b∧¬ b=gy∧¬ gy=z∧¬ z=gy∧¬ b=z∧¬ z=b:=by
 have:=h.n;omega
theorem ls_end {fn:Func} {pt:Tmp} (hf:fn.results=#[.cell pt 51]) {tmps:Array Value} (hp:tmps.getD pt undef = .pointer (some ⟨z,0,none⟩)) (h:Ls B gy m l0 fl0 L0 P W0 b z s ln fl L p T n W) {W9:World} (hW:W9=putSt W z 0 s) {t:St} (hn:n≤t.sw m) (hl:l0≤ln∧ln≤l0+t.sw m)
 (hq:p→FineS t∧s.d=(stL m l0 t).2.1∧ln=(stL m l0 t).2.2∧T=(stL m l0 t).1):bodyPost Try.prog fn (StL B gy m l0 fl0 L0 P t W0) .ret { tmps:=tmps,defers:=[] } W9:=by
 subst hW;have hn9:=h.n;have hg:=putSt_grown W z 0 s;have hs0:W0.heap.size≤W.heap.size:=by have:=h.zb.lt;have:=h.y.bl.size;exact this
 have hB:Below W0.heap.size W (putSt W z 0 s):=(Below.refl _ _).grown hg hs0 (fun k e=>by injection e with e;omega);have hb:ButT 51 W (putSt W z 0 s):=ButT.grown hg fun k e=>by injection e with e;subst e;exact ⟨_,_,h.zb⟩
 have key:∀ g,g≠z→g < W.heap.size→(putSt W z 0 s).heap[g]? = W.heap[g]? := fun g h1 h2=>hg.block g h2 (fun e=>by injection e with e;exact h1 e)
 have hc:CAt (putSt W z 0 s) z 51 s.cs:=by
  obtain ⟨kd,ln,nm,fl,cl,ty,kA,kc,ks,bA,bc,bd,eA,ec,el⟩:=s;unfold putSt;exact ((((((((((h.zb.set 0 _).set 1 _).set 2 _).set 3 _).set 4 _).set 5 _).set 6 _).set 7 _).set 8 _).set 9 _).set 10 _
 refine bodyPost_ret (st_back hf hp hc) rfl ⟨s,fl,L,ln,rfl,h.g.as (fun q=>⟨(hq q).1,(hq q).2.1,(hq q).2.2.1⟩) (fun q=>(hq q).2.2.2),by have:=h.k;omega,hl,h.y.but hb hB hn9.2.2.2,XS.Og.keep (fun g q t=>key g q.2.2 t.lt) (fun g q t=>key g q.2.2 t.lt) (fun _ q=>q.1) s h.o⟩
theorem Ls.step1 (h:Ls B gy m l0 fl0 L0 P W0 b z s ln fl L p T n W) (k:LyS B gy m ln2 fl2 L2 W Z) (hg:Gd fl fl2 L L2 True T2) (hl:L2.length≤L.length+n2):Ls B gy m l0 fl0 L0 P W0 b z s ln2 fl2 L2 p (T++T2) (n+n2) Z:=by
 have h1:=h.step k hg hl;exact ⟨h1.y,h1.sb,h1.zb,h1.o,h1.g.as (fun q=>q.1) (fun _=>rfl),h1.k,h1.n⟩
theorem Ls.put1 (h:Ls B gy m l0 fl0 L0 P W0 b z s ln fl L p T n W) (kd:Int) (tx:List UInt8) (hl:L.length < 1000000) (g:Nat) (hg:g=W.heap.size) :
 Calls Try.prog 29 #[.pointer (some ⟨gy,0,none⟩),.int .u8 kd,.slice (some ⟨g,0,none⟩) 1 1] (W.alloc (.cells #[.string (str tx)] 9)) (fun e W'=>e = .returned (.tuple #[])∧Ls B gy m l0 fl0 L0 P W0 b z s ln fl (L++[⟨kd,tx,0,ln⟩]) p (T++[⟨kd,tx,0,ln⟩]) (n+1) W'):=by
 refine (h.y.start.put1 kd tx hl g hg).mono ?_;rintro e W' ⟨rfl,h2⟩;exact ⟨rfl,h.step1 h2 (Gd.put _ _ _) (by simp)⟩
theorem Ls.put2 (h:Ls B gy m l0 fl0 L0 P W0 b z s ln fl L p T n W) (kd:Int) (tx ty:List UInt8) (hl:L.length+2≤1000000) (g:Nat) (hg:g=W.heap.size) :
 Calls Try.prog 29 #[.pointer (some ⟨gy,0,none⟩),.int .u8 kd,.slice (some ⟨g,0,none⟩) 2 2] (W.alloc (.cells #[.string (str tx),.string (str ty)] 9)) (fun e W'=>e = .returned (.tuple #[])∧Ls B gy m l0 fl0 L0 P W0 b z s ln fl (L++[⟨kd,tx,0,ln⟩,⟨kd,ty,0,ln⟩]) p (T++[⟨kd,tx,0,ln⟩,⟨kd,ty,0,ln⟩]) (n+2) W'):=by
 refine (h.y.start.put2 kd tx ty hl g hg).mono ?_;rintro e W' ⟨rfl,h2⟩;exact ⟨rfl,h.step1 h2 (Gd.put _ _ _) (by simp)⟩
theorem Ls.nam (h:Ls B gy m l0 fl0 L0 P W0 b z s ln fl L p T n W) (tx:List UInt8) (hl:L.length < 1000000) :
 Calls Try.prog 30 #[.pointer (some ⟨gy,0,none⟩),.string (str tx)] W (fun e W'=>e = .returned (.tuple #[])∧∃ fl',Ls B gy m l0 fl0 L0 P W0 b z s ln fl' (L++[nmT tx ln]) p (T++[nmT tx ln]) (n+1) W'):=by
 refine (h.y.start.nam tx hl).mono ?_;rintro e W' ⟨rfl,fl',hg,h2⟩;exact ⟨rfl,fl',h.step1 h2 hg (by simp)⟩
theorem Ls.kind (h:Ls B gy m l0 fl0 L0 P W0 b z s ln fl L p T n W) (t:Ty) (hn : -9223372036854775808≤t.n∧t.n≤9223372036854775807) (hl:L.length+4≤1000000) :
 Calls Try.prog 31 #[.pointer (some ⟨gy,0,none⟩),tyV t] W (fun e W'=>e = .returned (.tuple #[])∧∃ fl' L',L'.length≤L.length+4∧Ls B gy m l0 fl0 L0 P W0 b z s ln fl' L' (p∧FineT t) (T++tyL ln t) (n+4) W'):=by
 refine (lkind_any h.y.start t hn hl).mono ?_;rintro e W' ⟨rfl,fl',L',hg,hk,h2⟩;exact ⟨rfl,fl',L',hk,h.step h2 hg hk⟩
section
variable {kd sl:Int} {nm f cl:List UInt8} {ty:Ty} {kA bA eA:Option Addr} {kc bc ec:Nat} {ks:List XT} {bd el:List XS}
theorem Ls.kid (h:Ls B gy m l0 fl0 L0 P W0 b z (.mk kd sl nm f cl ty kA kc ks bA bc bd eA ec el) ln fl L p T n W) (hm:m≤1000000) {x:XT} (hx:x∈ks) (hr:x.d.rg) (hl:L.length+x.d.wt m+2*(m+1)≤1000000) :
 Calls Try.prog 68 #[.pointer (some ⟨gy,0,none⟩),xV x] W (fun e W'=>e = .returned (.tuple #[])∧∃ fl' L',L'.length≤L.length+(x.d.wt m+2*(m+1))∧Ls B gy m l0 fl0 L0 P W0 b z (.mk kd sl nm f cl ty kA kc ks bA bc bd eA ec el) ln fl' L' (p∧Fine x.d) (T++x.d.kl m ln) (n+(x.d.wt m+2*(m+1))) W'):=by
 have ho:=h.o;rw [XS.Og] at ho;refine (lkid_any (lexp_any B gy ln hm _ x hr) h.y.start (xsOg_all ho.2.1 x hx) hm hl).mono ?_;rintro e W' ⟨rfl,fl',L',hg,hk,h2⟩;exact ⟨rfl,fl',L',hk,h.step h2 hg hk⟩
theorem Ls.args (h:Ls B gy m l0 fl0 L0 P W0 b z (.mk kd sl nm f cl ty kA kc ks bA bc bd eA ec el) ln fl L p T n W) (hm:m≤1000000) (hr:exsRg (xsd ks)) (hl:L.length+exsWt m (xsd ks)+ks.length+2≤1000000) :
 Calls Try.prog 69 #[.pointer (some ⟨gy,0,none⟩),.slice kA ks.length kc] W (fun e W'=>e = .returned (.tuple #[])∧∃ fl' L',L'.length≤L.length+(exsWt m (xsd ks)+ks.length+2)∧Ls B gy m l0 fl0 L0 P W0 b z (.mk kd sl nm f cl ty kA kc ks bA bc bd eA ec el) ln fl' L' (p∧∀ x∈xsd ks,Fine x) (T++arL m ln (xsd ks)) (n+(exsWt m (xsd ks)+ks.length+2)) W'):=by
 have ho:=h.o;rw [XS.Og] at ho;refine (largs_any hm (fun x hx=>lexp_any B gy ln hm _ x (exsRg_all hr _ (by rw [xsd_map];exact List.mem_map_of_mem hx))) h.y.start ho.1.1 ho.2.1 hl).mono ?_;rintro e W' ⟨rfl,fl',L',hg,hk,h2⟩;exact ⟨rfl,fl',L',hk,h.step h2 hg hk⟩
theorem Ls.part (h:Ls B gy m l0 fl0 L0 P W0 b z (.mk kd sl nm f cl ty kA kc ks bA bc bd eA ec el) ln fl L p T n W) {g o:Nat} (hA:kA=some ⟨g,o,none⟩) {i:Nat} (hi:i < ks.length) {a0 a1:Int} {a2 a3 a4:List UInt8} {A5:Option Addr} {a6:Nat} {ys:List XT} (hx:ks[i]=XT.mk a0 a1 a2 a3 a4 A5 a6 ys) :
 W.cell? ⟨g,o+i*6,none⟩=some (.int .u8 a0)∧W.cell? ⟨g,o+i*6+1,none⟩=some (.int .i64 a1)∧W.cell? ⟨g,o+i*6+2,none⟩=some (.string (str a2))∧W.cell? ⟨g,o+i*6+3,none⟩=some (.string (str a3))∧W.cell? ⟨g,o+i*6+4,none⟩=some (.string (str a4))∧W.cell? ⟨g,o+i*6+5,none⟩=some (.slice A5 ys.length a6)∧g < W.heap.size:=by
 have ho:=h.o;rw [XS.Og] at ho;subst hA;exact eX_cells ho.1.1.1 hi hx
theorem Ls.at_ (h:Ls B gy m l0 fl0 L0 P W0 b z (.mk kd sl nm f cl ty kA kc ks bA bc bd eA ec el) ln fl L p T n W) (hi:0 < ks.length):∃ g o,kA=some ⟨g,o,none⟩:=by
 have ho:=h.o;rw [XS.Og] at ho;obtain ⟨g,o,e,_⟩:=ho.1.1.1.lies.at_ hi;exact ⟨g,o,e⟩
theorem Ls.blk (h:Ls B gy m l0 fl0 L0 P W0 b z (.mk kd sl nm f cl ty kA kc ks bA bc bd eA ec el) ln fl L p T n W) (hB:LayB B gy m bd) (hl:L.length+stsSw m (xssd bd)+2≤1000000) (h0:0≤ln) (h1:ln+stsSw m (xssd bd)≤1000000) :
 Calls Try.prog 32 #[.pointer (some ⟨gy,0,none⟩),.slice bA bd.length bc] W (fun e W'=>∃ A c ts fl' L' ln2,e = .returned (.slice A ts.length c)∧L'.length≤L.length+(stsSw m (xssd bd)+2)∧(ln≤ln2∧ln2≤ln+stsSw m (xssd bd)) ∧
  Hid (RowG B eSt W' (fun g=>(P g∨W0.heap.size≤g)∧g≠b∧g≠z) A c ts∧xssOg B W' (fun g=>(P g∨W0.heap.size≤g)∧g≠b∧g≠z) ts) ∧
  Ls B gy m l0 fl0 L0 P W0 b z (.mk kd sl nm f cl ty kA kc ks bA bc bd eA ec el) ln2 fl' L' (p∧((∀ s∈xssd bd,FineS s)∧xssd ts=(stsL m ln (xssd bd)).2.1∧ln2=(stsL m ln (xssd bd)).2.2)) (T++sgn [123] ln::((stsL m ln (xssd bd)).1++[sgn [125] ln2])) (n+(stsSw m (xssd bd)+2)) W'):=by
 have ho:=h.o;rw [XS.Og] at ho;have hz:=h.zb.lt;have hb:=h.sb.lt;have hs:=h.y.bl.size;refine (hB _ fl L ln W bA bc h.y.start ho.1.2.1 ho.2.2.1 hl h0 h1).mono ?_;rintro e W' ⟨A,c,ts,fl',L',ln2,rfl,hg,hk,hln,h2,hr,hx⟩;have up:∀ g:Nat,((P g∨W0.heap.size≤g)∧g≠b∧g≠z)∨W.heap.size≤g→(P g∨W0.heap.size≤g)∧g≠b∧g≠z:=fun g q=>q.elim id fun q=>⟨.inr (by omega),by omega,by omega⟩
 exact ⟨A,c,ts,fl',L',ln2,rfl,hk,hln,h_ ⟨hr.keep (fun _ _ _=>rfl) up,xssOg.keep (fun _ _ _=>rfl) (fun _ _ _=>rfl) up ts hx⟩,h.step h2 hg hk⟩
theorem Ls.blk2 (h:Ls B gy m l0 fl0 L0 P W0 b z (.mk kd sl nm f cl ty kA kc ks bA bc bd eA ec el) ln fl L p T n W) (hB:LayB B gy m el) (hl:L.length+stsSw m (xssd el)+2≤1000000) (h0:0≤ln) (h1:ln+stsSw m (xssd el)≤1000000) :
 Calls Try.prog 32 #[.pointer (some ⟨gy,0,none⟩),.slice eA el.length ec] W (fun e W'=>∃ A c ts fl' L' ln2,e = .returned (.slice A ts.length c)∧L'.length≤L.length+(stsSw m (xssd el)+2)∧(ln≤ln2∧ln2≤ln+stsSw m (xssd el)) ∧
  Hid (RowG B eSt W' (fun g=>(P g∨W0.heap.size≤g)∧g≠b∧g≠z) A c ts∧xssOg B W' (fun g=>(P g∨W0.heap.size≤g)∧g≠b∧g≠z) ts) ∧
  Ls B gy m l0 fl0 L0 P W0 b z (.mk kd sl nm f cl ty kA kc ks bA bc bd eA ec el) ln2 fl' L' (p∧((∀ s∈xssd el,FineS s)∧xssd ts=(stsL m ln (xssd el)).2.1∧ln2=(stsL m ln (xssd el)).2.2)) (T++sgn [123] ln::((stsL m ln (xssd el)).1++[sgn [125] ln2])) (n+(stsSw m (xssd el)+2)) W'):=by
 have ho:=h.o;rw [XS.Og] at ho;have hz:=h.zb.lt;have hb:=h.sb.lt;have hs:=h.y.bl.size;refine (hB _ fl L ln W eA ec h.y.start ho.1.2.2 ho.2.2.2 hl h0 h1).mono ?_;rintro e W' ⟨A,c,ts,fl',L',ln2,rfl,hg,hk,hln,h2,hr,hx⟩;have up:∀ g:Nat,((P g∨W0.heap.size≤g)∧g≠b∧g≠z)∨W.heap.size≤g→(P g∨W0.heap.size≤g)∧g≠b∧g≠z:=fun g q=>q.elim id fun q=>⟨.inr (by omega),by omega,by omega⟩
 exact ⟨A,c,ts,fl',L',ln2,rfl,hk,hln,h_ ⟨hr.keep (fun _ _ _=>rfl) up,xssOg.keep (fun _ _ _=>rfl) (fun _ _ _=>rfl) up ts hx⟩,h.step h2 hg hk⟩
theorem Ls.bd_ (h:Ls B gy m l0 fl0 L0 P W0 b z (.mk kd sl nm f cl ty kA kc ks bA bc bd eA ec el) ln fl L p T n W) {A2:Option Addr} {c2:Nat} {ts:List XS} (hk:RowG B eSt W (fun g=>(P g∨W0.heap.size≤g)∧g≠b∧g≠z) A2 c2 ts∧xssOg B W (fun g=>(P g∨W0.heap.size≤g)∧g≠b∧g≠z) ts) :
 Ls B gy m l0 fl0 L0 P W0 b z (.mk kd sl nm f cl ty kA kc ks A2 c2 ts eA ec el) ln fl L p T n (W.setCell ⟨b,9,none⟩ (.slice A2 ts.length c2)):=
 h.set 9 _ rfl (by have:=h.o;rw [XS.Og] at this ⊢;exact ⟨⟨this.1.1,hk.1,this.1.2.2⟩,this.2.1,hk.2,this.2.2.2⟩)
theorem Ls.el_ (h:Ls B gy m l0 fl0 L0 P W0 b z (.mk kd sl nm f cl ty kA kc ks bA bc bd eA ec el) ln fl L p T n W) {A2:Option Addr} {c2:Nat} {ts:List XS} (hk:RowG B eSt W (fun g=>(P g∨W0.heap.size≤g)∧g≠b∧g≠z) A2 c2 ts∧xssOg B W (fun g=>(P g∨W0.heap.size≤g)∧g≠b∧g≠z) ts) :
 Ls B gy m l0 fl0 L0 P W0 b z (.mk kd sl nm f cl ty kA kc ks bA bc bd A2 c2 ts) ln fl L p T n (W.setCell ⟨b,10,none⟩ (.slice A2 ts.length c2)):=
 h.set 10 _ rfl (by have:=h.o;rw [XS.Og] at this ⊢;exact ⟨⟨this.1.1,this.1.2.1,hk.1⟩,this.2.1,this.2.2.1,hk.2⟩)
end
end
end Go.Proofs.Ytflhcdcifilfcaa

namespace Go.Proofs.Ytflhcdcifilfcaa
open Go Go.RowKit
theorem fits_any (w:World) (kd ln:Int) (nm fl cl:List UInt8) (tk tn:Int) (tm:List UInt8) (kA bA eA:Option Addr) (kn kc bn bc en ec:Nat) :
 Calls Try.prog 67 #[.agg (fitV kd ln nm fl cl tk tn tm kA bA eA kn kc bn bc en ec).toArray] w (FitR kd kn bn en nm fl cl ⟨tk,tn,tm⟩ w):=by
 by_cases hk1:kd=1
 · exact fits_1 w kd ln nm fl cl tk tn tm kA bA eA kn kc bn bc en ec hk1
 by_cases hk2:kd=2
 · exact fits_2 w kd ln nm fl cl tk tn tm kA bA eA kn kc bn bc en ec hk2
 by_cases hk3:kd=3
 · exact fits_3 w kd ln nm fl cl tk tn tm kA bA eA kn kc bn bc en ec hk3
 by_cases hk4:kd=4
 · exact fits_4 w kd ln nm fl cl tk tn tm kA bA eA kn kc bn bc en ec hk4
 by_cases hk5:kd=5
 · exact fits_5 w kd ln nm fl cl tk tn tm kA bA eA kn kc bn bc en ec hk5
 by_cases hk6:kd=6
 · exact fits_6 w kd ln nm fl cl tk tn tm kA bA eA kn kc bn bc en ec hk6
 by_cases hk7:kd=7
 · exact fits_7 w kd ln nm fl cl tk tn tm kA bA eA kn kc bn bc en ec hk7
 by_cases hk8:kd=8
 · exact fits_8 w kd ln nm fl cl tk tn tm kA bA eA kn kc bn bc en ec hk8
 by_cases hk9:kd=9
 · exact fits_9 w kd ln nm fl cl tk tn tm kA bA eA kn kc bn bc en ec hk9
 by_cases hk10:kd=10
 · exact fits_10 w kd ln nm fl cl tk tn tm kA bA eA kn kc bn bc en ec hk10
 exact fits_0 w kd ln nm fl cl tk tn tm kA bA eA kn kc bn bc en ec (by omega)
end Go.Proofs.Ytflhcdcifilfcaa
