/-
  Merged for a claim: S5K4, S5K5, S5K6.
-/
import Derived.Test.YtflhcdcifilfcaaHL1
namespace Go.Proofs.Ytflhcdcifilfcaa
open Go.ChangeShapes Go.WideShapes Go.ChangeAt Go.Deep
open Go Go.RowKit
set_option maxRecDepth 100000 in
set_option maxHeartbeats 16000000 in
theorem fits_4 (w:World) (kd ln:Int) (nm fl cl:List UInt8) (tk tn:Int) (tm:List UInt8) (kA bA eA:Option Addr) (kn kc bn bc en ec:Nat) (hk:kd=4) :
 Calls Try.prog 67 #[.agg (fitV kd ln nm fl cl tk tn tm kA bA eA kn kc bn bc en ec).toArray] w (FitR kd kn bn en nm fl cl ⟨tk,tn,tm⟩ w):=by
 obtain ⟨X,hX⟩:∃ X,w.alloc (.cells (fitV kd ln nm fl cl tk tn tm kA bA eA kn kc bn bc en ec).toArray 51)=X:=⟨_,rfl⟩;have hb:=below_lnew w (.cells (fitV kd ln nm fl cl tk tn tm kA bA eA kn kc bn bc en ec).toArray 51);have hc:CAt X w.heap.size 51 (fitV kd ln nm fl cl tk tn tm kA bA eA kn kc bn bc en ec):=by
  rw [← hX];exact heap_alloc_new w _
 rw [hX] at hb;have HB:=h_ hb;obtain ⟨R,hR⟩:∃ R,FitR kd kn bn en nm fl cl ⟨tk,tn,tm⟩ w=R:=⟨_,rfl⟩;rw [hR];have HR:=h_ hR;unfold fitV at hX hc ⊢;have c0:=hc.cell (j:=0) (by simp);have c2:=hc.cell (j:=2) (by simp);have c3:=hc.cell (j:=3) (by simp);have c4:=hc.cell (j:=4) (by simp);have c5:=hc.cell (j:=5) (by simp);have c6:=hc.cell (j:=6) (by simp);have c7:=hc.cell (j:=7) (by simp);have c8:=hc.cell (j:=8) (by simp);have c9:=hc.cell (j:=9) (by simp);have c10:=hc.cell (j:=10) (by simp);simp only [nD,nE] at c0 c2 c3 c4 c5 c6 c7 c8 c9 c10;obtain ⟨gb,hgb⟩:∃ gb,w.heap.size=gb:=⟨_,rfl⟩;rw [hgb] at c0 c2 c3 c4 c5 c6 c7 c8 c9 c10;clear hc hb hR;subst hk;by_cases hx:kn=1
 · subst hx;by_cases hx:bn=0
   · subst hx;by_cases hx:en=0
     · subst hx;by_cases hx:cl=[]
       · (have s_cl:(str cl).toList.isEmpty=true:=by rw [str_isE,hx];rfl);have HE_cl:=h_ hx;clear hx;by_cases hx:tk=0
         · subst hx;by_cases hx:tn=0
           · subst hx;by_cases hx:tm=[]
             · (have s_tm:(str tm).toList.isEmpty=true:=by rw [str_isE,hx];rfl);have HE_tm:=h_ hx;clear hx;go_enter Try.func67,Try.ntmps67;(go_upto_region 14 with fail);simp only [nK,nI,nJ];(go_wp2_with fail);(try go_ret);rw [← HR.out];refine ⟨_,rfl,fun _=>?_,HB.out⟩;have h_HE_cl:=HE_cl.out;have h_HE_tm:=HE_tm.out;exact ⟨by omega,by omega,by omega,by omega,by omega,by omega,by omega,by omega,fun q q2=>by omega,fun q=>absurd rfl q,fun _=>h_HE_cl,fun _=>by rw [h_HE_tm];rfl⟩
             · (have s_tm:(str tm).toList.isEmpty=false:=by rw [str_isE];cases tm with | nil=>exact absurd rfl hx | cons _ _=>rfl);clear hx;go_enter Try.func67,Try.ntmps67;(go_upto_region 14 with fail);simp only [nK,nI,nJ];(go_wp2_with fail);(try go_ret);rw [← HR.out];exact ⟨_,rfl,fun q=>absurd q (by decide),HB.out⟩
           · (have s_tn:(tn == 0)=false:=by simpa using hx);go_enter Try.func67,Try.ntmps67;(go_upto_region 14 with fail);simp only [nK,nI,nJ];(go_wp2_with fail);(try go_ret);rw [← HR.out];exact ⟨_,rfl,fun q=>absurd q (by decide),HB.out⟩
         · (have s_tk:(tk == 0)=false:=by simpa using hx);go_enter Try.func67,Try.ntmps67;(go_upto_region 14 with fail);simp only [nK,nI,nJ];(go_wp2_with fail);(try go_ret);rw [← HR.out];exact ⟨_,rfl,fun q=>absurd q (by decide),HB.out⟩
       · (have s_cl:(str cl).toList.isEmpty=false:=by rw [str_isE];cases cl with | nil=>exact absurd rfl hx | cons _ _=>rfl);clear hx;go_enter Try.func67,Try.ntmps67;(go_upto_region 14 with fail);simp only [nK,nI,nJ];(go_wp2_with fail);(try go_ret);rw [← HR.out];exact ⟨_,rfl,fun q=>absurd q (by decide),HB.out⟩
     · (have s_en:((en:Int) == 0)=false:=by rw [beq_eq_false_iff_ne];omega);(have s2_en:¬ (en:Int)=0:=by omega);go_enter Try.func67,Try.ntmps67;(go_upto_region 14 with fail);simp only [nK,nI,nJ];(go_wp2_with fail);(try go_ret);rw [← HR.out];exact ⟨_,rfl,fun q=>absurd q (by decide),HB.out⟩
   · (have s_bn:((bn:Int) == 0)=false:=by rw [beq_eq_false_iff_ne];omega);(have s2_bn:¬ (bn:Int)=0:=by omega);go_enter Try.func67,Try.ntmps67;(go_upto_region 14 with fail);simp only [nK,nI,nJ];(go_wp2_with fail);(try go_ret);rw [← HR.out];exact ⟨_,rfl,fun q=>absurd q (by decide),HB.out⟩
 · (have s_kn:((kn:Int) == 1)=false:=by rw [beq_eq_false_iff_ne];omega);(have s2_kn:¬ (kn:Int)=1:=by omega);go_enter Try.func67,Try.ntmps67;(go_upto_region 14 with fail);simp only [nK,nI,nJ];(go_wp2_with fail);(try go_ret);rw [← HR.out];exact ⟨_,rfl,fun q=>absurd q (by decide),HB.out⟩
end Go.Proofs.Ytflhcdcifilfcaa

namespace Go.Proofs.Ytflhcdcifilfcaa
open Go.ChangeShapes Go.WideShapes Go.ChangeAt Go.Deep
open Go Go.RowKit
set_option maxRecDepth 100000 in
set_option maxHeartbeats 16000000 in
theorem fits_5 (w:World) (kd ln:Int) (nm fl cl:List UInt8) (tk tn:Int) (tm:List UInt8) (kA bA eA:Option Addr) (kn kc bn bc en ec:Nat) (hk:kd=5) :
 Calls Try.prog 67 #[.agg (fitV kd ln nm fl cl tk tn tm kA bA eA kn kc bn bc en ec).toArray] w (FitR kd kn bn en nm fl cl ⟨tk,tn,tm⟩ w):=by
 obtain ⟨X,hX⟩:∃ X,w.alloc (.cells (fitV kd ln nm fl cl tk tn tm kA bA eA kn kc bn bc en ec).toArray 51)=X:=⟨_,rfl⟩;have hb:=below_lnew w (.cells (fitV kd ln nm fl cl tk tn tm kA bA eA kn kc bn bc en ec).toArray 51);have hc:CAt X w.heap.size 51 (fitV kd ln nm fl cl tk tn tm kA bA eA kn kc bn bc en ec):=by
  rw [← hX];exact heap_alloc_new w _
 rw [hX] at hb;have HB:=h_ hb;obtain ⟨R,hR⟩:∃ R,FitR kd kn bn en nm fl cl ⟨tk,tn,tm⟩ w=R:=⟨_,rfl⟩;rw [hR];have HR:=h_ hR;unfold fitV at hX hc ⊢;have c0:=hc.cell (j:=0) (by simp);have c2:=hc.cell (j:=2) (by simp);have c3:=hc.cell (j:=3) (by simp);have c4:=hc.cell (j:=4) (by simp);have c5:=hc.cell (j:=5) (by simp);have c6:=hc.cell (j:=6) (by simp);have c7:=hc.cell (j:=7) (by simp);have c8:=hc.cell (j:=8) (by simp);have c9:=hc.cell (j:=9) (by simp);have c10:=hc.cell (j:=10) (by simp);simp only [nD,nE] at c0 c2 c3 c4 c5 c6 c7 c8 c9 c10;obtain ⟨gb,hgb⟩:∃ gb,w.heap.size=gb:=⟨_,rfl⟩;rw [hgb] at c0 c2 c3 c4 c5 c6 c7 c8 c9 c10;clear hc hb hR;subst hk;by_cases hx:bn=0
 · subst hx;by_cases hx:en=0
   · subst hx;by_cases hx:fl=[]
     · (have s_fl:(str fl).toList.isEmpty=true:=by rw [str_isE,hx];rfl);have HE_fl:=h_ hx;clear hx;by_cases hx:tk=0
       · subst hx;by_cases hx:tn=0
         · subst hx;by_cases hx:tm=[]
           · (have s_tm:(str tm).toList.isEmpty=true:=by rw [str_isE,hx];rfl);have HE_tm:=h_ hx;clear hx;go_enter Try.func67,Try.ntmps67;(go_upto_region 14 with fail);simp only [nK,nI,nJ];(go_wp2_with fail);(try go_ret);rw [← HR.out];refine ⟨_,rfl,fun _=>?_,HB.out⟩;have h_HE_fl:=HE_fl.out;have h_HE_tm:=HE_tm.out;exact ⟨by omega,by omega,by omega,by omega,by omega,by omega,by omega,by omega,fun q q2=>by omega,fun _=>h_HE_fl,fun q=>absurd rfl q,fun _=>by rw [h_HE_tm];rfl⟩
           · (have s_tm:(str tm).toList.isEmpty=false:=by rw [str_isE];cases tm with | nil=>exact absurd rfl hx | cons _ _=>rfl);clear hx;go_enter Try.func67,Try.ntmps67;(go_upto_region 14 with fail);simp only [nK,nI,nJ];(go_wp2_with fail);(try go_ret);rw [← HR.out];exact ⟨_,rfl,fun q=>absurd q (by decide),HB.out⟩
         · (have s_tn:(tn == 0)=false:=by simpa using hx);go_enter Try.func67,Try.ntmps67;(go_upto_region 14 with fail);simp only [nK,nI,nJ];(go_wp2_with fail);(try go_ret);rw [← HR.out];exact ⟨_,rfl,fun q=>absurd q (by decide),HB.out⟩
       · (have s_tk:(tk == 0)=false:=by simpa using hx);go_enter Try.func67,Try.ntmps67;(go_upto_region 14 with fail);simp only [nK,nI,nJ];(go_wp2_with fail);(try go_ret);rw [← HR.out];exact ⟨_,rfl,fun q=>absurd q (by decide),HB.out⟩
     · (have s_fl:(str fl).toList.isEmpty=false:=by rw [str_isE];cases fl with | nil=>exact absurd rfl hx | cons _ _=>rfl);clear hx;go_enter Try.func67,Try.ntmps67;(go_upto_region 14 with fail);simp only [nK,nI,nJ];(go_wp2_with fail);(try go_ret);rw [← HR.out];exact ⟨_,rfl,fun q=>absurd q (by decide),HB.out⟩
   · (have s_en:((en:Int) == 0)=false:=by rw [beq_eq_false_iff_ne];omega);(have s2_en:¬ (en:Int)=0:=by omega);go_enter Try.func67,Try.ntmps67;(go_upto_region 14 with fail);simp only [nK,nI,nJ];(go_wp2_with fail);(try go_ret);rw [← HR.out];exact ⟨_,rfl,fun q=>absurd q (by decide),HB.out⟩
 · (have s_bn:((bn:Int) == 0)=false:=by rw [beq_eq_false_iff_ne];omega);(have s2_bn:¬ (bn:Int)=0:=by omega);go_enter Try.func67,Try.ntmps67;(go_upto_region 14 with fail);simp only [nK,nI,nJ];(go_wp2_with fail);(try go_ret);rw [← HR.out];exact ⟨_,rfl,fun q=>absurd q (by decide),HB.out⟩
end Go.Proofs.Ytflhcdcifilfcaa

namespace Go.Proofs.Ytflhcdcifilfcaa
open Go.ChangeShapes Go.WideShapes Go.ChangeAt Go.Deep
open Go Go.RowKit
set_option maxRecDepth 100000 in
set_option maxHeartbeats 16000000 in
theorem fits_6 (w:World) (kd ln:Int) (nm fl cl:List UInt8) (tk tn:Int) (tm:List UInt8) (kA bA eA:Option Addr) (kn kc bn bc en ec:Nat) (hk:kd=6) :
 Calls Try.prog 67 #[.agg (fitV kd ln nm fl cl tk tn tm kA bA eA kn kc bn bc en ec).toArray] w (FitR kd kn bn en nm fl cl ⟨tk,tn,tm⟩ w):=by
 obtain ⟨X,hX⟩:∃ X,w.alloc (.cells (fitV kd ln nm fl cl tk tn tm kA bA eA kn kc bn bc en ec).toArray 51)=X:=⟨_,rfl⟩;have hb:=below_lnew w (.cells (fitV kd ln nm fl cl tk tn tm kA bA eA kn kc bn bc en ec).toArray 51);have hc:CAt X w.heap.size 51 (fitV kd ln nm fl cl tk tn tm kA bA eA kn kc bn bc en ec):=by
  rw [← hX];exact heap_alloc_new w _
 rw [hX] at hb;have HB:=h_ hb;obtain ⟨R,hR⟩:∃ R,FitR kd kn bn en nm fl cl ⟨tk,tn,tm⟩ w=R:=⟨_,rfl⟩;rw [hR];have HR:=h_ hR;unfold fitV at hX hc ⊢;have c0:=hc.cell (j:=0) (by simp);have c2:=hc.cell (j:=2) (by simp);have c3:=hc.cell (j:=3) (by simp);have c4:=hc.cell (j:=4) (by simp);have c5:=hc.cell (j:=5) (by simp);have c6:=hc.cell (j:=6) (by simp);have c7:=hc.cell (j:=7) (by simp);have c8:=hc.cell (j:=8) (by simp);have c9:=hc.cell (j:=9) (by simp);have c10:=hc.cell (j:=10) (by simp);simp only [nD,nE] at c0 c2 c3 c4 c5 c6 c7 c8 c9 c10;obtain ⟨gb,hgb⟩:∃ gb,w.heap.size=gb:=⟨_,rfl⟩;rw [hgb] at c0 c2 c3 c4 c5 c6 c7 c8 c9 c10;clear hc hb hR;subst hk;by_cases hx:kn=1
 · subst hx;by_cases hx:nm=[]
   · (have s_nm:(str nm).toList.isEmpty=true:=by rw [str_isE,hx];rfl);have HE_nm:=h_ hx;clear hx;by_cases hx:fl=[]
     · (have s_fl:(str fl).toList.isEmpty=true:=by rw [str_isE,hx];rfl);have HE_fl:=h_ hx;clear hx;by_cases hx:cl=[]
       · (have s_cl:(str cl).toList.isEmpty=true:=by rw [str_isE,hx];rfl);have HE_cl:=h_ hx;clear hx;by_cases hx:tk=0
         · subst hx;by_cases hx:tn=0
           · subst hx;by_cases hx:tm=[]
             · (have s_tm:(str tm).toList.isEmpty=true:=by rw [str_isE,hx];rfl);have HE_tm:=h_ hx;clear hx;go_enter Try.func67,Try.ntmps67;(go_upto_region 14 with fail);simp only [nK,nI,nJ];(go_wp2_with fail);(try go_ret);rw [← HR.out];refine ⟨_,rfl,fun _=>?_,HB.out⟩;have h_HE_nm:=HE_nm.out;have h_HE_fl:=HE_fl.out;have h_HE_cl:=HE_cl.out;have h_HE_tm:=HE_tm.out;exact ⟨by omega,by omega,by omega,by omega,by omega,by omega,by omega,by omega,fun _ _=>h_HE_nm,fun _=>h_HE_fl,fun _=>h_HE_cl,fun _=>by rw [h_HE_tm];rfl⟩
             · (have s_tm:(str tm).toList.isEmpty=false:=by rw [str_isE];cases tm with | nil=>exact absurd rfl hx | cons _ _=>rfl);clear hx;go_enter Try.func67,Try.ntmps67;(go_upto_region 14 with fail);simp only [nK,nI,nJ];(go_wp2_with fail);(try go_ret);rw [← HR.out];exact ⟨_,rfl,fun q=>absurd q (by decide),HB.out⟩
           · (have s_tn:(tn == 0)=false:=by simpa using hx);go_enter Try.func67,Try.ntmps67;(go_upto_region 14 with fail);simp only [nK,nI,nJ];(go_wp2_with fail);(try go_ret);rw [← HR.out];exact ⟨_,rfl,fun q=>absurd q (by decide),HB.out⟩
         · (have s_tk:(tk == 0)=false:=by simpa using hx);go_enter Try.func67,Try.ntmps67;(go_upto_region 14 with fail);simp only [nK,nI,nJ];(go_wp2_with fail);(try go_ret);rw [← HR.out];exact ⟨_,rfl,fun q=>absurd q (by decide),HB.out⟩
       · (have s_cl:(str cl).toList.isEmpty=false:=by rw [str_isE];cases cl with | nil=>exact absurd rfl hx | cons _ _=>rfl);clear hx;go_enter Try.func67,Try.ntmps67;(go_upto_region 14 with fail);simp only [nK,nI,nJ];(go_wp2_with fail);(try go_ret);rw [← HR.out];exact ⟨_,rfl,fun q=>absurd q (by decide),HB.out⟩
     · (have s_fl:(str fl).toList.isEmpty=false:=by rw [str_isE];cases fl with | nil=>exact absurd rfl hx | cons _ _=>rfl);clear hx;go_enter Try.func67,Try.ntmps67;(go_upto_region 14 with fail);simp only [nK,nI,nJ];(go_wp2_with fail);(try go_ret);rw [← HR.out];exact ⟨_,rfl,fun q=>absurd q (by decide),HB.out⟩
   · (have s_nm:(str nm).toList.isEmpty=false:=by rw [str_isE];cases nm with | nil=>exact absurd rfl hx | cons _ _=>rfl);clear hx;go_enter Try.func67,Try.ntmps67;(go_upto_region 14 with fail);simp only [nK,nI,nJ];(go_wp2_with fail);(try go_ret);rw [← HR.out];exact ⟨_,rfl,fun q=>absurd q (by decide),HB.out⟩
 · (have s_kn:((kn:Int) == 1)=false:=by rw [beq_eq_false_iff_ne];omega);(have s2_kn:¬ (kn:Int)=1:=by omega);go_enter Try.func67,Try.ntmps67;(go_upto_region 14 with fail);simp only [nK,nI,nJ];(go_wp2_with fail);(try go_ret);rw [← HR.out];exact ⟨_,rfl,fun q=>absurd q (by decide),HB.out⟩
end Go.Proofs.Ytflhcdcifilfcaa
