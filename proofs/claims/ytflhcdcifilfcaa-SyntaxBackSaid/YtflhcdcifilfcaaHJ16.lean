/-
  Merged for a claim: S3K, KS, S1H, S3L, SNB, S1I.
-/
import Derived.Test.YtflhcdcifilfcaaHJ15
import Derived.Test.YtflhcdcifilfcaaHJ6
import Derived.Defers
import Derived.Recover
import Derived.Laws.Pointers
import Derived.Test.YtflhcdcifilfcaaHJ14
namespace Go.Proofs.Ytflhcdcifilfcaa
open Go.ChangeShapes Go.WideShapes Go.ChangeAt Go.Deep
open Go Go.RowKit

theorem exsD_le {l:List Ex} {m:Nat} (h:∀ x∈l,x.dp≤m):exsD l≤m:=by
 induction l with
 | nil=>rw [exsD];omega
 | cons x l ih=>
  rw [exsD];have h1:=h x (by simp);have h2:=ih fun y hy=>h y (List.mem_cons_of_mem _ hy)
  omega
end Go.Proofs.Ytflhcdcifilfcaa

namespace Go.Proofs.Ytflhcdcifilfcaa
open Go

section
variable {P:Program} {fn:Func} {p u v:Tmp} {ty:TypeId}
theorem run_loadVar_int {k:IntKind} {t:TypeId} (hu:P.underlying t=some (.int k)) {w:World} {a:Addr} {x:Value} (hc:w.cell? a=some x):(loadVar t a).run P w = .ok x w:=by
 have hagg:(isAgg t).run P w = .ok false w:=by
  unfold isAgg;rw [Sem.run_bind,run_underlying hu w];rfl
 simp [loadVar,Sem.run_bind,hagg,run_load,hc]
theorem res_row_cell2 {t1 t2:TypeId} {k1 k2:IntKind} (h:fn.results=#[.cell p ty,.cell u t1,.cell v t2]) (tmps:Array Value) (w:World) (g g1 g2:Nat) (t:TypeId) (cs:Array Value) (fr:Nat×Nat) (d:TypeDesc) (x1 x2:Value)
 (hp:tmps.getD p undef = .pointer (some ⟨g,0,none⟩)) (hp1:tmps.getD u undef = .pointer (some ⟨g1,0,none⟩)) (hp2:tmps.getD v undef = .pointer (some ⟨g2,0,none⟩)) (hg:w.heap[g]? = some (.cells cs t fr))
 (hu:P.underlying ty=some d) (hd:(match d with | .struct _ | .array _ _=>true | _=>false)=true) (hi:(P.info? ty).map (·.size)=some cs.size)
 (h1:P.underlying t1=some (.int k1)) (h2:P.underlying t2=some (.int k2)) (c1:w.cell? ⟨g1,0,none⟩=some x1) (c2:w.cell? ⟨g2,0,none⟩=some x2) :
 (results fn tmps).run P w = .ok (.tuple #[.agg cs,x1,x2]) w:=by
 have hp':tmps[p]?.getD undef = .pointer (some ⟨g,0,none⟩):=by simpa using hp
 have hp1':tmps[u]?.getD undef = .pointer (some ⟨g1,0,none⟩):=by simpa using hp1
 have hp2':tmps[v]?.getD undef = .pointer (some ⟨g2,0,none⟩):=by simpa using hp2
 simp [results,h,hp',hp1',hp2',asAddr,run_loadVar_row w g t ty cs fr d hg hu hd hi,run_loadVar_int h1 c1,run_loadVar_int h2 c2]
end

end Go.Proofs.Ytflhcdcifilfcaa

namespace Go.Proofs.Ytflhcdcifilfcaa
open Go Go.RowKit

theorem dcs_any (l:List DcM):(l.map DcM.d).any (fun d=>decide (40 < stsD d.bd))=l.any fun d=>decide (40 < stsD (xssd d.bd)):=by
 rw [List.any_map];rfl
set_option maxRecDepth 100000 in
set_option maxHeartbeats 4000000 in
theorem deep_any (P:Nat→Prop) (m:PgM) (W:World) (hO:m.Ok W P) (hF:m.d.few) :
 Calls Try.prog 18 #[.agg m.cs.toArray] W (fun e w'=>e = .returned (.bool (deepP m.d))∧Below W.heap.size W w'):=by
 obtain ⟨A1,c1,ss,A2,c2,ks⟩:=m;obtain ⟨hR1,hR,hS,hD⟩:=hO;obtain ⟨hf1,hf2,hf3⟩:=hF;have hks:ks.length≤1000000:=by
  have:=hf1;simp [PgM.d,mostT] at this;omega
 obtain ⟨r,hr⟩:∃ r,deepP (PgM.mk A1 c1 ss A2 c2 ks).d=r:=⟨_,rfl⟩;rw [hr];have HR:=h_ (show r=ks.any fun d=>decide (40 < stsD (xssd d.bd)) by rw [← hr,← dcs_any];rfl);have HRow:=h_ (show RowP eDc W P A2 c2 ks from hR);have HO:=h_ (show ∀ d∈ks,d.Ok W P from hD);have HF:=h_ (show ∀ d∈ks,d.d.few from fun d q=>hf3 d.d (List.mem_map.2 ⟨d,q,rfl⟩));have hb0:=below_lnew W (.cells #[.slice A1 ss.length c1,.slice A2 ks.length c2] 27);have HB0:=h_ hb0;have hnew:=heap_alloc_new W (.cells #[.slice A1 ss.length c1,.slice A2 ks.length c2] 27);clear hr hR1 hR hS hD hf1 hf2 hf3 hb0;unfold PgM.cs;dsimp only;go_enter Try.func18,Try.ntmps18;go_wp2_with fail
 obtain ⟨W1,hW1⟩:∃ W1,W.alloc (.cells #[.slice A1 ss.length c1,.slice A2 ks.length c2] 27)=W1:=⟨_,rfl⟩;rw [hW1] at HB0 ⊢;clear hW1 hnew
 go_loopw [8] (fun i wr=>∃ k:Nat,k≤ks.length∧i = .int .i64 k∧Hid (∀ j (hj:j < ks.length),j < k→decide (40 < stsD (xssd ks[j].bd))=false)∧Hid (Below W.heap.size W wr)) (fun i _=>ks.length - (intOf i).toNat)
 case atStart=>exact ⟨0,by omega,rfl,fun j _ h=>absurd h (by omega),HB0.out⟩
 case round=>
  obtain ⟨k,hk,rfl,hno,hB⟩:=hrel;clear HB0;by_cases hlt:k < ks.length
  · have hRw:=HRow.out.keep (w':=wr) (Q:=P) (fun g _ ht=>hB.out.block g ht.lt) (fun _ q=>q);obtain ⟨g,o,rfl,hg,hcell⟩:=hRw.1.lies.at_ hlt;have hko:=HO.out _ (List.getElem_mem hlt);have hfe:=(HF.out _ (List.getElem_mem hlt)).2
    have HK:=h_ (show ∀ b,decide (40 < stsD (xssd ks[k].bd))=b→(b=true→r=true)∧(b=false→∀ j (hj:j < ks.length),j < k+1→decide (40 < stsD (xssd ks[j].bd))=false) from fun b hb=>⟨fun e=>by rw [HR.out];exact any_at _ hlt (hb.trans e),fun e j hj hjk=>by
     by_cases hjk2:j < k
     · exact hno.out j hj hjk2
     · obtain rfl:j=k:=by omega
       exact hb.trans e⟩)
    generalize ks[k]=t at *;obtain ⟨nm,ln,pA,pc,ps,⟨tk,tn,tm⟩,bA,bc,bd⟩:=t;have d0:=hcell 0 _ rfl;have d1:=hcell 1 _ rfl;have d2:=hcell 2 _ rfl;have d3:=hcell 3 _ rfl;have d4:=hcell 4 _ rfl;have d5:=hcell 5 _ rfl;have d6:=hcell 6 _ rfl;simp only [Nat.add_zero,show eDc.sz=7 from rfl] at d0 d1 d2 d3 d4 d5 d6;have hbb:=below_lnew wr (.cells #[.string (str nm),.int .i64 ln,.slice pA ps.length pc,.int .u8 tk,.int .i64 tn,.string (str tm),.slice bA bd.length bc] 48);have hBB:=hB.out.trans (hbb.mono hB.out.size)
    have HC:=h_ (deepList_any P 40 bA bc bd (wr.alloc (.cells #[.string (str nm),.int .i64 ln,.slice pA ps.length pc,.int .u8 tk,.int .i64 tn,.string (str tm),.slice bA bd.length bc] 48)) (Nat.le_refl _)
     (RowP.keep hko.2.1 (fun g _ ht=>hBB.block g ht.lt) (fun _ q=>q)) (xssOk.keep (fun g _ ht=>hBB.block g ht.lt) (fun g _ ht=>hBB.block g ht.lt) (fun _ q=>q) _ hko.2.2) hfe)
    have HBB:=h_ hBB;have hnew:=heap_alloc_new wr (.cells #[.string (str nm),.int .i64 ln,.slice pA ps.length pc,.int .u8 tk,.int .i64 tn,.string (str tm),.slice bA bd.length bc] 48);clear hcell hko hfe hno hbb hRw hBB HRow HO HF;dsimp only at HK;generalize decide (40 < stsD (xssd bd))=b at *;have HK2:=h_ (HK.out b rfl);clear HK;(go_wp2_with fail);refine HC.out.mono ?_;rintro e w2 ⟨rfl,hb2⟩;have HB2:=h_ (HBB.out.trans (hb2.mono HBB.out.size));clear hb2 HC hnew;cases b
    · have HN:=h_ (HK2.out.2 rfl);go_wp2_with fail
      go_roundw
      (case rel=>exact ⟨k+1,by omega,by go_num,HN,HB2⟩);case measure=>simp [intOf];omega
    · have hT:=HK2.out.1 rfl;(go_wp2_with fail);go_ret;exact ⟨by rw [hT];rfl,HB2.out⟩
  · (obtain rfl:k=ks.length:=by omega);have hT:r=false:=by
     rw [HR.out];exact any_take _ ks ks.length (fun j hj hjk=>hno.out j hj hjk) (Nat.le_refl _)
    (go_wp2_with fail);go_ret;exact ⟨by rw [hT];rfl,hB.out⟩
set_option maxRecDepth 100000 in
theorem catchP_thrown (gp gx ga ge:Nat) (x0 x1 x2 x3 y0:Value) (k:Int) (w:World) (hp:CAt w gp 57 [y0,.int .i64 k]) (hx:CAt w gx 27 [x0,x1]) (ha:CAt w ga 3 [x2]) (he:CAt w ge 28 [x3]) :
 CallsD Try.prog 16 #[.pointer (some ⟨gp,0,none⟩),.pointer (some ⟨gx,0,none⟩),.pointer (some ⟨ga,0,none⟩),.pointer (some ⟨ge,0,none⟩)] (.panicking misC) w fun e u' w'=>
  e = .returned (.tuple #[])∧u' = .panicking [{ v:= .iface 59 (.agg #[]),recovered:=true }]∧w'=(((((w.alloc (.cells #[] 59)).setCell ⟨gx,0,none⟩ (.slice none 0 0)).setCell ⟨gx,1,none⟩ (.slice none 0 0)).setCell ⟨ga,0,none⟩ (.int .i64 k)).setCell ⟨ge,0,none⟩ (.int .i64 7)):=by
 unfold misC;have hta:∀ w:World,(Instr.typeAssert (.iface 59 (.agg #[])) 20 59 true).run Try.prog w = .ok (.tuple #[.agg #[],.bool true]) w:=fun w=>by kernel_rfl
 have hb:=below_lnew w (.cells #[] 59);have hp1:=(hp.below hb hp.lt).cell (j:=1) (by simp);have hx0:=(hx.below hb hx.lt).cell (j:=0) (by simp);have hx1:=(hx.below hb hx.lt).cell (j:=1) (by simp);have ha0:=(ha.below hb ha.lt).cell (j:=0) (by simp);have he0:=(he.below hb he.lt).cell (j:=0) (by simp);have fx0:=(hx.below hb hx.lt).frozen 0;have fx1:=(hx.below hb hx.lt).frozen 1;have fa0:=(ha.below hb ha.lt).frozen 0;have fe0:=(he.below hb he.lt).frozen 0;simp only [nD,nE] at hp1 hx0 hx1 ha0 he0;refine callsD_of_wpS Try.func16 rfl fun c₀ cs hu=>?_
 apply wpS_seq;apply wpS_region;simp [wpOpsS,go_sem,recoverD,hu,Try.ntmps16,Exit.thenS,hta];apply wpS_seq;apply wpS_region;simp [wpOpsS,go_sem,Exit.thenS];refine wpS_cond (t:=true) (by simp [Act.eval,Array.replicate]) ?_;simp only [if_true];refine wpS_of_wp ?_;have h1:gx≠ga:=fun e=>by subst e;exact absurd (HasT.one ⟨_,_,hx⟩ ⟨_,_,ha⟩) (by decide)
 have h2:gx≠ge:=fun e=>by subst e;exact absurd (HasT.one ⟨_,_,hx⟩ ⟨_,_,he⟩) (by decide)
 have h3:ga≠ge:=fun e=>by subst e;exact absurd (HasT.one ⟨_,_,ha⟩ ⟨_,_,he⟩) (by decide)
 clear hp hx ha he hb;simp only [Array.replicate];generalize w.alloc (.cells #[] 59)=w1 at *;go_wp2_with fail
 cases c₀
 simp_all [bodyPostS,results,Try.results16]
theorem catchP_idle (p0 p1 p2 p3:Value) (w:World) :
 CallsD Try.prog 16 #[p0,p1,p2,p3] .returning w fun e u' w'=>e = .returned (.tuple #[])∧u' = .returning∧w'=w.alloc (.cells #[] 59):=by
 have hta:∀ w:World,(Instr.typeAssert .nilIface 20 59 true).run Try.prog w = .ok (.tuple #[.agg #[],.bool false]) w:=fun w=>by kernel_rfl
 refine callsD_of_wpS Try.func16 rfl fun c₀ cs hu=>?_
 apply wpS_seq;apply wpS_region;simp [wpOpsS,go_sem,recoverD,hu,Try.ntmps16,Exit.thenS,hta];apply wpS_seq;apply wpS_region;simp [wpOpsS,go_sem,Exit.thenS];refine wpS_cond (t:=false) (by simp [Act.eval,Array.replicate]) ?_;simp only [Bool.false_eq_true,if_false];refine wpS_of_wp (wp_skip ?_);cases c₀
 simp_all [bodyPostS,results,Try.results16]
end Go.Proofs.Ytflhcdcifilfcaa

namespace Go.Proofs.Ytflhcdcifilfcaa
open Go Go.RowKit

end Go.Proofs.Ytflhcdcifilfcaa

namespace Go.Proofs.Ytflhcdcifilfcaa
open Go

def No {α:Type} (f:List To→R α):Prop:=∀ x v,f [] ≠ .ok x v
section
variable {α β:Type} {f f' g g':List To→R α}
end
theorem parP_bad {l u:List To} (h:proP l = .bad u):parP l=(⟨[],[]⟩,(l.length:Int) - u.length,7):=by
 unfold parP;rw [h]
theorem parP_ok {l:List To} {x:Pg} (h:proP l = .ok x []):parP l=if deepP x=true then (⟨[],[]⟩,0,11) else (x,0,0):=by
 unfold parP;rw [h]
end Go.Proofs.Ytflhcdcifilfcaa

namespace Go.Proofs.Ytflhcdcifilfcaa
open Go Go.RowKit

def PaR (w:World) (r:Pg×Int×Int) (e:Ending) (w':World):Prop:=
 ∃ m:PgM,e = .returned (.tuple #[.agg m.cs.toArray,.int .i64 r.2.1,.int .i64 r.2.2])∧m.d=r.1∧m.Ok w' (fun g=>w.heap.size≤g)∧Below w.heap.size w w'
def pgZ:PgM:=⟨none,0,[],none,0,[]⟩
theorem pgZ_ok (w:World) (P:Nat→Prop):pgZ.Ok w P:=
 ⟨⟨fun h=>absurd h (by simp [pgZ]),Nat.le_refl _,fun _=>rfl,fun h=>absurd h (by simp [pgZ])⟩,⟨fun h=>absurd h (by simp [pgZ]),Nat.le_refl _,fun _=>rfl,fun h=>absurd h (by simp [pgZ])⟩,fun _ q=>absurd q (by simp [pgZ]),fun _ q=>absurd q (by simp [pgZ])⟩
theorem PgM.Ok.keep {W Z:World} {P Q:Nat→Prop} {m:PgM} (h:m.Ok W P) (hk:∀ g e,P g→HasT W g e→e∈[9,75,53,51,69,48]→Z.heap[g]? = W.heap[g]?) (hm:∀ g,P g→Q g):m.Ok Z Q:=
 ⟨h.1.keep (fun g q ht=>hk g _ q ht (by decide)) hm,h.2.1.keep (fun g q ht=>hk g _ q ht (by decide)) hm,fun s q=>(h.2.2.1 s q).keep (fun g q ht=>hk g _ q ht (by decide)) hm,
  fun d q=>(h.2.2.2 d q).keep (fun g q ht=>hk g _ q ht (by decide)) (fun g q ht=>hk g _ q ht (by decide)) (fun g q ht=>hk g _ q ht (by decide)) hm⟩
structure PaV (w:World) (x0 x1 x2 x3:Value) (W:World):Prop where
 x:CAt W w.heap.size 27 [x0,x1]
 a:CAt W (w.heap.size+1) 3 [x2]
 e:CAt W (w.heap.size+1+1) 28 [x3]
 b:Below w.heap.size w W
section
variable {w W Z:World} {x0 x1 x2 x3 y:Value}
theorem PaV.below (h:PaV w x0 x1 x2 x3 W) (hb:Below W.heap.size W Z):PaV w x0 x1 x2 x3 Z:=⟨h.x.below hb h.x.lt,h.a.below hb h.a.lt,h.e.below hb h.e.lt,h.b.trans (hb.mono h.b.size)⟩
theorem PaV.grown (h:PaV w x0 x1 x2 x3 W) (hg:W.grownBy Z (some (w.heap.size+1+1+1))):PaV w x0 x1 x2 x3 Z:=
 ⟨(hg.block _ h.x.lt (fun e=>by injection e with e;omega)).trans h.x,(hg.block _ h.a.lt (fun e=>by injection e with e;omega)).trans h.a,(hg.block _ h.e.lt (fun e=>by injection e with e;omega)).trans h.e,h.b.grown hg h.b.size (fun k e=>by injection e with e;omega)⟩
theorem PaV.set0 (h:PaV w x0 x1 x2 x3 W) (y:Value):PaV w y x1 x2 x3 (W.setCell ⟨w.heap.size,0,none⟩ y):=
 ⟨h.x.set 0 y,h.a.other (p:=⟨w.heap.size,0,none⟩) (by simp) y,h.e.other (p:=⟨w.heap.size,0,none⟩) (by simp;omega) y,h.b.setCell (p:=⟨w.heap.size,0,none⟩) (Nat.le_refl _) y⟩
theorem PaV.set1 (h:PaV w x0 x1 x2 x3 W) (y:Value):PaV w x0 y x2 x3 (W.setCell ⟨w.heap.size,1,none⟩ y):=
 ⟨h.x.set 1 y,h.a.other (p:=⟨w.heap.size,1,none⟩) (by simp) y,h.e.other (p:=⟨w.heap.size,1,none⟩) (by simp;omega) y,h.b.setCell (p:=⟨w.heap.size,1,none⟩) (Nat.le_refl _) y⟩
theorem PaV.set2 (h:PaV w x0 x1 x2 x3 W) (y:Value):PaV w x0 x1 y x3 (W.setCell ⟨w.heap.size+1,0,none⟩ y):=
 ⟨h.x.other (p:=⟨w.heap.size+1,0,none⟩) (by simp) y,h.a.set 0 y,h.e.other (p:=⟨w.heap.size+1,0,none⟩) (by simp) y,h.b.setCell (p:=⟨w.heap.size+1,0,none⟩) (by simp) y⟩
theorem PaV.set3 (h:PaV w x0 x1 x2 x3 W) (y:Value):PaV w x0 x1 x2 y (W.setCell ⟨w.heap.size+1+1,0,none⟩ y):=
 ⟨h.x.other (p:=⟨w.heap.size+1+1,0,none⟩) (by simp;omega) y,h.a.other (p:=⟨w.heap.size+1+1,0,none⟩) (by simp) y,h.e.set 0 y,h.b.setCell (p:=⟨w.heap.size+1+1,0,none⟩) (by simp;omega) y⟩
theorem PaV.fr (h:PaV w x0 x1 x2 x3 W) {g j:Nat} {e:TypeId} (hg:g=w.heap.size∨g=w.heap.size+1∨g=w.heap.size+1+1) (y:Value) {k:Nat} (hk:HasT W k e) (he:e∈[9,75,53,51,69,48]):(W.setCell ⟨g,j,none⟩ y).heap[k]? = W.heap[k]? := by
 refine Below.heap_setCell W ⟨g,j,none⟩ y k fun q=>?_
 subst q;rcases hg with rfl | rfl | rfl
 · have:=hk.one ⟨_,_,h.x⟩;subst this;revert he;decide
 · have:=hk.one ⟨_,_,h.a⟩;subst this;revert he;decide
 · have:=hk.one ⟨_,_,h.e⟩;subst this;revert he;decide
theorem pa_results {tmps:Array Value} {fn:Func} (hf:fn.results=#[.cell 2 27,.cell 3 3,.cell 4 28]) (h:PaV w x0 x1 x2 x3 W) (h2:tmps.getD 2 undef = .pointer (some ⟨w.heap.size,0,none⟩)) (h3:tmps.getD 3 undef = .pointer (some ⟨w.heap.size+1,0,none⟩)) (h4:tmps.getD 4 undef = .pointer (some ⟨w.heap.size+1+1,0,none⟩)) :
 (results fn tmps).run Try.prog W = .ok (.tuple #[.agg #[x0,x1],x2,x3]) W:=by
 have a0:=h.a.cell (j:=0) (by simp);have e0:=h.e.cell (j:=0) (by simp);simp only [nD] at a0 e0;exact res_row_cell2 hf tmps W _ _ _ _ _ _ _ _ _ h2 h3 h4 h.x Try.underlying27 rfl pg_size Try.underlying3 Try.underlying28 a0 e0
theorem pa_new (l:List To) (A:Option Addr) (c:Nat) (hT:eTo.Lies w w.heap.size A l) (hn:l.length≤1000000) :
 PaV w (.slice none 0 0) (.slice none 0 0) (.int .i64 0) (.int .i64 0) ((((w.alloc (.cells #[.slice none 0 0,.slice none 0 0] 27)).alloc (.cells #[.int .i64 0] 3)).alloc (.cells #[.int .i64 0] 28)).alloc (.cells #[.slice A l.length c,.int .i64 0] 57))
 ∧ Ps ((((w.alloc (.cells #[.slice none 0 0,.slice none 0 0] 27)).alloc (.cells #[.int .i64 0] 3)).alloc (.cells #[.int .i64 0] 28)).alloc (.cells #[.slice A l.length c,.int .i64 0] 57)) (w.heap.size+1+1+1) A c l l:=by
 have hb:=below_al4 w (.cells #[.slice none 0 0,.slice none 0 0] 27) (.cells #[.int .i64 0] 3) (.cells #[.int .i64 0] 28) (.cells #[.slice A l.length c,.int .i64 0] 57);refine ⟨⟨at_al1 _ _ _ _ _,?_,at_al3 _ _ _ _ _,hb⟩,⟨0,Nat.zero_le _,by simp,new_at _ _ (by simp) _⟩,fun hl=>?_,hn⟩
 · exact ((below_al2 ((w.alloc (.cells #[.slice none 0 0,.slice none 0 0] 27)).alloc (.cells #[.int .i64 0] 3)) _ _).block (w.heap.size+1) (by simp)).trans (new_at _ _ (by simp) _)
 · obtain ⟨g,o,e,hg,hc⟩:=hT hl;exact ⟨g,o,e,by omega,fun j hj f u hu=>(hb.cell (p:=⟨g,_,none⟩) hg).trans (hc j hj f u hu)⟩
theorem panic_end {r:Pg×Int×Int} {l u:List To} {A:Option Addr} {c:Nat} {t:Array Value} (hV:PaV w x0 x1 x2 x3 W) (hP:Ps W (w.heap.size+1+1+1) A c l u) (hr:r=(⟨[],[]⟩,(l.length:Int) - u.length,7))
 (h2:t.getD 2 undef = .pointer (some ⟨w.heap.size,0,none⟩)) (h3:t.getD 3 undef = .pointer (some ⟨w.heap.size+1,0,none⟩)) (h4:t.getD 4 undef = .pointer (some ⟨w.heap.size+1+1,0,none⟩)) :
 bodyPostD Try.prog Try.f7 (PaR w r) (Exit.panic misC) { tmps:=t,defers:=[{ target:=Target.fn (Fn.func 16) #[.pointer (some ⟨w.heap.size+1+1+1,0,none⟩),.pointer (some ⟨w.heap.size,0,none⟩),.pointer (some ⟨w.heap.size+1,0,none⟩),.pointer (some ⟨w.heap.size+1+1,0,none⟩)],args:=#[] }] } W:=by
 subst hr;obtain ⟨k,hk,hu,hc⟩:=hP.k;have hul:(k:Int)=(l.length:Int) - u.length:=by rw [hu,List.length_drop];omega
 refine leaves_cons (f:=16) (args:=#[.pointer (some ⟨w.heap.size+1+1+1,0,none⟩),.pointer (some ⟨w.heap.size,0,none⟩),.pointer (some ⟨w.heap.size+1,0,none⟩),.pointer (some ⟨w.heap.size+1+1,0,none⟩)]) (by simp) (by simp [go_sem]) ?_;refine (catchP_thrown _ _ _ _ _ _ _ _ _ k W hc hV.x hV.a hV.e).mono ?_;rintro e u' w'' ⟨rfl,rfl,rfl⟩;have hV2:=((((hV.below (below_lnew W (.cells #[] 59))).set0 (.slice none 0 0)).set1 (.slice none 0 0)).set2 (.int .i64 k)).set3 (.int .i64 7);refine ⟨_,pa_results (by rfl) hV2 h2 h3 h4,pgZ,?_,rfl,pgZ_ok _ _,hV2.b⟩;rw [hul];rfl
theorem return_end {r:Pg×Int×Int} {m:PgM} {t:Array Value} {a b:Int} (hV:PaV w (.slice m.A1 m.ss.length m.c1) (.slice m.A2 m.fs.length m.c2) (.int .i64 a) (.int .i64 b) W) (hO:m.Ok W (fun g=>w.heap.size≤g)) (hr:r=(m.d,a,b))
 (h2:t.getD 2 undef = .pointer (some ⟨w.heap.size,0,none⟩)) (h3:t.getD 3 undef = .pointer (some ⟨w.heap.size+1,0,none⟩)) (h4:t.getD 4 undef = .pointer (some ⟨w.heap.size+1+1,0,none⟩)) (p0 p1 p2 p3:Value) :
 bodyPostD Try.prog Try.f7 (PaR w r) Exit.ret { tmps:=t,defers:=[{ target:=Target.fn (Fn.func 16) #[p0,p1,p2,p3],args:=#[] }] } W:=by
 subst hr;refine leaves_cons (f:=16) (args:=#[p0,p1,p2,p3]) (by simp) (by simp [go_sem]) ?_;refine (catchP_idle p0 p1 p2 p3 W).mono ?_;rintro e u' w'' ⟨rfl,rfl,rfl⟩;have hb:=below_lnew W (.cells #[] 59);have hV2:=hV.below hb;exact ⟨_,pa_results (by rfl) hV2 h2 h3 h4,m,rfl,rfl,hO.keep (fun g _ _ ht _=>hb.block g ht.lt) (fun _ q=>q),hV2.b⟩
set_option maxRecDepth 100000 in
set_option maxHeartbeats 8000000 in
theorem parse_any (A:Option Addr) (c:Nat) (l:List To) (hT:eTo.Lies w w.heap.size A l) (hn:l.length≤1000000) :
 Calls Try.prog 7 #[.slice A l.length c] w (PaR w (parP l)):=by
 obtain ⟨r,hr⟩:∃ r,parP l=r:=⟨_,rfl⟩;rw [hr];have HR:=h_ hr.symm;obtain ⟨hV,hP⟩:=pa_new l A c hT hn;have HV:=h_ hV;have HP:=h_ hP;have HC:=h_ (program_any hP);have hmf:∀ (fn:Fn) (first cap:Array Value) (w:World),(Instr.makeFunc fn first cap).run Try.prog w = .ok (.func fn first cap) w:=fun _ _ _ _=>rfl
 clear hr hV hP hT
 go_enter_defers Try.func7,Try.ntmps7
 go_wp2_with fail
 refine HC.out.mono ?_;rintro e w1 h1;change PrR _ _ _ _ _ (proP l) e w1 at h1;rcases hp:proP l with ⟨p,z⟩ | z | _
 · rw [hp] at h1;obtain ⟨m,rfl,hd,ho,hps,hg⟩:=h1;have hz:=proP_end hp;subst hz;(have hfew:m.d.few:=by rw [hd];exact proP_few hn hp);have hr2:=HR.out;rw [parP_ok hp,← hd] at hr2;have HR2:=h_ hr2;have HV1:=h_ (HV.out.grown hg);have ho1:m.Ok w1 (fun g=>w.heap.size≤g):=ho.keep (fun _ _ _ _ _=>rfl) (fun g q=>Nat.le_trans HV.out.b.size q);have HV2:=h_ ((HV1.out.set0 (.slice m.A1 m.ss.length m.c1)).set1 (.slice m.A2 m.fs.length m.c2));have ho2:=(ho1.keep (Q:=fun g=>w.heap.size≤g) (fun g _ _ ht he=>HV1.out.fr (j:=0) (.inl rfl) (.slice m.A1 m.ss.length m.c1) ht he) (fun _ q=>q)).keep (Q:=fun g=>w.heap.size≤g) (fun g _ _ ht he=>(HV1.out.set0 (.slice m.A1 m.ss.length m.c1)).fr (j:=1) (.inl rfl) (.slice m.A2 m.fs.length m.c2) ht he) (fun _ q=>q);have HO2:=h_ ho2;have HD:=h_ (deep_any _ m _ ho2 hfew);have x0:=HV1.out.x.cell (j:=0) (by simp);have x1:=HV1.out.x.cell (j:=1) (by simp);have f0:=HV1.out.x.frozen 0;have f1:=HV1.out.x.frozen 1;simp only [nD,nE] at x0 x1;clear ho ho1 ho2 hps hg hr2 hfew HR HC HV HP hp hd;obtain ⟨A1,c1,ss,A2,c2,fs⟩:=m;unfold PgM.cs at HD ⊢;dsimp only at HD HV2 ⊢;(go_wp2_with fail);refine HD.out.mono ?_;rintro e w3 ⟨rfl,hb3⟩;have HV3:=h_ (HV2.out.below hb3);have HO3:=h_ (HO2.out.keep (Q:=fun g=>w.heap.size≤g) (fun g _ _ ht _=>hb3.block g ht.lt) (fun _ q=>q));clear hb3 HD HV2 HO2 x0 x1 f0 f1 HV1;have x0:=HV3.out.x.cell (j:=0) (by simp);have x1:=HV3.out.x.cell (j:=1) (by simp);have f0:=HV3.out.x.frozen 0;have f1:=HV3.out.x.frozen 1;have a0:=HV3.out.a.cell (j:=0) (by simp);have fa:=HV3.out.a.frozen 0;have e0:=HV3.out.e.cell (j:=0) (by simp);have fe:=HV3.out.e.frozen 0;simp only [nD,nE] at x0 x1 a0 e0;cases hdp:deepP (PgM.mk A1 c1 ss A2 c2 fs).d
   · have hr3:=HR2.out;rw [hdp,if_neg (by decide)] at hr3;have HR3:=h_ hr3;clear hr3;(go_wp2_with fail);have k1:=HV3.out.set0 (.slice A1 ss.length c1);have k2:=k1.set1 (.slice A2 fs.length c2);have k3:=k2.set2 (.int .i64 0);have k4:=k3.set3 (.int .i64 0);exact return_end (m:=⟨A1,c1,ss,A2,c2,fs⟩) (a:=0) (b:=0) k4 ((((HO3.out.keep (Q:=fun g=>w.heap.size≤g) (fun g _ _ ht he=>HV3.out.fr (j:=0) (.inl rfl) (.slice A1 ss.length c1) ht he) (fun _ q=>q)).keep (Q:=fun g=>w.heap.size≤g) (fun g _ _ ht he=>k1.fr (j:=1) (.inl rfl) (.slice A2 fs.length c2) ht he) (fun _ q=>q)).keep (Q:=fun g=>w.heap.size≤g) (fun g _ _ ht he=>k2.fr (j:=0) (.inr (.inl rfl)) (.int .i64 0) ht he) (fun _ q=>q)).keep (Q:=fun g=>w.heap.size≤g) (fun g _ _ ht he=>k3.fr (j:=0) (.inr (.inr rfl)) (.int .i64 0) ht he) (fun _ q=>q)) HR3.out rfl rfl rfl _ _ _ _
   · have hr3:=HR2.out;rw [hdp,if_pos rfl] at hr3;have HR3:=h_ hr3;clear hr3;(go_wp2_with fail);have k4:=(((HV3.out.set0 (.slice none 0 0)).set1 (.slice none 0 0)).set2 (.int .i64 0)).set3 (.int .i64 11);exact return_end (m:=pgZ) (a:=0) (b:=11) k4 (pgZ_ok _ _) HR3.out rfl rfl rfl _ _ _ _
 · rw [hp] at h1;obtain ⟨rfl,hps,hg⟩:=h1;exact panic_end (HV.out.grown hg) hps (by rw [HR.out,parP_bad hp]) rfl rfl rfl
 · exact absurd hp (proP_out l)
end
end Go.Proofs.Ytflhcdcifilfcaa
