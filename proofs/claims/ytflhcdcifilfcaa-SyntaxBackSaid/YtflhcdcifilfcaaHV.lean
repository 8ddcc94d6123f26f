/-
  Merged for a claim: S5S, S5T, S5U, S6F, S6G, S6H, S5V.
-/
import Derived.Test.YtflhcdcifilfcaaHQ1
import Derived.Test.YtflhcdcifilfcaaHQ2
import Derived.Test.YtflhcdcifilfcaaHQ3
import Derived.Test.YtflhcdcifilfcaaHL1
import Derived.Test.YtflhcdcifilfcaaHJ11
import Derived.Test.YtflhcdcifilfcaaHJ17
import Derived.Test.YtflhcdcifilfcaaHJ19
import Derived.SizedLaws
namespace Go.Proofs.Ytflhcdcifilfcaa
open Go Go.RowKit
theorem lstmt_any (B gy:Nat) {m:Nat} (hm:m≤1000000):∀ (t:XS),t.d.rg→LayS B gy m t
 | .mk kd sl nm f cl ty kA kc ks bA bc bd eA ec el,hr=>by
  have hr2:=hr;rw [XS.d,St.rg] at hr2;have hB:LayB B gy m bd:=lblock_any fun t ht=>
   have:SizeOf.sizeOf t < SizeOf.sizeOf (XS.mk kd sl nm f cl ty kA kc ks bA bc bd eA ec el):=by have:=List.sizeOf_lt_of_mem ht;simp;omega
   lstmt_any B gy hm t (stsRg_all hr2.2.2.1 _ (by rw [xssd_map];exact List.mem_map_of_mem ht))
  have hE:LayB B gy m el:=lblock_any fun t ht=>
   have:SizeOf.sizeOf t < SizeOf.sizeOf (XS.mk kd sl nm f cl ty kA kc ks bA bc bd eA ec el):=by have:=List.sizeOf_lt_of_mem ht;simp;omega
   lstmt_any B gy hm t (stsRg_all hr2.2.2.2 _ (by rw [xssd_map];exact List.mem_map_of_mem ht))
  by_cases h1:kd=1
  · exact lstmt_1 B gy hm kd sl nm f cl ty kA kc ks bA bc bd eA ec el hB hE hr h1
  by_cases h2:kd=2
  · exact lstmt_2 B gy hm kd sl nm f cl ty kA kc ks bA bc bd eA ec el hB hE hr h2
  by_cases h3:kd=3
  · exact lstmt_3 B gy hm kd sl nm f cl ty kA kc ks bA bc bd eA ec el hB hE hr h3
  by_cases h4:kd=4
  · exact lstmt_4 B gy hm kd sl nm f cl ty kA kc ks bA bc bd eA ec el hB hE hr h4
  by_cases h5:kd=5
  · exact lstmt_5 B gy hm kd sl nm f cl ty kA kc ks bA bc bd eA ec el hB hE hr h5
  by_cases h6:kd=6
  · exact lstmt_6 B gy hm kd sl nm f cl ty kA kc ks bA bc bd eA ec el hB hE hr h6
  by_cases h7:kd=7
  · exact lstmt_7 B gy hm kd sl nm f cl ty kA kc ks bA bc bd eA ec el hB hE hr h7
  by_cases h8:kd=8
  · exact lstmt_8 B gy hm kd sl nm f cl ty kA kc ks bA bc bd eA ec el hB hE hr h8
  by_cases h9:kd=9
  · exact lstmt_9 B gy hm kd sl nm f cl ty kA kc ks bA bc bd eA ec el hB hE hr h9
  by_cases h10:kd=10
  · exact lstmt_10 B gy hm kd sl nm f cl ty kA kc ks bA bc bd eA ec el hB hE hr h10
  exact lstmt_0 B gy hm kd sl nm f cl ty kA kc ks bA bc bd eA ec el hB hE hr (by omega)
termination_by t=>SizeOf.sizeOf t
theorem lblk_any (B gy:Nat) {m:Nat} (hm:m≤1000000) (l:List XS) (hr:stsRg (xssd l)):LayB B gy m l:=lblock_any fun t ht=>lstmt_any B gy hm t (stsRg_all hr _ (by rw [xssd_map];exact List.mem_map_of_mem ht))
end Go.Proofs.Ytflhcdcifilfcaa

namespace Go.Proofs.Ytflhcdcifilfcaa
open Go.ChangeShapes Go.WideShapes Go.ChangeAt Go.Deep
open Go Go.RowKit

theorem LyS.butT {B gy:Nat} {mo ln:Int} {fl:Bool} {L:List To} {W0 W Z:World} {T:TypeId} (h:LyS B gy mo ln fl L W0 W) (hb:ButT T W Z) (h1:84≠T) (h2:77≠T) (hB:Below W0.heap.size W Z) (hle:B≤W0.heap.size):LyS B gy mo ln fl L W0 Z:=by
 obtain ⟨v,h⟩:=h;exact ⟨v,(hb gy _ ⟨_,_,h.s⟩ h1).trans h.s,h.r.but hb h2,h.b.trans (hB.mono hle),fun k e hk he=>(hB.block k hk.lt).trans (h.f k e hk he),h.n⟩
structure Lq (w:World) (gy gp g5:Nat) (pc:List Value) (gq m:Nat) (cS vS cF vF:Value) (ss:List ScM) (fs:List DcM) (ln:Int) (fl:Bool) (L:List To) (p:Prop) (T:List To) (W:World):Prop where
 y:LyS w.heap.size gy m ln fl L w W
 q:CAt W gq 27 [cS,cF]
 s:eSc.Own W w.heap.size vS ss
 f:eDc.Own W w.heap.size vF fs
 sk:∀ x∈ss,x.Og w.heap.size W (fun _=>True)
 fk:∀ d∈fs,d.Og w.heap.size W (fun _=>True)
 g:Gd false fl [] L p T
 b1:CAt W gp 27 pc
 b2:CAt W g5 27 [.slice none 0 0,.slice none 0 0]
 n:w.heap.size≤gq∧gp≠gq∧g5≠gq
section
variable {w W Z:World} {gy gp g5 gq m:Nat} {pc:List Value} {cS vS cF vF v9:Value} {ss:List ScM} {fs:List DcM} {ln ln2:Int} {fl fl2:Bool} {L L2 T T2:List To} {p q:Prop} {x:ScM} {d:DcM}
theorem Lq.step (h:Lq w gy gp g5 pc gq m cS vS cF vF ss fs ln fl L p T W) (k:LyS w.heap.size gy m ln2 fl2 L2 W Z) (hg:Gd fl fl2 L L2 q T2):Lq w gy gp g5 pc gq m cS vS cF vF ss fs ln2 fl2 L2 (p∧q) (T++T2) Z:=
 ⟨h.y.next k,k.keeps h.q (by decide),h.s.kept fun g ht=>k.fr g _ ht (by decide),h.f.kept fun g ht=>k.fr g _ ht (by decide),fun x hx=>(h.sk x hx).keep (fun g _ ht=>k.frG g _ ht (by decide)) fun _ q=>q,
  fun d hd=>(h.fk d hd).keep (fun g _ ht=>k.frG g _ ht (by decide)) (fun g _ ht=>k.frG g _ ht (by decide)) (fun g _ ht=>k.frG g _ ht (by decide)) fun _ q=>q,h.g.trans hg,k.keeps h.b1 (by decide),k.keeps h.b2 (by decide),h.n⟩
theorem Lq.step1 (h:Lq w gy gp g5 pc gq m cS vS cF vF ss fs ln fl L p T W) (k:LyS w.heap.size gy m ln2 fl2 L2 W Z) (hg:Gd fl fl2 L L2 True T2):Lq w gy gp g5 pc gq m cS vS cF vF ss fs ln2 fl2 L2 p (T++T2) Z:=by
 have h1:=h.step k hg;exact ⟨h1.y,h1.q,h1.s,h1.f,h1.sk,h1.fk,h1.g.as (fun q=>q.1) (fun _=>rfl),h1.b1,h1.b2,h1.n⟩
theorem Lq.below (h:Lq w gy gp g5 pc gq m cS vS cF vF ss fs ln fl L p T W) (hb:Below W.heap.size W Z):Lq w gy gp g5 pc gq m cS vS cF vF ss fs ln fl L p T Z:=
 ⟨h.y.below hb,h.q.below hb h.q.lt,h.s.below hb,h.f.below hb,fun x hx=>(h.sk x hx).keep (fun g _ ht=>hb.block g ht.lt) fun _ q=>q,fun d hd=>(h.fk d hd).keep (fun g _ ht=>hb.block g ht.lt) (fun g _ ht=>hb.block g ht.lt) (fun g _ ht=>hb.block g ht.lt) fun _ q=>q,h.g,h.b1.below hb h.b1.lt,h.b2.below hb h.b2.lt,h.n⟩
theorem HasG.ne {B g k:Nat} {W:World} {e T:TypeId} (h:HasG B W g e) (hT:HasT W k T) (he:e≠T) (hB:B≤k):g≠k:=fun q=>by
 subst q;rcases h with h | h
 · exact he (h.one hT)
 · omega
theorem Lq.turn (h:Lq w gy gp g5 pc gq m cS vS cF vF ss fs ln fl L p T W) {t:TypeId} {gd:Nat} (ht:HasT W gd t) (hg:w.heap.size≤gd) (hgr:W.grownBy Z (some gd)) (ht2:t=69∨t=48) (hS:vS.ownBlock≠some gd) (hF:vF.ownBlock≠some gd):Lq w gy gp g5 pc gq m cS vS cF vF ss fs ln fl L p T Z:=by
 have hb:ButT t W Z:=ButT.grown hgr fun k e=>by injection e with e;subst e;exact ht
 have hs:w.heap.size≤W.heap.size:=h.y.bl.size;have hB:Below w.heap.size W Z:=(Below.refl _ _).grown hgr hs (fun k e=>by injection e with e;omega);have key:∀ g e,HasG w.heap.size W g e→e≠t→Z.heap[g]? = W.heap[g]? := fun g e h1 h2=>hgr.block g h1.lt (fun q=>by injection q with q;exact h1.ne ht h2 hg q)
 have n1:84≠t:=by rcases ht2 with rfl | rfl<;>decide
 have n2:77≠t:=by rcases ht2 with rfl | rfl<;>decide
 have n3:27≠t:=by rcases ht2 with rfl | rfl<;>decide
 have n4:(9:TypeId)≠t:=by rcases ht2 with rfl | rfl<;>decide
 have n5:75≠t:=by rcases ht2 with rfl | rfl<;>decide
 have n6:53≠t:=by rcases ht2 with rfl | rfl<;>decide
 have n7:51≠t:=by rcases ht2 with rfl | rfl<;>decide
 exact ⟨h.y.butT hb n1 n2 hB (Nat.le_refl _),(hb gq _ ⟨_,_,h.q⟩ n3).trans h.q,h.s.keptB hgr (fun k e=>by rintro q;rw [e] at hS;exact hS q.symm),h.f.keptB hgr (fun k e=>by rintro q;rw [e] at hF;exact hF q.symm),
  fun x hx=>(h.sk x hx).keep (fun g _ ht=>key g _ ht n4) fun _ q=>q,fun d hd=>(h.fk d hd).keep (fun g _ ht=>key g _ ht n5) (fun g _ ht=>key g _ ht n6) (fun g _ ht=>key g _ ht n7) fun _ q=>q,h.g,(hb gp _ ⟨_,_,h.b1⟩ n3).trans h.b1,(hb g5 _ ⟨_,_,h.b2⟩ n3).trans h.b2,h.n⟩
theorem Lq.line (h:Lq w gy gp g5 pc gq m cS vS cF vF ss fs ln fl L p T W) (z:Int):Lq w gy gp g5 pc gq m cS vS cF vF ss fs z fl L p T (W.setCell ⟨gy,1,none⟩ (.int .i64 z)):=by
 obtain ⟨vy,hy⟩:=h.y;have hny:=hy.n;have ht:HasT W gy 84:=⟨_,_,hy.s⟩;have hb:ButT 84 W (W.setCell ⟨gy,1,none⟩ (.int .i64 z)):=ButT.set (p:=⟨gy,1,none⟩) ht _;have key:∀ g e,HasG w.heap.size W g e→e≠84→(W.setCell ⟨gy,1,none⟩ (.int .i64 z)).heap[g]? = W.heap[g]? := fun g e h1 h2=>Below.heap_setCell _ _ _ g (h1.ne ht h2 hny)
 exact ⟨h.y.setN z,(hb gq _ ⟨_,_,h.q⟩ (by decide)).trans h.q,h.s.but hb (by decide),h.f.but hb (by decide),fun x hx=>(h.sk x hx).keep (fun g _ ht=>key g _ ht (by decide)) fun _ q=>q,fun d hd=>(h.fk d hd).keep (fun g _ ht=>key g _ ht (by decide)) (fun g _ ht=>key g _ ht (by decide)) (fun g _ ht=>key g _ ht (by decide)) fun _ q=>q,h.g,(hb gp _ ⟨_,_,h.b1⟩ (by decide)).trans h.b1,(hb g5 _ ⟨_,_,h.b2⟩ (by decide)).trans h.b2,h.n⟩
theorem Lq.cell (h:Lq w gy gp g5 pc gq m cS vS cF vF ss fs ln fl L p T W) (j:Nat) (z:Value) {cS2 cF2:Value} (hs:([cS,cF]:List Value).set j z=[cS2,cF2]):Lq w gy gp g5 pc gq m cS2 vS cF2 vF ss fs ln fl L p T (W.setCell ⟨gq,j,none⟩ z):=by
 have hn:=h.n;have ht:HasT W gq 27:=⟨_,_,h.q⟩;have hb:ButT 27 W (W.setCell ⟨gq,j,none⟩ z):=ButT.set (p:=⟨gq,j,none⟩) ht z;have hB:Below w.heap.size W (W.setCell ⟨gq,j,none⟩ z):=(Below.refl _ W).setCell (p:=⟨gq,j,none⟩) hn.1 z;have key:∀ g e,HasG w.heap.size W g e→e≠27→(W.setCell ⟨gq,j,none⟩ z).heap[g]? = W.heap[g]? := fun g e h1 h2=>Below.heap_setCell _ _ _ g (h1.ne ht h2 hn.1)
 have h1:=h.q.set j z;rw [hs] at h1;exact ⟨h.y.butT hb (by decide) (by decide) hB (Nat.le_refl _),h1,h.s.but hb (by decide),h.f.but hb (by decide),fun x hx=>(h.sk x hx).keep (fun g _ ht=>key g _ ht (by decide)) fun _ q=>q,fun d hd=>(h.fk d hd).keep (fun g _ ht=>key g _ ht (by decide)) (fun g _ ht=>key g _ ht (by decide)) (fun g _ ht=>key g _ ht (by decide)) fun _ q=>q,h.g,(Below.heap_setCell _ _ _ gp hn.2.1).trans h.b1,(Below.heap_setCell _ _ _ g5 hn.2.2).trans h.b2,hn⟩
theorem Lq.appS (h:Lq w gy gp g5 pc gq m cS vS cF vF ss fs ln fl L p T W) (hg:W.grownBy Z vS.ownBlock) (ho:eSc.Own Z w.heap.size v9 (ss++[x])) (hx:x.Og w.heap.size W (fun _=>True)):Lq w gy gp g5 pc gq m cS v9 cF vF (ss++[x]) fs ln fl L p T Z:=by
 have hb:ButT 69 W Z:=ButT.grown hg fun k e=>h.s.has k e
 have hB:Below w.heap.size W Z:=(Below.refl _ _).grown hg h.y.bl.size (fun k e=>(h.s.lt k e).1);have key:∀ g e,HasG w.heap.size W g e→e≠69→Z.heap[g]? = W.heap[g]? := fun g e h1 h2=>hg.block g h1.lt (fun q=>h1.ne (h.s.has g q.symm) h2 (h.s.lt g q.symm).1 rfl)
 refine ⟨h.y.butT hb (by decide) (by decide) hB (Nat.le_refl _),(hb gq _ ⟨_,_,h.q⟩ (by decide)).trans h.q,ho,h.f.but hb (by decide),fun y hy=>?_,fun d hd=>(h.fk d hd).keep (fun g _ ht=>key g _ ht (by decide)) (fun g _ ht=>key g _ ht (by decide)) (fun g _ ht=>key g _ ht (by decide)) fun _ q=>q,h.g,(hb gp _ ⟨_,_,h.b1⟩ (by decide)).trans h.b1,(hb g5 _ ⟨_,_,h.b2⟩ (by decide)).trans h.b2,h.n⟩;rcases List.mem_append.1 hy with hy | hy
 · exact (h.sk y hy).keep (fun g _ ht=>key g _ ht (by decide)) fun _ q=>q
 · rw [List.mem_singleton.1 hy];exact hx.keep (fun g _ ht=>key g _ ht (by decide)) fun _ q=>q
theorem Lq.appF (h:Lq w gy gp g5 pc gq m cS vS cF vF ss fs ln fl L p T W) (hg:W.grownBy Z vF.ownBlock) (ho:eDc.Own Z w.heap.size v9 (fs++[d])) (hx:d.Og w.heap.size W (fun _=>True)):Lq w gy gp g5 pc gq m cS vS cF v9 ss (fs++[d]) ln fl L p T Z:=by
 have hb:ButT 48 W Z:=ButT.grown hg fun k e=>h.f.has k e
 have hB:Below w.heap.size W Z:=(Below.refl _ _).grown hg h.y.bl.size (fun k e=>(h.f.lt k e).1);have key:∀ g e,HasG w.heap.size W g e→e≠48→Z.heap[g]? = W.heap[g]? := fun g e h1 h2=>hg.block g h1.lt (fun q=>h1.ne (h.f.has g q.symm) h2 (h.f.lt g q.symm).1 rfl)
 refine ⟨h.y.butT hb (by decide) (by decide) hB (Nat.le_refl _),(hb gq _ ⟨_,_,h.q⟩ (by decide)).trans h.q,h.s.but hb (by decide),ho,fun x hx=>(h.sk x hx).keep (fun g _ ht=>key g _ ht (by decide)) fun _ q=>q,fun e he=>?_,h.g,(hb gp _ ⟨_,_,h.b1⟩ (by decide)).trans h.b1,(hb g5 _ ⟨_,_,h.b2⟩ (by decide)).trans h.b2,h.n⟩;rcases List.mem_append.1 he with he | he
 · exact (h.fk e he).keep (fun g _ ht=>key g _ ht (by decide)) (fun g _ ht=>key g _ ht (by decide)) (fun g _ ht=>key g _ ht (by decide)) fun _ q=>q
 · rw [List.mem_singleton.1 he];exact hx.keep (fun g _ ht=>key g _ ht (by decide)) (fun g _ ht=>key g _ ht (by decide)) (fun g _ ht=>key g _ ht (by decide)) fun _ q=>q
theorem Lq.cells (h:Lq w gy gp g5 pc gq m cS vS cF vF ss fs ln fl L p T W):W.cell? ⟨gq,0,none⟩=some cS∧W.cell? ⟨gq,1,none⟩=some cF∧W.frozen? ⟨gq,0,none⟩=false∧W.frozen? ⟨gq,1,none⟩=false∧gq < W.heap.size:=
 ⟨h.q.cell (j:=0) (by simp),h.q.cell (j:=1) (by simp),h.q.frozen 0,h.q.frozen 1,h.q.lt⟩
theorem Lq.put1 (h:Lq w gy gp g5 pc gq m cS vS cF vF ss fs ln fl L p T W) (kd:Int) (tx:List UInt8) (hl:L.length < 1000000) (g:Nat) (hg:g=W.heap.size) :
 Calls Try.prog 29 #[.pointer (some ⟨gy,0,none⟩),.int .u8 kd,.slice (some ⟨g,0,none⟩) 1 1] (W.alloc (.cells #[.string (str tx)] 9)) (fun e W'=>e = .returned (.tuple #[])∧Lq w gy gp g5 pc gq m cS vS cF vF ss fs ln fl (L++[⟨kd,tx,0,ln⟩]) p (T++[⟨kd,tx,0,ln⟩]) W'∧FrG w.heap.size W W'):=by
 refine (h.y.start.put1 kd tx hl g hg).mono ?_;rintro e W' ⟨rfl,h2⟩;exact ⟨rfl,h.step1 h2 (Gd.put _ _ _),h2.frG⟩
theorem Lq.nam (h:Lq w gy gp g5 pc gq m cS vS cF vF ss fs ln fl L p T W) (tx:List UInt8) (hl:L.length < 1000000) :
 Calls Try.prog 30 #[.pointer (some ⟨gy,0,none⟩),.string (str tx)] W (fun e W'=>e = .returned (.tuple #[])∧∃ fl',Lq w gy gp g5 pc gq m cS vS cF vF ss fs ln fl' (L++[nmT tx ln]) p (T++[nmT tx ln]) W'∧FrG w.heap.size W W'):=by
 refine (h.y.start.nam tx hl).mono ?_;rintro e W' ⟨rfl,fl',hg,h2⟩;exact ⟨rfl,fl',h.step1 h2 hg,h2.frG⟩
theorem Lq.kind (h:Lq w gy gp g5 pc gq m cS vS cF vF ss fs ln fl L p T W) (t:Ty) (hn : -9223372036854775808≤t.n∧t.n≤9223372036854775807) (hl:L.length+4≤1000000) :
 Calls Try.prog 31 #[.pointer (some ⟨gy,0,none⟩),tyV t] W (fun e W'=>e = .returned (.tuple #[])∧∃ fl' L',L'.length≤L.length+4∧Lq w gy gp g5 pc gq m cS vS cF vF ss fs ln fl' L' (p∧FineT t) (T++tyL ln t) W'∧FrG w.heap.size W W'):=by
 refine (lkind_any h.y.start t hn hl).mono ?_;rintro e W' ⟨rfl,fl',L',hg,hk,h2⟩;exact ⟨rfl,fl',L',hk,h.step h2 hg,h2.frG⟩
theorem Lq.as (h:Lq w gy gp g5 pc gq m cS vS cF vF ss fs ln fl L p T W) (hp:p→q) (hT:p→T=T2):Lq w gy gp g5 pc gq m cS vS cF vF ss fs ln fl L q T2 W:=⟨h.y,h.q,h.s,h.f,h.sk,h.fk,h.g.as hp hT,h.b1,h.b2,h.n⟩
theorem Lq.blk (h:Lq w gy gp g5 pc gq m cS vS cF vF ss fs ln fl L p T W) (hm:m≤1000000) {bA:Option Addr} {bc:Nat} {bd:List XS} (hr:stsRg (xssd bd)) (h1:RowG w.heap.size eSt W (fun _=>True) bA bc bd) (h2:xssOg w.heap.size W (fun _=>True) bd) (hl:L.length+stsSw m (xssd bd)+2≤1000000) (h3:0≤ln) (h4:ln+stsSw m (xssd bd)≤1000000) :
 Calls Try.prog 32 #[.pointer (some ⟨gy,0,none⟩),.slice bA bd.length bc] W (fun e W'=>∃ A c ts fl' L' ln2,e = .returned (.slice A ts.length c)∧L'.length≤L.length+(stsSw m (xssd bd)+2)∧(ln≤ln2∧ln2≤ln+stsSw m (xssd bd)) ∧
  Hid (RowG w.heap.size eSt W' (fun _=>True) A c ts∧xssOg w.heap.size W' (fun _=>True) ts) ∧
  Lq w gy gp g5 pc gq m cS vS cF vF ss fs ln2 fl' L' (p∧((∀ s∈xssd bd,FineS s)∧xssd ts=(stsL m ln (xssd bd)).2.1∧ln2=(stsL m ln (xssd bd)).2.2)) (T++sgn [123] ln::((stsL m ln (xssd bd)).1++[sgn [125] ln2])) W'∧FrG w.heap.size W W'):=by
 refine (lblk_any w.heap.size gy hm bd hr _ fl L ln W bA bc h.y.start h1 h2 hl h3 h4).mono ?_;rintro e W' ⟨A,c,ts,fl',L',ln2,rfl,hg,hk,hln,k2,hr,hx⟩;exact ⟨A,c,ts,fl',L',ln2,rfl,hk,hln,h_ ⟨hr.keep (fun _ _ _=>rfl) (fun _ _=>trivial),xssOg.keep (fun _ _ _=>rfl) (fun _ _ _=>rfl) (fun _ _=>trivial) ts hx⟩,h.step k2 hg,k2.frG⟩
theorem FrG.cat {B:Nat} {W Z:World} {g:Nat} {e:TypeId} {cs:List Value} (h:FrG B W Z) (hc:CAt W g e cs) (he:e ∉ [84,77]):CAt Z g e cs:=(h g e (.inl ⟨_,_,hc⟩) he).trans hc
end
end Go.Proofs.Ytflhcdcifilfcaa

namespace Go.Proofs.Ytflhcdcifilfcaa
open Go.ChangeShapes Go.WideShapes Go.ChangeAt Go.Deep
open Go Go.RowKit

def Sc.sw (s:Sc):Nat:=6+3*s.fs.length
def Dc.sw (m:Nat) (d:Dc):Nat:=20+6*d.ps.length+stsSw m d.bd
def scsSw:List Sc→Nat
 | []=>0
 | s::l=>s.sw+scsSw l
def dcsSw (m:Nat):List Dc→Nat
 | []=>0
 | d::l=>d.sw m+dcsSw m l
def Pg.sw (m:Nat) (p:Pg):Nat:=scsSw p.ss+dcsSw m p.fs
def Pg.rg (p:Pg):Prop:=∀ d∈p.fs,(∀ x∈d.ps,-9223372036854775808≤x.ty.n∧x.ty.n≤9223372036854775807)∧(-9223372036854775808≤d.rs.n∧d.rs.n≤9223372036854775807)∧stsRg d.bd
theorem scsSw_app:∀ a b:List Sc,scsSw (a++b)=scsSw a+scsSw b
 | [],b=>by rw [nJ,scsSw];omega
 | x::a,b=>by rw [nI,scsSw,scsSw,scsSw_app a b];omega
theorem dcsSw_app (m:Nat):∀ a b:List Dc,dcsSw m (a++b)=dcsSw m a+dcsSw m b
 | [],b=>by rw [nJ,dcsSw];omega
 | x::a,b=>by rw [nI,dcsSw,dcsSw,dcsSw_app m a b];omega
theorem scs_len:∀ l:List Sc,l.length≤scsSw l
 | []=>Nat.zero_le _
 | s::l=>by
  have:=scs_len l;rw [scsSw,nF,Sc.sw];omega
theorem dcs_len (m:Nat):∀ l:List Dc,l.length≤dcsSw m l
 | []=>Nat.zero_le _
 | s::l=>by
  have:=dcs_len m l;rw [dcsSw,nF,Dc.sw];omega
section
variable {α β:Type}
theorem map_take_snoc (f:α→β) (l:List α) {k:Nat} (hk:k < l.length):(l.take (k+1)).map f=(l.take k).map f++[f l[k]]:=by
 rw [List.take_succ_eq_append_getElem hk,List.map_append];rfl
end
theorem scsSw_take (l:List ScM) {k:Nat} (hk:k < l.length):scsSw ((l.take k).map ScM.d)+l[k].d.sw≤scsSw (l.map ScM.d):=by
 have h:l.map ScM.d=(l.take (k+1)).map ScM.d++(l.drop (k+1)).map ScM.d:=by rw [← List.map_append,List.take_append_drop]
 rw [h,scsSw_app,map_take_snoc _ _ hk,scsSw_app,scsSw,scsSw];omega
theorem dcsSw_take (m:Nat) (l:List DcM) {k:Nat} (hk:k < l.length):dcsSw m ((l.take k).map DcM.d)+l[k].d.sw m≤dcsSw m (l.map DcM.d):=by
 have h:l.map DcM.d=(l.take (k+1)).map DcM.d++(l.drop (k+1)).map DcM.d:=by rw [← List.map_append,List.take_append_drop]
 rw [h,dcsSw_app,map_take_snoc _ _ hk,dcsSw_app,dcsSw,dcsSw];omega
theorem dcsL_snoc (m:Nat) (d:Dc):∀ (l:List Dc) (l0:Int),dcsL m l0 (l++[d])=((dcsL m l0 l).1++(dcL m (dcsL m l0 l).2.2 d).1,(dcsL m l0 l).2.1++[(dcL m (dcsL m l0 l).2.2 d).2.1],(dcL m (dcsL m l0 l).2.2 d).2.2)
 | [],l0=>by simp [dcsL]
 | x::l,l0=>by
  rw [nI,dcsL,dcsL_snoc m d l,dcsL];simp
theorem pmsL_snoc (ln:Int) (x:Pm):∀ l:List Pm,pmsL ln (l++[x])=pmsL ln l++((if l=[] then [] else [sgn [44] ln])++pmL ln x)
 | []=>by simp [pmsL]
 | [y]=>by simp [pmsL]
 | y::z::l=>by
  have h:=pmsL_snoc ln x (z::l);rw [if_neg (by simp)] at h ⊢;rw [nI,nI,pmsL,← nI,h,pmsL];simp
def tyB (t:Ty):Bool:=decide (t.kd=0) && (decide (t.n=0) && decide (t.nm=[]))
theorem tyB_iff (t:Ty):tyB t=true↔t=ty0:=by
 obtain ⟨kd,n,nm⟩:=t;unfold tyB ty0;simp
theorem ty_run (t:Ty) (w:World):(binOp .neq 45 (.agg #[.int .u8 t.kd,.int .i64 t.n,.string (str t.nm)]) (.agg #[.int .u8 0,.int .i64 0,.string ⟨#[]⟩])).run Try.prog w = .ok (.bool (!tyB t)) w:=by
 have key:(Op.equal 45 (.agg #[.int .u8 t.kd,.int .i64 t.n,.string (str t.nm)]) (.agg #[.int .u8 0,.int .i64 0,.string ⟨#[]⟩])).run Try.prog w = .ok (tyB t) w:=by
  show (Op.equalIn (9998+1+1) 45 (.agg #[.int .u8 t.kd,.int .i64 t.n,.string (str t.nm)]) (.agg #[.int .u8 0,.int .i64 0,.string ⟨#[]⟩])).run Try.prog w=_;rw [run_equalIn_struct _ _ _ _ _ (by simp [Program.fieldsOf,Try.underlying45]) (by kernel_rfl)];obtain ⟨kd,n,nm⟩:=t;unfold tyB;have e0:(str nm == (⟨#[]⟩:ByteArray))=decide (nm=[]):=by
   cases nm with
   | nil=>rfl
   | cons a l=>rfl
  have e2:(str nm).toList=[]↔nm=[]:=by rw [← List.isEmpty_iff,str_isE,List.isEmpty_iff]
  by_cases h1:kd=0<;>by_cases h2:n=0<;>by_cases h3:nm=[]<;>simp [Program.fieldsOf,Try.underlying45,Op.eqFields,part,go_sem,h1,h2,h3,e2]
  · exact List.isEmpty_iff.1 (by rw [str_isE];rfl)
 simp [binOp,go_sem,key]
end Go.Proofs.Ytflhcdcifilfcaa

namespace Go.Proofs.Ytflhcdcifilfcaa
open Go.ChangeShapes Go.WideShapes Go.ChangeAt Go.RowKit Go.Deep

section
variable {H:Type} {enc:TypeId×Value→H} {W:World}
theorem weightsAll_mem {P:Program} {e:TypeId}:∀ {l:List (DataW H)} {d:DataW H},d∈l→∀ n∈d.weights P e,n∈DataW.weightsAll P e l
 | [],_,h,_,_=>by cases h
 | y::l,d,h,n,hn=>by
  simp only [DataW.weightsAll,List.mem_append];rcases List.mem_cons.1 h with rfl | h
  · exact .inl hn
  · exact .inr (weightsAll_mem h n hn)
theorem open_elsF {P:Program} {t e:TypeId} {fuel:Nat} {cs:List Value} {x:DataW H×List MemPlace} {α:Type} (K:El α) (Q:α→Prop)
 (ht:P.underlying t=some (.slice e)) (hC:P.cellsOf e=K.sz)
 (one:∀ n,n < fuel→∀ cs x,(∀ n∈x.1.weights P e,n≤reachBytes)→DataW.trod enc P W 0 (fun _=>true) true n e cs=some x→∃ y,cs=K.f y∧Q y)
 (hw:∀ n∈x.1.weights P t,n≤reachBytes)
 (h:DataW.trod enc P W 0 (fun _=>true) true fuel t cs=some x) :
 ∃ (A:Option Addr) (c:Nat) (xs:List α),cs=[.slice A xs.length c]∧RowG W.heap.size K W (fun _=>True) A c xs∧(∀ x∈xs,Q x)∧xs.length*P.bytesOf e≤reachBytes:=by
 rcases DataW.trod_slice ht h with ⟨hcs,_⟩ | ⟨a,len,cap,elems,rest,n,hfu,hcs,hx,_,hl,_,hlen,hel,_,_⟩
 · exact ⟨none,0,[],hcs,⟨fun hl=>absurd hl (by simp),Nat.le_refl _,fun _=>rfl,fun hl=>absurd hl (by simp)⟩,fun x hx=>absurd hx (by simp),by simp⟩
 · have each:∀ i,i < len→∃ y:α,Q y∧∀ f u,(K.f y)[f]? = some u→W.cell? (a.add (i*K.sz+f))=some u:=fun i hi=>by
    have h1:=hel i hi;obtain ⟨z,hz⟩:∃ z,elems[i]? = some z:=⟨_,List.getElem?_eq_getElem (by omega)⟩;rw [hz] at h1;obtain ⟨cs',hc,htr⟩:=Option.bind_eq_some_iff.1 h1
    obtain ⟨y,rfl,hy⟩:=one n (by omega) _ _ (fun m hm=>hw m (by
     rw [hx];simp only [DataW.weights,ht,List.mem_cons,List.mem_append]
     exact .inr (.inl (weightsAll_mem (List.mem_map_of_mem (List.mem_of_getElem? hz)) m hm)))) htr
    obtain ⟨_,hcl,hat⟩:=World.cells?_some hc;refine ⟨y,hy,fun f u hu=>?_⟩;(have hf5:f < K.sz:=by have:=(List.getElem?_eq_some_iff.1 hu).1;simpa [K.len] using this);have:=hat f (by rw [hC];exact hf5);rw [hu,hC,add_add] at this;exact this
   have hlist:∀ k,k≤len→∃ xs:List α,xs.length=k∧(∀ x∈xs,Q x)∧∀ j (hj:j < xs.length) f u,(K.f xs[j])[f]? = some u→W.cell? (a.add (j*K.sz+f))=some u:=by
    intro k;induction k with
    | zero=>intro _;exact ⟨[],rfl,fun x hx=>absurd hx (by simp),fun j hj=>absurd hj (by simp)⟩
    | succ k ih=>
     intro hk;obtain ⟨xs,hx,hr,hall⟩:=ih (by omega);obtain ⟨y,hyr,hy⟩:=each k (by omega);refine ⟨xs++[y],by simp [hx],fun x hx=>?_,fun j hj f u hu=>?_⟩
     · rcases List.mem_append.1 hx with h | h
       · exact hr x h
       · simp at h;subst h;exact hyr
     · by_cases hjk:j < xs.length
       · rw [List.getElem_append_left hjk] at hu;exact hall j hjk f u hu
       · (have:j=xs.length:=by simp at hj;omega);subst this;simp at hu;rw [hx];exact hy f u hu
   obtain ⟨xs,hxl,hr,hall⟩:=hlist len (Nat.le_refl _);have hbytes:xs.length*P.bytesOf e≤reachBytes:=by
    have:=hw ((elems.length+rest.length)*P.bytesOf e) (by rw [hx];simp only [DataW.weights,ht,List.length_map];exact List.mem_cons_self);refine Nat.le_trans (Nat.mul_le_mul_right _ ?_) this;omega
   subst hxl;have hsp:0 < xs.length→a.block < W.heap.size∧a.spot=none:=fun hp=>by
    obtain ⟨v0,hv0⟩:∃ v0,(K.f xs[0])[0]? = some v0:=⟨_,List.getElem?_eq_getElem (l:=K.f (xs[0]'hp)) (by rw [K.len];exact K.pos)⟩;have h0:=hall 0 hp 0 _ hv0;obtain ⟨b,off,spot⟩:=a;(have hspot:spot=none:=by simpa [Addr.add] using World.cell?_spot h0);have:=World.block_lt_of_cell? W _ h0;exact ⟨by simpa [Addr.add] using this,hspot⟩
   refine ⟨some a,_,xs,hcs,⟨fun hp=>?_,hl,fun h=>(by cases h),fun _ _ _=>trivial⟩,hr,hbytes⟩;obtain ⟨hb,hs⟩:=hsp hp;obtain ⟨b,off,spot⟩:=a;dsimp only at hs hb;subst hs;refine ⟨b,off,rfl,.inr ⟨hb,hb⟩,fun j hj f u hu=>?_⟩;have:=hall j hj f u hu;rw [add_zero_off] at this;exact this
theorem int_cells {P:Program} {t:TypeId} {fuel:Nat} {cs:List Value} {x:DataW H×List MemPlace} (ht:P.underlying t=some (.int .i64)) (h:DataW.trod enc P W 0 (fun _=>true) true fuel t cs=some x):∃ n:Int,cs=[.int .i64 n] ∧ -9223372036854775808≤n∧n≤9223372036854775807:=by
 obtain ⟨n,hc,_,hwf⟩:=DataW.trod_int ht h;refine ⟨n,hc,?_⟩;simp [Lit.wf] at hwf;exact ⟨hwf.1,hwf.2⟩
theorem u8_cells {P:Program} {t:TypeId} {fuel:Nat} {cs:List Value} {x:DataW H×List MemPlace} (ht:P.underlying t=some (.int .u8)) (h:DataW.trod enc P W 0 (fun _=>true) true fuel t cs=some x):∃ n:Int,cs=[.int .u8 n]:=by
 obtain ⟨n,hc,_,_⟩:=DataW.trod_int ht h;exact ⟨n,hc⟩
theorem st_cells {P:Program} {t:TypeId} {fuel:Nat} {cs:List Value} {x:DataW H×List MemPlace} (ht:P.underlying t=some .string) (h:DataW.trod enc P W 0 (fun _=>true) true fuel t cs=some x):∃ l,cs=[.string (str l)]:=by
 obtain ⟨b,hc,_,_⟩:=DataW.trod_string ht h;obtain ⟨l,rfl⟩:=str_of b;exact ⟨l,hc⟩
end
end Go.Proofs.Ytflhcdcifilfcaa

namespace Go.Proofs.Ytflhcdcifilfcaa
open Go.ChangeShapes Go.WideShapes Go.ChangeAt Go.RowKit Go.Deep

section
variable {H:Type} {enc:TypeId×Value→H} {W:World} {P:Program}
theorem typC {s:TypeId} {f0 f1 f2:Field} {fuel:Nat} {cs:List Value} {x:DataW H×List MemPlace}
 (hs:P.underlying s=some (.struct #[f0,f1,f2])) (ho:f0.offset=0∧f1.offset=1∧f2.offset=2) (hk:P.cellsOf f0.type=1∧P.cellsOf f1.type=1∧P.cellsOf f2.type=1) (hC:P.cellsOf s=3)
 (t0:P.underlying f0.type=some (.int .u8))
 (t1:P.underlying f1.type=some (.int .i64))
 (t2:P.underlying f2.type=some .string)
 (h:DataW.trod enc P W 0 (fun _=>true) true fuel s cs=some x):∃ (n:Nat) (a0:Int) (a1:Int) (a2:List UInt8),fuel=n+1∧cs=[.int .u8 a0,.int .i64 a1,.string (str a2)]∧(-9223372036854775808≤a1∧a1≤9223372036854775807):=by
 obtain ⟨ys,n,hfu,hx,hlen,hyl,hf⟩:=DataW.trod_struct hs h;rw [hC] at hlen;obtain ⟨o0,o1,o2⟩:=ho;obtain ⟨k0,k1,k2⟩:=hk;have hsome:∀ j,j < 3→∃ z,ys[j]? = some z:=fun j hj=>⟨_,List.getElem?_eq_getElem (by rw [hyl];exact hj)⟩
 match cs,hlen with
 | [v0,v1,v2],_=>
  have q0:=hf 0 f0 rfl;obtain ⟨z0,e0⟩:=hsome 0 (by omega);rw [e0,o0,k0] at q0;obtain ⟨a0,r0⟩:=u8_cells t0 q0;have q1:=hf 1 f1 rfl;obtain ⟨z1,e1⟩:=hsome 1 (by omega);rw [e1,o1,k1] at q1;obtain ⟨a1,r1,g1⟩:=int_cells t1 q1;have q2:=hf 2 f2 rfl;obtain ⟨z2,e2⟩:=hsome 2 (by omega);rw [e2,o2,k2] at q2;obtain ⟨a2,r2⟩:=st_cells t2 q2;simp at r0 r1 r2;exact ⟨n,a0,a1,a2,hfu,by simp only [r0,r1,r2],g1⟩
theorem expC {s:TypeId} {f0 f1 f2 f3 f4 f5:Field} {fuel:Nat} {cs:List Value} {x:DataW H×List MemPlace}
 (hs:P.underlying s=some (.struct #[f0,f1,f2,f3,f4,f5])) (ho:f0.offset=0∧f1.offset=1∧f2.offset=2∧f3.offset=3∧f4.offset=4∧f5.offset=5) (hk:P.cellsOf f0.type=1∧P.cellsOf f1.type=1∧P.cellsOf f2.type=1∧P.cellsOf f3.type=1∧P.cellsOf f4.type=1∧P.cellsOf f5.type=1) (hC:P.cellsOf s=6)
 (t0:P.underlying f0.type=some (.int .u8))
 (t1:P.underlying f1.type=some (.int .i64))
 (t2:P.underlying f2.type=some .string)
 (t3:P.underlying f3.type=some .string)
 (t4:P.underlying f4.type=some .string)
 (h:DataW.trod enc P W 0 (fun _=>true) true fuel s cs=some x):∃ (n:Nat) (a0:Int) (a1:Int) (a2:List UInt8) (a3:List UInt8) (a4:List UInt8) (a5:Value) (z5:DataW H×List MemPlace),fuel=n+1∧cs=[.int .u8 a0,.int .i64 a1,.string (str a2),.string (str a3),.string (str a4),a5]∧(-9223372036854775808≤a1∧a1≤9223372036854775807)∧(DataW.trod enc P W 0 (fun _=>true) true n f5.type [a5]=some z5∧∀ m∈z5.1.weights P f5.type,m∈x.1.weights P s):=by
 obtain ⟨ys,n,hfu,hx,hlen,hyl,hf⟩:=DataW.trod_struct hs h;rw [hC] at hlen;obtain ⟨o0,o1,o2,o3,o4,o5⟩:=ho;obtain ⟨k0,k1,k2,k3,k4,k5⟩:=hk;have hsome:∀ j,j < 6→∃ z,ys[j]? = some z:=fun j hj=>⟨_,List.getElem?_eq_getElem (by rw [hyl];exact hj)⟩
 match cs,hlen with
 | [v0,v1,v2,v3,v4,v5],_=>
  have q0:=hf 0 f0 rfl;obtain ⟨z0,e0⟩:=hsome 0 (by omega);rw [e0,o0,k0] at q0;obtain ⟨a0,r0⟩:=u8_cells t0 q0;have q1:=hf 1 f1 rfl;obtain ⟨z1,e1⟩:=hsome 1 (by omega);rw [e1,o1,k1] at q1;obtain ⟨a1,r1,g1⟩:=int_cells t1 q1;have q2:=hf 2 f2 rfl;obtain ⟨z2,e2⟩:=hsome 2 (by omega);rw [e2,o2,k2] at q2;obtain ⟨a2,r2⟩:=st_cells t2 q2;have q3:=hf 3 f3 rfl;obtain ⟨z3,e3⟩:=hsome 3 (by omega);rw [e3,o3,k3] at q3;obtain ⟨a3,r3⟩:=st_cells t3 q3;have q4:=hf 4 f4 rfl;obtain ⟨z4,e4⟩:=hsome 4 (by omega);rw [e4,o4,k4] at q4;obtain ⟨a4,r4⟩:=st_cells t4 q4;have q5:=hf 5 f5 rfl;obtain ⟨z5,e5⟩:=hsome 5 (by omega);rw [e5,o5,k5] at q5;have w5:∀ m∈z5.1.weights P f5.type,m∈x.1.weights P s:=fun m hm=>by rw [hx];simp only [DataW.weights,hs];exact DataW.weights_mem_each (j:=5) rfl (by rw [List.getElem?_map,e5];rfl) m hm
  simp at r0 r1 r2 r3 r4;exact ⟨n,a0,a1,a2,a3,a4,v5,z5,hfu,by simp only [r0,r1,r2,r3,r4],g1,⟨by simpa using q5,w5⟩⟩
theorem stmtC {s:TypeId} {f0 f1 f2 f3 f4 f5 f6 f7 f8:Field} {fuel:Nat} {cs:List Value} {x:DataW H×List MemPlace}
 (hs:P.underlying s=some (.struct #[f0,f1,f2,f3,f4,f5,f6,f7,f8])) (ho:f0.offset=0∧f1.offset=1∧f2.offset=2∧f3.offset=3∧f4.offset=4∧f5.offset=5∧f6.offset=8∧f7.offset=9∧f8.offset=10) (hk:P.cellsOf f0.type=1∧P.cellsOf f1.type=1∧P.cellsOf f2.type=1∧P.cellsOf f3.type=1∧P.cellsOf f4.type=1∧P.cellsOf f5.type=3∧P.cellsOf f6.type=1∧P.cellsOf f7.type=1∧P.cellsOf f8.type=1) (hC:P.cellsOf s=11)
 (t0:P.underlying f0.type=some (.int .u8))
 (t1:P.underlying f1.type=some (.int .i64))
 (t2:P.underlying f2.type=some .string)
 (t3:P.underlying f3.type=some .string)
 (t4:P.underlying f4.type=some .string)
 (t5:∀ fuel cs x,DataW.trod enc P W 0 (fun _=>true) true fuel f5.type cs=some x→∃ t:Ty,cs=tyS t ∧ -9223372036854775808≤t.n∧t.n≤9223372036854775807)
 (h:DataW.trod enc P W 0 (fun _=>true) true fuel s cs=some x):∃ (n:Nat) (a0:Int) (a1:Int) (a2:List UInt8) (a3:List UInt8) (a4:List UInt8) (a5:Ty) (a6:Value) (z6:DataW H×List MemPlace) (a7:Value) (z7:DataW H×List MemPlace) (a8:Value) (z8:DataW H×List MemPlace),fuel=n+1∧cs=[.int .u8 a0,.int .i64 a1,.string (str a2),.string (str a3),.string (str a4),.int .u8 a5.kd,.int .i64 a5.n,.string (str a5.nm),a6,a7,a8]∧(-9223372036854775808≤a1∧a1≤9223372036854775807)∧(-9223372036854775808≤a5.n∧a5.n≤9223372036854775807)∧(DataW.trod enc P W 0 (fun _=>true) true n f6.type [a6]=some z6∧∀ m∈z6.1.weights P f6.type,m∈x.1.weights P s)∧(DataW.trod enc P W 0 (fun _=>true) true n f7.type [a7]=some z7∧∀ m∈z7.1.weights P f7.type,m∈x.1.weights P s)∧(DataW.trod enc P W 0 (fun _=>true) true n f8.type [a8]=some z8∧∀ m∈z8.1.weights P f8.type,m∈x.1.weights P s):=by
 obtain ⟨ys,n,hfu,hx,hlen,hyl,hf⟩:=DataW.trod_struct hs h;rw [hC] at hlen;obtain ⟨o0,o1,o2,o3,o4,o5,o6,o7,o8⟩:=ho;obtain ⟨k0,k1,k2,k3,k4,k5,k6,k7,k8⟩:=hk;have hsome:∀ j,j < 9→∃ z,ys[j]? = some z:=fun j hj=>⟨_,List.getElem?_eq_getElem (by rw [hyl];exact hj)⟩
 match cs,hlen with
 | [v0,v1,v2,v3,v4,v5,v6,v7,v8,v9,v10],_=>
  have q0:=hf 0 f0 rfl;obtain ⟨z0,e0⟩:=hsome 0 (by omega);rw [e0,o0,k0] at q0;obtain ⟨a0,r0⟩:=u8_cells t0 q0;have q1:=hf 1 f1 rfl;obtain ⟨z1,e1⟩:=hsome 1 (by omega);rw [e1,o1,k1] at q1;obtain ⟨a1,r1,g1⟩:=int_cells t1 q1;have q2:=hf 2 f2 rfl;obtain ⟨z2,e2⟩:=hsome 2 (by omega);rw [e2,o2,k2] at q2;obtain ⟨a2,r2⟩:=st_cells t2 q2;have q3:=hf 3 f3 rfl;obtain ⟨z3,e3⟩:=hsome 3 (by omega);rw [e3,o3,k3] at q3;obtain ⟨a3,r3⟩:=st_cells t3 q3;have q4:=hf 4 f4 rfl;obtain ⟨z4,e4⟩:=hsome 4 (by omega);rw [e4,o4,k4] at q4;obtain ⟨a4,r4⟩:=st_cells t4 q4;have q5:=hf 5 f5 rfl;obtain ⟨z5,e5⟩:=hsome 5 (by omega);rw [e5,o5,k5] at q5;obtain ⟨a5,r5,g5⟩:=t5 _ _ _ q5;unfold tyS at r5;have q6:=hf 6 f6 rfl;obtain ⟨z6,e6⟩:=hsome 6 (by omega);rw [e6,o6,k6] at q6;have w6:∀ m∈z6.1.weights P f6.type,m∈x.1.weights P s:=fun m hm=>by rw [hx];simp only [DataW.weights,hs];exact DataW.weights_mem_each (j:=6) rfl (by rw [List.getElem?_map,e6];rfl) m hm
  have q7:=hf 7 f7 rfl;obtain ⟨z7,e7⟩:=hsome 7 (by omega);rw [e7,o7,k7] at q7;have w7:∀ m∈z7.1.weights P f7.type,m∈x.1.weights P s:=fun m hm=>by rw [hx];simp only [DataW.weights,hs];exact DataW.weights_mem_each (j:=7) rfl (by rw [List.getElem?_map,e7];rfl) m hm
  have q8:=hf 8 f8 rfl;obtain ⟨z8,e8⟩:=hsome 8 (by omega);rw [e8,o8,k8] at q8;have w8:∀ m∈z8.1.weights P f8.type,m∈x.1.weights P s:=fun m hm=>by rw [hx];simp only [DataW.weights,hs];exact DataW.weights_mem_each (j:=8) rfl (by rw [List.getElem?_map,e8];rfl) m hm
  simp at r0 r1 r2 r3 r4 r5;exact ⟨n,a0,a1,a2,a3,a4,a5,v8,z6,v9,z7,v10,z8,hfu,by simp only [r0,r1,r2,r3,r4,r5],g1,g5,⟨by simpa using q6,w6⟩,⟨by simpa using q7,w7⟩,⟨by simpa using q8,w8⟩⟩
theorem parC {s:TypeId} {f0 f1:Field} {fuel:Nat} {cs:List Value} {x:DataW H×List MemPlace}
 (hs:P.underlying s=some (.struct #[f0,f1])) (ho:f0.offset=0∧f1.offset=1) (hk:P.cellsOf f0.type=1∧P.cellsOf f1.type=3) (hC:P.cellsOf s=4)
 (t0:P.underlying f0.type=some .string)
 (t1:∀ fuel cs x,DataW.trod enc P W 0 (fun _=>true) true fuel f1.type cs=some x→∃ t:Ty,cs=tyS t ∧ -9223372036854775808≤t.n∧t.n≤9223372036854775807)
 (h:DataW.trod enc P W 0 (fun _=>true) true fuel s cs=some x):∃ (n:Nat) (a0:List UInt8) (a1:Ty),fuel=n+1∧cs=[.string (str a0),.int .u8 a1.kd,.int .i64 a1.n,.string (str a1.nm)]∧(-9223372036854775808≤a1.n∧a1.n≤9223372036854775807):=by
 obtain ⟨ys,n,hfu,hx,hlen,hyl,hf⟩:=DataW.trod_struct hs h;rw [hC] at hlen;obtain ⟨o0,o1⟩:=ho;obtain ⟨k0,k1⟩:=hk;have hsome:∀ j,j < 2→∃ z,ys[j]? = some z:=fun j hj=>⟨_,List.getElem?_eq_getElem (by rw [hyl];exact hj)⟩
 match cs,hlen with
 | [v0,v1,v2,v3],_=>
  have q0:=hf 0 f0 rfl;obtain ⟨z0,e0⟩:=hsome 0 (by omega);rw [e0,o0,k0] at q0;obtain ⟨a0,r0⟩:=st_cells t0 q0;have q1:=hf 1 f1 rfl;obtain ⟨z1,e1⟩:=hsome 1 (by omega);rw [e1,o1,k1] at q1;obtain ⟨a1,r1,g1⟩:=t1 _ _ _ q1;unfold tyS at r1;simp at r0 r1;exact ⟨n,a0,a1,hfu,by simp only [r0,r1],g1⟩
theorem strC {s:TypeId} {f0 f1:Field} {fuel:Nat} {cs:List Value} {x:DataW H×List MemPlace}
 (hs:P.underlying s=some (.struct #[f0,f1])) (ho:f0.offset=0∧f1.offset=1) (hk:P.cellsOf f0.type=1∧P.cellsOf f1.type=1) (hC:P.cellsOf s=2)
 (t0:P.underlying f0.type=some .string)
 (h:DataW.trod enc P W 0 (fun _=>true) true fuel s cs=some x):∃ (n:Nat) (a0:List UInt8) (a1:Value) (z1:DataW H×List MemPlace),fuel=n+1∧cs=[.string (str a0),a1]∧(DataW.trod enc P W 0 (fun _=>true) true n f1.type [a1]=some z1∧∀ m∈z1.1.weights P f1.type,m∈x.1.weights P s):=by
 obtain ⟨ys,n,hfu,hx,hlen,hyl,hf⟩:=DataW.trod_struct hs h;rw [hC] at hlen;obtain ⟨o0,o1⟩:=ho;obtain ⟨k0,k1⟩:=hk;have hsome:∀ j,j < 2→∃ z,ys[j]? = some z:=fun j hj=>⟨_,List.getElem?_eq_getElem (by rw [hyl];exact hj)⟩
 match cs,hlen with
 | [v0,v1],_=>
  have q0:=hf 0 f0 rfl;obtain ⟨z0,e0⟩:=hsome 0 (by omega);rw [e0,o0,k0] at q0;obtain ⟨a0,r0⟩:=st_cells t0 q0;have q1:=hf 1 f1 rfl;obtain ⟨z1,e1⟩:=hsome 1 (by omega);rw [e1,o1,k1] at q1;have w1:∀ m∈z1.1.weights P f1.type,m∈x.1.weights P s:=fun m hm=>by rw [hx];simp only [DataW.weights,hs];exact DataW.weights_mem_each (j:=1) rfl (by rw [List.getElem?_map,e1];rfl) m hm
  simp at r0;exact ⟨n,a0,v1,z1,hfu,by simp only [r0],⟨by simpa using q1,w1⟩⟩
theorem declC {s:TypeId} {f0 f1 f2 f3 f4:Field} {fuel:Nat} {cs:List Value} {x:DataW H×List MemPlace}
 (hs:P.underlying s=some (.struct #[f0,f1,f2,f3,f4])) (ho:f0.offset=0∧f1.offset=1∧f2.offset=2∧f3.offset=3∧f4.offset=6) (hk:P.cellsOf f0.type=1∧P.cellsOf f1.type=1∧P.cellsOf f2.type=1∧P.cellsOf f3.type=3∧P.cellsOf f4.type=1) (hC:P.cellsOf s=7)
 (t0:P.underlying f0.type=some .string)
 (t1:P.underlying f1.type=some (.int .i64))
 (t3:∀ fuel cs x,DataW.trod enc P W 0 (fun _=>true) true fuel f3.type cs=some x→∃ t:Ty,cs=tyS t ∧ -9223372036854775808≤t.n∧t.n≤9223372036854775807)
 (h:DataW.trod enc P W 0 (fun _=>true) true fuel s cs=some x):∃ (n:Nat) (a0:List UInt8) (a1:Int) (a2:Value) (z2:DataW H×List MemPlace) (a3:Ty) (a4:Value) (z4:DataW H×List MemPlace),fuel=n+1∧cs=[.string (str a0),.int .i64 a1,a2,.int .u8 a3.kd,.int .i64 a3.n,.string (str a3.nm),a4]∧(-9223372036854775808≤a1∧a1≤9223372036854775807)∧(DataW.trod enc P W 0 (fun _=>true) true n f2.type [a2]=some z2∧∀ m∈z2.1.weights P f2.type,m∈x.1.weights P s)∧(-9223372036854775808≤a3.n∧a3.n≤9223372036854775807)∧(DataW.trod enc P W 0 (fun _=>true) true n f4.type [a4]=some z4∧∀ m∈z4.1.weights P f4.type,m∈x.1.weights P s):=by
 obtain ⟨ys,n,hfu,hx,hlen,hyl,hf⟩:=DataW.trod_struct hs h;rw [hC] at hlen;obtain ⟨o0,o1,o2,o3,o4⟩:=ho;obtain ⟨k0,k1,k2,k3,k4⟩:=hk;have hsome:∀ j,j < 5→∃ z,ys[j]? = some z:=fun j hj=>⟨_,List.getElem?_eq_getElem (by rw [hyl];exact hj)⟩
 match cs,hlen with
 | [v0,v1,v2,v3,v4,v5,v6],_=>
  have q0:=hf 0 f0 rfl;obtain ⟨z0,e0⟩:=hsome 0 (by omega);rw [e0,o0,k0] at q0;obtain ⟨a0,r0⟩:=st_cells t0 q0;have q1:=hf 1 f1 rfl;obtain ⟨z1,e1⟩:=hsome 1 (by omega);rw [e1,o1,k1] at q1;obtain ⟨a1,r1,g1⟩:=int_cells t1 q1;have q2:=hf 2 f2 rfl;obtain ⟨z2,e2⟩:=hsome 2 (by omega);rw [e2,o2,k2] at q2;have w2:∀ m∈z2.1.weights P f2.type,m∈x.1.weights P s:=fun m hm=>by rw [hx];simp only [DataW.weights,hs];exact DataW.weights_mem_each (j:=2) rfl (by rw [List.getElem?_map,e2];rfl) m hm
  have q3:=hf 3 f3 rfl;obtain ⟨z3,e3⟩:=hsome 3 (by omega);rw [e3,o3,k3] at q3;obtain ⟨a3,r3,g3⟩:=t3 _ _ _ q3;unfold tyS at r3;have q4:=hf 4 f4 rfl;obtain ⟨z4,e4⟩:=hsome 4 (by omega);rw [e4,o4,k4] at q4;have w4:∀ m∈z4.1.weights P f4.type,m∈x.1.weights P s:=fun m hm=>by rw [hx];simp only [DataW.weights,hs];exact DataW.weights_mem_each (j:=4) rfl (by rw [List.getElem?_map,e4];rfl) m hm
  simp at r0 r1 r3;exact ⟨n,a0,a1,v2,z2,a3,v6,z4,hfu,by simp only [r0,r1,r3],g1,⟨by simpa using q2,w2⟩,g3,⟨by simpa using q4,w4⟩⟩
theorem progC {s:TypeId} {f0 f1:Field} {fuel:Nat} {cs:List Value} {x:DataW H×List MemPlace}
 (hs:P.underlying s=some (.struct #[f0,f1])) (ho:f0.offset=0∧f1.offset=1) (hk:P.cellsOf f0.type=1∧P.cellsOf f1.type=1) (hC:P.cellsOf s=2)
 (h:DataW.trod enc P W 0 (fun _=>true) true fuel s cs=some x):∃ (n:Nat) (a0:Value) (z0:DataW H×List MemPlace) (a1:Value) (z1:DataW H×List MemPlace),fuel=n+1∧cs=[a0,a1]∧(DataW.trod enc P W 0 (fun _=>true) true n f0.type [a0]=some z0∧∀ m∈z0.1.weights P f0.type,m∈x.1.weights P s)∧(DataW.trod enc P W 0 (fun _=>true) true n f1.type [a1]=some z1∧∀ m∈z1.1.weights P f1.type,m∈x.1.weights P s):=by
 obtain ⟨ys,n,hfu,hx,hlen,hyl,hf⟩:=DataW.trod_struct hs h;rw [hC] at hlen;obtain ⟨o0,o1⟩:=ho;obtain ⟨k0,k1⟩:=hk;have hsome:∀ j,j < 2→∃ z,ys[j]? = some z:=fun j hj=>⟨_,List.getElem?_eq_getElem (by rw [hyl];exact hj)⟩
 match cs,hlen with
 | [v0,v1],_=>
  have q0:=hf 0 f0 rfl;obtain ⟨z0,e0⟩:=hsome 0 (by omega);rw [e0,o0,k0] at q0;have w0:∀ m∈z0.1.weights P f0.type,m∈x.1.weights P s:=fun m hm=>by rw [hx];simp only [DataW.weights,hs];exact DataW.weights_mem_each (j:=0) rfl (by rw [List.getElem?_map,e0];rfl) m hm
  have q1:=hf 1 f1 rfl;obtain ⟨z1,e1⟩:=hsome 1 (by omega);rw [e1,o1,k1] at q1;have w1:∀ m∈z1.1.weights P f1.type,m∈x.1.weights P s:=fun m hm=>by rw [hx];simp only [DataW.weights,hs];exact DataW.weights_mem_each (j:=1) rfl (by rw [List.getElem?_map,e1];rfl) m hm
  exact ⟨n,v0,z0,v1,z1,hfu,rfl,⟨by simpa using q0,w0⟩,⟨by simpa using q1,w1⟩⟩
end
end Go.Proofs.Ytflhcdcifilfcaa

namespace Go.Proofs.Ytflhcdcifilfcaa
open Go.ChangeShapes Go.WideShapes Go.ChangeAt Go.RowKit Go.Deep

section
variable {H:Type} {enc:TypeId×Value→H} {W:World}
theorem exsRg_of:∀ {l:List XT},(∀ x∈l,x.d.rg)→exsRg (xsd l)
 | [],_=>by rw [xsd,exsRg];trivial
 | x::l,h=>by
  rw [xsd,exsRg];exact ⟨h x (by simp),exsRg_of fun y hy=>h y (List.mem_cons_of_mem _ hy)⟩
theorem stsRg_of:∀ {l:List XS},(∀ x∈l,x.d.rg)→stsRg (xssd l)
 | [],_=>by rw [xssd,stsRg];trivial
 | x::l,h=>by
  rw [xssd,stsRg];exact ⟨h x (by simp),stsRg_of fun y hy=>h y (List.mem_cons_of_mem _ hy)⟩
set_option maxRecDepth 100000 in
theorem typ_in:∀ (fuel:Nat) (cs:List Value) (x:DataW H×List MemPlace),DataW.trod enc Try.prog W 0 (fun _=>true) true fuel 45 cs=some x→∃ t:Ty,cs=tyS t ∧ -9223372036854775808≤t.n∧t.n≤9223372036854775807:=fun fuel cs x h=>by
 obtain ⟨n,a0,a1,a2,_,rfl,g1⟩:=typC Try.underlying45 ⟨rfl,rfl,rfl⟩ ⟨by kernel_rfl,by kernel_rfl,by kernel_rfl⟩ (by kernel_rfl) (by kernel_rfl) (by kernel_rfl) (by kernel_rfl) h;exact ⟨⟨a0,a1,a2⟩,rfl,g1⟩
set_option maxRecDepth 100000 in
theorem exps_in:∀ (fuel:Nat) (cs:List Value) (x:DataW H×List MemPlace),(∀ n∈x.1.weights Try.prog 49,n≤reachBytes)→DataW.trod enc Try.prog W 0 (fun _=>true) true fuel 49 cs=some x →
 ∃ (A:Option Addr) (c:Nat) (ks:List XT),cs=[.slice A ks.length c]∧RowG W.heap.size eX W (fun _=>True) A c ks∧xsOg W.heap.size W (fun _=>True) ks∧exsRg (xsd ks):=fun fuel=>by
 induction fuel using Nat.strongRecOn with
 | _ fuel ih=>
  intro cs x hw h
  obtain ⟨A,c,ks,h1,h2,h3,_⟩:=open_elsF eX (fun y=>y.Og W.heap.size W (fun _=>True)∧y.d.rg) Try.underlying49 (by kernel_rfl) (fun n hn cs x hw h=>by
   obtain ⟨n',a0,a1,a2,a3,a4,v5,z5,hn',rfl,g1,hz,hwz⟩:=expC Try.underlying53 ⟨rfl,rfl,rfl,rfl,rfl,rfl⟩ ⟨by kernel_rfl,by kernel_rfl,by kernel_rfl,by kernel_rfl,by kernel_rfl,by kernel_rfl⟩ (by kernel_rfl) (by kernel_rfl) (by kernel_rfl) (by kernel_rfl) (by kernel_rfl) (by kernel_rfl) h;obtain ⟨B,d,ks,e1,e2,e3,e4⟩:=ih n' (by omega) _ _ (fun m hm=>hw m (hwz m hm)) hz;injection e1 with e1 _;subst e1;refine ⟨.mk a0 a1 a2 a3 a4 B d ks,rfl,?_,?_⟩
   · rw [XT.Og];exact ⟨e2,e3⟩
   · rw [XT.d,Ex.rg]
     exact ⟨by omega,e4⟩) hw h
  exact ⟨A,c,ks,h1,h2,xsOg.of fun x hx=>(h3 x hx).1,exsRg_of fun x hx=>(h3 x hx).2⟩
set_option maxRecDepth 100000 in
theorem stmts_in:∀ (fuel:Nat) (cs:List Value) (x:DataW H×List MemPlace),(∀ n∈x.1.weights Try.prog 46,n≤reachBytes)→DataW.trod enc Try.prog W 0 (fun _=>true) true fuel 46 cs=some x →
 ∃ (A:Option Addr) (c:Nat) (ks:List XS),cs=[.slice A ks.length c]∧RowG W.heap.size eSt W (fun _=>True) A c ks∧xssOg W.heap.size W (fun _=>True) ks∧stsRg (xssd ks):=fun fuel=>by
 induction fuel using Nat.strongRecOn with
 | _ fuel ih=>
  intro cs x hw h
  obtain ⟨A,c,ks,h1,h2,h3,_⟩:=open_elsF eSt (fun y=>y.Og W.heap.size W (fun _=>True)∧y.d.rg) Try.underlying46 (by kernel_rfl) (fun n hn cs x hw h=>by
   obtain ⟨n',a0,a1,a2,a3,a4,a5,v6,z6,v7,z7,v8,z8,hn',rfl,g1,g5,⟨hz6,hw6⟩,⟨hz7,hw7⟩,hz8,hw8⟩:=stmtC Try.underlying51 ⟨rfl,rfl,rfl,rfl,rfl,rfl,rfl,rfl,rfl⟩ ⟨by kernel_rfl,by kernel_rfl,by kernel_rfl,by kernel_rfl,by kernel_rfl,by kernel_rfl,by kernel_rfl,by kernel_rfl,by kernel_rfl⟩ (by kernel_rfl) (by kernel_rfl) (by kernel_rfl) (by kernel_rfl) (by kernel_rfl) (by kernel_rfl) typ_in h;obtain ⟨kA,kc,ks,e1,e2,e3,e4⟩:=exps_in _ _ _ (fun m hm=>hw m (hw6 m hm)) hz6;injection e1 with e1 _;subst e1;obtain ⟨bA,bc,bd,e1,b2,b3,b4⟩:=ih n' (by omega) _ _ (fun m hm=>hw m (hw7 m hm)) hz7;injection e1 with e1 _;subst e1;obtain ⟨eA,ec,el,e1,l2,l3,l4⟩:=ih n' (by omega) _ _ (fun m hm=>hw m (hw8 m hm)) hz8;injection e1 with e1 _;subst e1;refine ⟨.mk a0 a1 a2 a3 a4 a5 kA kc ks bA bc bd eA ec el,rfl,?_,?_⟩
   · rw [XS.Og];exact ⟨⟨e2,b2,l2⟩,e3,b3,l3⟩
   · rw [XS.d,St.rg]
     exact ⟨g5,e4,b4,l4⟩) hw h
  exact ⟨A,c,ks,h1,h2,xssOg.of fun x hx=>(h3 x hx).1,stsRg_of fun x hx=>(h3 x hx).2⟩
def PgM.sized (p:PgM):Prop:=(∀ s∈p.ss,s.fs.length≤8796093022208)∧∀ d∈p.fs,d.ps.length≤8796093022208
set_option maxRecDepth 100000 in
theorem prog_in {v:Value} {d:DataW H} {p:List MemPlace} (hw:∀ n∈d.weights Try.prog 27,n≤reachBytes) {base:Nat} (hv:Value.okWide Try.prog W .any base 27 v) (h:DataW.Trod enc Try.prog W 0 (fun _=>true) true 27 v d p) :
 ∃ q:PgM,v = .agg q.cs.toArray∧q.Og W.heap.size W (fun _=>True)∧q.d.rg∧q.sized:=by
 obtain ⟨cs,rfl,hsz,_⟩:∃ cs,v = .agg cs∧cs.size=Try.prog.cellsOf 27∧Row.okWide Try.prog W .any base 27 cs:=by
  unfold Value.okWide at hv;rw [Try.underlying27] at hv;exact hv
 obtain ⟨fuel,hf⟩:=h;obtain ⟨n,v0,z0,v1,z1,_,e1,⟨hz0,hw0⟩,hz1,hw1⟩:=progC Try.underlying27 ⟨rfl,rfl⟩ ⟨by kernel_rfl,by kernel_rfl⟩ (by kernel_rfl) hf
 obtain ⟨A1,c1,ss,e2,s2,s3,_⟩:=open_elsF (fuel:=n) eSc (fun y=>y.Og W.heap.size W (fun _=>True)∧y.fs.length≤8796093022208) Try.underlying24 (by kernel_rfl) (fun n hn cs x hw h=>by
  obtain ⟨n',a0,v1,z1,_,rfl,hz,hwz⟩:=strC Try.underlying69 ⟨rfl,rfl⟩ ⟨by kernel_rfl,by kernel_rfl⟩ (by kernel_rfl) (by kernel_rfl) h
  obtain ⟨B,d,fs,e1,e2,_,e4⟩:=open_elsF (fuel:=n') eSr (fun _=>True) Try.underlying67 (by kernel_rfl) (fun n hn cs x hw h=>by
   obtain ⟨l,rfl⟩:=st_cells (by kernel_rfl) h
   exact ⟨l,rfl,trivial⟩) (fun m hm=>hw m (hwz m hm)) hz
  injection e1 with e1 _;subst e1;refine ⟨⟨a0,B,d,fs⟩,rfl,e2,?_⟩;rw [show Try.prog.bytesOf 9=16 by kernel_rfl] at e4;unfold reachBytes at e4;show fs.length≤_
  omega) (fun m hm=>hw m (hw0 m hm)) hz0
 injection e2 with e2 _;subst e2
 obtain ⟨A2,c2,fs,e2,d2,d3,_⟩:=open_elsF (fuel:=n) eDc (fun y=>y.Og W.heap.size W (fun _=>True)∧y.ps.length≤8796093022208∧(∀ x∈y.d.ps,-9223372036854775808≤x.ty.n∧x.ty.n≤9223372036854775807)∧(-9223372036854775808≤y.d.rs.n∧y.d.rs.n≤9223372036854775807)∧stsRg y.d.bd) Try.underlying25 (by kernel_rfl) (fun n hn cs x hw h=>by
  obtain ⟨n',a0,a1,v2,z2,a3,v4,z4,_,rfl,g1,⟨hz2,hw2⟩,g3,hz4,hw4⟩:=declC Try.underlying48 ⟨rfl,rfl,rfl,rfl,rfl⟩ ⟨by kernel_rfl,by kernel_rfl,by kernel_rfl,by kernel_rfl,by kernel_rfl⟩ (by kernel_rfl) (by kernel_rfl) (by kernel_rfl) typ_in h
  obtain ⟨B,d,ps,e1,e2,e3,e4⟩:=open_elsF (fuel:=n') ePm (fun y=> -9223372036854775808≤y.ty.n∧y.ty.n≤9223372036854775807) Try.underlying43 (by kernel_rfl) (fun n hn cs x hw h=>by
   obtain ⟨_,a0,a1,_,rfl,g1⟩:=parC Try.underlying75 ⟨rfl,rfl⟩ ⟨by kernel_rfl,by kernel_rfl⟩ (by kernel_rfl) (by kernel_rfl) typ_in h
   exact ⟨⟨a0,a1⟩,rfl,g1⟩) (fun m hm=>hw m (hw2 m hm)) hz2
  injection e1 with e1 _;subst e1;obtain ⟨bA,bc,bd,e1,b2,b3,b4⟩:=stmts_in _ _ _ (fun m hm=>hw m (hw4 m hm)) hz4;injection e1 with e1 _;subst e1;refine ⟨⟨a0,a1,B,d,ps,a3,bA,bc,bd⟩,rfl,⟨e2,b2,b3⟩,?_,e3,g3,b4⟩;rw [show Try.prog.bytesOf 75=48 by kernel_rfl] at e4;unfold reachBytes at e4;show ps.length≤_
  omega) (fun m hm=>hw m (hw1 m hm)) hz1
 injection e2 with e2 _;subst e2;refine ⟨⟨A1,c1,ss,A2,c2,fs⟩,?_,⟨s2,d2,fun s hs=>(s3 s hs).1,fun d hd=>(d3 d hd).1⟩,fun d hd=>?_,fun s hs=>(s3 s hs).2,fun d hd=>(d3 d hd).2.1⟩
 · have:=congrArg List.toArray e1;simpa [PgM.cs,Value.cells] using this
 · obtain ⟨d',hd',rfl⟩:=List.mem_map.1 hd;exact ⟨(d3 d' hd').2.2.1,(d3 d' hd').2.2.2.1,(d3 d' hd').2.2.2.2⟩
end
end Go.Proofs.Ytflhcdcifilfcaa

namespace Go.Proofs.Ytflhcdcifilfcaa
open Go.ChangeShapes Go.WideShapes Go.ChangeAt Go.Deep
open Go Go.RowKit

theorem Lq.new (w:World) (A1 A2:Option Addr) (n1 c1 n2 c2 m:Nat):Lq w (w.heap.size+1+1) w.heap.size (w.heap.size+1) [.slice A1 n1 c1,.slice A2 n2 c2] (w.heap.size+1+1+1) m (.slice none 0 0) (.slice none 0 0) (.slice none 0 0) (.slice none 0 0) [] [] 1 false [] True []
 ((((w.alloc (.cells #[.slice A1 n1 c1,.slice A2 n2 c2] 27)).alloc (.cells #[.slice none 0 0,.slice none 0 0] 27)).alloc (.cells #[.slice none 0 0,.int .i64 1,.int .i64 m,.bool false] 84)).alloc (.cells #[.slice none 0 0,.slice none 0 0] 27)):=by
 have b1:=below_lnew w (.cells #[.slice A1 n1 c1,.slice A2 n2 c2] 27);have s1:(w.alloc (.cells #[.slice A1 n1 c1,.slice A2 n2 c2] 27)).heap.size=w.heap.size+1:=by rw [World.size_alloc]
 have a1:CAt (w.alloc (.cells #[.slice A1 n1 c1,.slice A2 n2 c2] 27)) w.heap.size 27 [.slice A1 n1 c1,.slice A2 n2 c2]:=heap_alloc_new w _;obtain ⟨W1,h1⟩:∃ W,w.alloc (.cells #[.slice A1 n1 c1,.slice A2 n2 c2] 27)=W:=⟨_,rfl⟩;rw [h1] at b1 s1 a1 ⊢;have b2:=below_lnew W1 (.cells #[.slice none 0 0,.slice none 0 0] 27);have s2:(W1.alloc (.cells #[.slice none 0 0,.slice none 0 0] 27)).heap.size=w.heap.size+1+1:=by rw [World.size_alloc,s1]
 have a2:CAt (W1.alloc (.cells #[.slice none 0 0,.slice none 0 0] 27)) (w.heap.size+1) 27 [.slice none 0 0,.slice none 0 0]:=by rw [← s1];exact heap_alloc_new W1 _
 obtain ⟨W2,h2⟩:∃ W,W1.alloc (.cells #[.slice none 0 0,.slice none 0 0] 27)=W:=⟨_,rfl⟩;rw [h2] at b2 s2 a2 ⊢;have b3:=below_lnew W2 (.cells #[.slice none 0 0,.int .i64 1,.int .i64 m,.bool false] 84);have s3:(W2.alloc (.cells #[.slice none 0 0,.int .i64 1,.int .i64 m,.bool false] 84)).heap.size=w.heap.size+1+1+1:=by rw [World.size_alloc,s2]
 have a3:CAt (W2.alloc (.cells #[.slice none 0 0,.int .i64 1,.int .i64 m,.bool false] 84)) (w.heap.size+1+1) 84 [.slice none 0 0,.int .i64 1,.int .i64 m,.bool false]:=by rw [← s2];exact heap_alloc_new W2 _
 obtain ⟨W3,h3⟩:∃ W,W2.alloc (.cells #[.slice none 0 0,.int .i64 1,.int .i64 m,.bool false] 84)=W:=⟨_,rfl⟩;rw [h3] at b3 s3 a3 ⊢;have b4:=below_lnew W3 (.cells #[.slice none 0 0,.slice none 0 0] 27);have a4:CAt (W3.alloc (.cells #[.slice none 0 0,.slice none 0 0] 27)) (w.heap.size+1+1+1) 27 [.slice none 0 0,.slice none 0 0]:=by rw [← s3];exact heap_alloc_new W3 _
 have hB:=((b1.trans (b2.mono (by omega))).trans (b3.mono (by omega))).trans (b4.mono (by omega));exact ⟨⟨_,a3.below b4 a3.lt,El.Own.nil _ _,hB,.of_below hB,by omega⟩,a4,El.Own.nil _ _,El.Own.nil _ _,fun x hx=>absurd hx (by simp),fun x hx=>absurd hx (by simp),fun _=>⟨rfl,trivial,rfl⟩,((a1.below b2 a1.lt).below b3 (by omega)).below b4 (by omega),(a2.below b3 a2.lt).below b4 (by omega),⟨by omega,by omega,by omega⟩⟩
def LayR (m:Nat) (pg:PgM) (w:World) (e:Ending) (w':World):Prop:=∃ (vT:Value) (L:List To) (q:PgM) (fl:Bool),e = .returned (.tuple #[vT,.agg q.cs.toArray,.bool (!fl)])∧eTo.Own w' w.heap.size vT L∧q.Og w.heap.size w' (fun _=>True)∧Gd false fl [] L (FineP pg.d∧q.d=(pgL m pg.d).2) (pgL m pg.d).1∧L.length≤pg.d.sw m∧Below w.heap.size w w'
theorem res_tmp_row_tmp {P:Program} {fn:Func} {u p v:Tmp} {ty:TypeId} (h:fn.results=#[.tmp u,.cell p ty,.tmp v]) (tmps:Array Value) (w:World) (g:Nat) (t:TypeId) (cs:Array Value) (fr:Nat×Nat) (d:TypeDesc)
 (hp:tmps.getD p undef = .pointer (some ⟨g,0,none⟩)) (hg:w.heap[g]? = some (.cells cs t fr))
 (hu:P.underlying ty=some d) (hd:(match d with | .struct _ | .array _ _=>true | _=>false)=true) (hi:(P.info? ty).map (·.size)=some cs.size) :
 (results fn tmps).run P w = .ok (.tuple #[tmps.getD u undef,.agg cs,tmps.getD v undef]) w:=by
 have hp':tmps[p]?.getD undef = .pointer (some ⟨g,0,none⟩):=by simpa using hp
 simp [results,h,hp',asAddr,run_loadVar_row w g t ty cs fr d hg hu hd hi]
theorem lay_end {w W:World} {gy gp g5 gq m:Nat} {pc:List Value} {cS cF:Value} {ss:List ScM} {ds:List DcM} {ln:Int} {fl:Bool} {L T:List To} {p:Prop} {vT:Value} (K:Lq w gy gp g5 pc gq m cS cS cF cF ss ds ln fl L p T W) (hT:eTo.Own W (gy+1) vT L) (h5:w.heap.size≤g5) (pg:PgM)
 (hq:p→FineP pg.d∧(⟨ss.map ScM.d,ds.map DcM.d⟩:Pg)=(pgL m pg.d).2∧T=(pgL m pg.d).1) (hl:L.length≤pg.d.sw m) {fn:Func} (hf:fn.results=#[.tmp 4,.cell 5 27,.tmp 6]) {tmps:Array Value} (h4:tmps.getD 4 undef=vT) (hp5:tmps.getD 5 undef = .pointer (some ⟨g5,0,none⟩)) (h6:tmps.getD 6 undef = .bool (!fl)) {W9:World} (hW:W9=((W.setCell ⟨g5,0,none⟩ cS).setCell ⟨g5,1,none⟩ cF).drew) :
 bodyPost Try.prog fn (LayR m pg w) .ret { tmps:=tmps,defers:=[] } W9:=by
 have hg0:W.grownBy W9 (some g5):=by rw [hW];exact grown_trans (grown_trans (grown_set _ _ _ _) (grown_set _ _ _ _)) (grown_below ((Below.refl _ _).drew) _)
 have ht:HasT W g5 27:=⟨_,_,K.b2⟩;have hb:ButT 27 W W9:=ButT.grown hg0 fun k e=>by injection e with e;subst e;exact ht
 have hB:Below w.heap.size W W9:=(Below.refl _ _).grown hg0 K.y.bl.size (fun k e=>by injection e with e;omega);have key:∀ g e,HasG w.heap.size W g e→e≠27→W9.heap[g]? = W.heap[g]? := fun g e h1 h2=>hg0.block g h1.lt (fun q=>by injection q with q;exact h1.ne ht h2 h5 q)
 have hc:CAt W9 g5 27 [cS,cF]:=by rw [hW];exact (K.b2.set 0 cS).set 1 cF
 obtain ⟨AS,c1,rfl,r1⟩:=K.s.rowP;obtain ⟨AF,c2,rfl,r2⟩:=K.f.rowP;have e:=res_tmp_row_tmp hf tmps W9 g5 _ _ _ _ hp5 hc Try.underlying27 rfl pg_size;rw [h4,h6] at e;have hny:=K.y.nb
 exact bodyPost_ret e rfl ⟨vT,L,⟨AS,c1,ss,AF,c2,ds⟩,fl,rfl,(hT.but hb (by decide)).base (by omega),⟨(RowG.of r1).keep (fun g _ h=>key g _ h (by decide)) (fun _ _=>trivial),(RowG.of r2).keep (fun g _ h=>key g _ h (by decide)) (fun _ _=>trivial),fun x hx=>(K.sk x hx).keep (fun g _ h=>key g _ h (by decide)) (fun _ q=>q),fun d hd=>(K.fk d hd).keep (fun g _ h=>key g _ h (by decide)) (fun g _ h=>key g _ h (by decide)) (fun g _ h=>key g _ h (by decide)) (fun _ q=>q)⟩,
  K.g.as (fun q=>⟨(hq q).1,(hq q).2.1⟩) (fun q=>(hq q).2.2),hl,K.y.bl.trans hB⟩
set_option maxRecDepth 100000 in
set_option maxHeartbeats 16000000 in
theorem lay_any (m:Nat) (hm:m≤1000000) (pg:PgM) (w:World) (ho:pg.Og w.heap.size w (fun _=>True)) (hr:pg.d.rg) (hl:pg.d.sw m+10≤1000000) :
 Calls Try.prog 13 #[.agg pg.cs.toArray,.int .i64 m] w (LayR m pg w):=by
 obtain ⟨A1,c1,ss,A2,c2,fs⟩:=pg;obtain ⟨o1,o2,o3,o4⟩:=ho;have HL1:=h_ o1.1.lies;have HL2:=h_ o2.1.lies;have HO3:=h_ o3;have HO4:=h_ o4;have HRG:=h_ hr;have hdx:(PgM.mk A1 c1 ss A2 c2 fs).d=⟨ss.map ScM.d,fs.map DcM.d⟩:=rfl;have HLN:=h_ (show scsSw (ss.map ScM.d)+dcsSw m (fs.map DcM.d)+10≤1000000 from hl);have hn1:ss.length≤1000000:=by have:=scs_len (ss.map ScM.d);rw [List.length_map] at this;have:=HLN.out;omega
 have hn2:fs.length≤1000000:=by have:=dcs_len m (fs.map DcM.d);rw [List.length_map] at this;have:=HLN.out;omega
 clear o1 o2 o3 o4 hr hl hdx;unfold PgM.cs;dsimp only;obtain ⟨R,hR⟩:∃ R,LayR m ⟨A1,c1,ss,A2,c2,fs⟩ w=R:=⟨_,rfl⟩;rw [hR];have HR:=h_ hR;clear hR;go_enter Try.func13,Try.ntmps13;go_upto_region 3 with fail
 have k0:=Lq.new w A1 A2 ss.length c1 fs.length c2 m;obtain ⟨gq,hgq⟩:∃ g,w.heap.size+1+1+1=g:=⟨_,rfl⟩;obtain ⟨gy,hgy⟩:∃ g,w.heap.size+1+1=g:=⟨_,rfl⟩;obtain ⟨g5,hg5⟩:∃ g,w.heap.size+1=g:=⟨_,rfl⟩;obtain ⟨gp,hgp⟩:∃ g,w.heap.size=g:=⟨_,rfl⟩;rw [hgq,hgy,hg5,hgp] at k0 ⊢;obtain ⟨W4,hW4⟩:∃ W,((((w.alloc (.cells #[.slice A1 ss.length c1,.slice A2 fs.length c2] 27)).alloc (.cells #[.slice none 0 0,.slice none 0 0] 27)).alloc (.cells #[.slice none 0 0,.int .i64 1,.int .i64 m,.bool false] 84)).alloc (.cells #[.slice none 0 0,.slice none 0 0] 27))=W:=⟨_,rfl⟩;rw [hW4] at k0 ⊢;have HB5:=h_ (show w.heap.size≤g5 by omega);have K:=h_ k0;clear k0 hW4 hgq hgy hg5 hgp;go_wp2_with fail
 go_loopw [9,10,11] (fun i _ _ wr=>∃ (k:Nat) (cS:Value) (fl:Bool) (L:List To),k≤ss.length∧i = .int .i64 k∧Hid (Lq w gy gp g5 [.slice A1 ss.length c1,.slice A2 fs.length c2] gq m cS cS (.slice none 0 0) (.slice none 0 0) (ss.take k) [] 1 fl L True (((ss.take k).map fun s=>scL 1 s.d).flatten) wr)∧Hid (L.length≤scsSw ((ss.take k).map ScM.d))) (fun i _ _ _=>ss.length - (intOf i).toNat)
 case atStart=>exact ⟨0,_,false,[],by omega,rfl,h_ (by simpa using K.out),h_ (by simp)⟩
 case round=>
  clear K;obtain ⟨k,cS,fl,L,hk,rfl,K1,HB1⟩:=hrel;have p0:=K1.out.b1.cell (j:=0) (by simp);simp only [nD] at p0;by_cases hlt:k < ss.length
  · (have hki:(k:Int) < (ss.length:Int):=by omega);obtain ⟨g,o,rfl,hg,hc⟩:=(HL1.out.below K1.out.y.bl).at_ hlt;have HX:=h_ (HO3.out _ (List.getElem_mem hlt));have HT:=h_ (show ((ss.take (k+1)).map fun s=>scL 1 s.d).flatten=((ss.take k).map fun s=>scL 1 s.d).flatten++scL 1 ss[k].d by rw [map_take_snoc _ _ hlt,List.flatten_append];simp);have HTK:=h_ (show ss.take (k+1)=ss.take k++[ss[k]] from List.take_succ_eq_append_getElem hlt);have HWk:=h_ (scsSw_take ss hlt);have HW1:=h_ (show scsSw ((ss.take (k+1)).map ScM.d)=scsSw ((ss.take k).map ScM.d)+ss[k].d.sw by rw [map_take_snoc _ _ hlt,scsSw_app,scsSw,scsSw];omega);generalize ss[k]=x at *;obtain ⟨xn,xA,xc,xf⟩:=x;have d0:=hc 0 _ rfl;have d1:=hc 1 _ rfl;simp only [Nat.add_zero,show eSc.sz=2 from rfl] at d0 d1;(have hgw:g < wr.heap.size:=by have:=K1.out.y.bl.size;omega);clear hc;(go_wp2_with fail);have hbx:=below_lnew wr (.cells #[.string (str xn),.slice xA xf.length xc] 69);have hcx:CAt (wr.alloc (.cells #[.string (str xn),.slice xA xf.length xc] 69)) wr.heap.size 69 [.string (str xn),.slice xA xf.length xc]:=heap_alloc_new wr _;obtain ⟨gd,hgd⟩:∃ gd,wr.heap.size=gd:=⟨_,rfl⟩;(have hgq:gd≠gq:=fun e=>by have:=K1.out.q.lt;omega);rw [hgd] at hcx ⊢;obtain ⟨X10,hX⟩:∃ X,wr.alloc (.cells #[.string (str xn),.slice xA xf.length xc] 69)=X:=⟨_,rfl⟩;(have hsX:X10.heap.size=gd+1:=by rw [← hX,World.size_alloc,hgd]);rw [hX] at hbx hcx ⊢;have K10:=h_ (K1.out.below hbx);have HC:=h_ hcx;rw [show (gd+1:Nat)=X10.heap.size from hsX.symm];clear hbx hcx hX hsX hgd d0 d1 p0 hgw K1;refine (K10.out.put1 3 [116,121,112,101] (by (try simp only [nH,nF,nG]);have:=HB1.out;have:=HWk.out;have:=HLN.out;simp only [Sc.sw,ScM.d] at *;omega) _ rfl).mono ?_;rintro e X11 ⟨rfl,h9,f9⟩;have K11:=h_ h9;have HC:=h_ (f9.cat HC.out (by decide));clear h9 f9 K10;have e0:=HC.out.cell (j:=0) (by simp);have e1:=HC.out.cell (j:=1) (by simp);simp only [nD,nE] at e0 e1;(go_wp2_with fail);refine (K11.out.nam xn (by (try simp only [nH,nF,nG]);have:=HB1.out;have:=HWk.out;have:=HLN.out;simp only [Sc.sw,ScM.d] at *;omega)).mono ?_;rintro e X12 ⟨rfl,fl12,h9,f9⟩;have K12:=h_ h9;have HC:=h_ (f9.cat HC.out (by decide));clear h9 f9 K11;clear e0 e1;(go_wp2_with fail);refine (K12.out.put1 3 [115,116,114,117,99,116] (by (try simp only [nH,nF,nG]);have:=HB1.out;have:=HWk.out;have:=HLN.out;simp only [Sc.sw,ScM.d] at *;omega) _ (by simp)).mono ?_;rintro e X13 ⟨rfl,h9,f9⟩;have K13:=h_ h9;have HC:=h_ (f9.cat HC.out (by decide));clear h9 f9 K12;(go_wp2_with fail);refine (K13.out.put1 4 [123] (by (try simp only [nH,nF,nG]);have:=HB1.out;have:=HWk.out;have:=HLN.out;simp only [Sc.sw,ScM.d] at *;omega) _ (by simp)).mono ?_;rintro e X14 ⟨rfl,h9,f9⟩;have K14:=h_ h9;have HC:=h_ (f9.cat HC.out (by decide));clear h9 f9 K13;obtain ⟨T0,hT0⟩:∃ T0,((((((ss.take k).map fun s=>scL 1 s.d).flatten++[⟨3,[116,121,112,101],0,1⟩])++[nmT xn 1])++[⟨3,[115,116,114,117,99,116],0,1⟩])++[⟨4,[123],0,1⟩]:List To)=T0:=⟨_,rfl⟩;obtain ⟨L0,hL0⟩:∃ L0,(((L++[⟨3,[116,121,112,101],0,1⟩])++[nmT xn 1])++[⟨3,[115,116,114,117,99,116],0,1⟩])++[(⟨4,[123],0,1⟩:To)]=L0:=⟨_,rfl⟩;have K15:=h_ (show Lq w gy gp g5 [.slice (some ⟨g,o,none⟩) ss.length c1,.slice A2 fs.length c2] gq m cS cS (.slice none 0 0) (.slice none 0 0) (ss.take k) [] 1 fl12 L0 True T0 X14 by rw [← hT0,← hL0];exact K14.out);have HT0:=h_ hT0;have HB2:=h_ (show L0.length≤scsSw ((ss.take k).map ScM.d)+4 by have:=HB1.out;rw [← hL0];simp only [nH,nF,nG];omega);(have hxn:xf.length≤1000000:=by have:=HWk.out;have:=HLN.out;simp only [Sc.sw,ScM.d] at *;omega);clear hT0 hL0 K14;have e0:=HC.out.cell (j:=0) (by simp);have e1:=HC.out.cell (j:=1) (by simp);simp only [nD,nE] at e0 e1;go_wp2_with fail
    go_loopw [11] (fun j wr2=>∃ (i:Nat) (fl3:Bool) (L3:List To),i≤xf.length∧j = .int .i64 i∧Hid (Lq w gy gp g5 [.slice (some ⟨g,o,none⟩) ss.length c1,.slice A2 fs.length c2] gq m cS cS (.slice none 0 0) (.slice none 0 0) (ss.take k) [] 1 fl3 L3 True (T0++((xf.take i).map fun f=>[nmT f 1,wrd wInt 1,sgn [59] 1]).flatten) wr2)∧Hid (CAt wr2 gd 69 [.string (str xn),.slice xA xf.length xc])∧Hid (L3.length≤L0.length+3*i)) (fun j _=>xf.length - (intOf j).toNat)
    (case atStart=>exact ⟨0,_,L0,by omega,rfl,h_ (by simpa using K15.out),HC,h_ (by omega)⟩);case round=>
     clear K15 HC e0 e1;obtain ⟨i,fl3,L3,hi,rfl,K10,HC,HB3⟩:=hrel;have e0:=HC.out.cell (j:=0) (by simp);have e1:=HC.out.cell (j:=1) (by simp);simp only [nD,nE] at e0 e1;by_cases hli:i < xf.length
     · (have hii:(i:Int) < (xf.length:Int):=by omega);obtain ⟨g2,o2,hxA,hg2,hc2⟩:=(HX.out.1.lies.below K10.out.y.bl).at_ hli;dsimp only at hxA hc2;subst hxA;have HTF:=h_ (show ((xf.take (i+1)).map fun f=>[nmT f 1,wrd wInt 1,sgn [59] 1]).flatten=((xf.take i).map fun f=>[nmT f 1,wrd wInt 1,sgn [59] 1]).flatten++[nmT xf[i] 1,wrd wInt 1,sgn [59] 1] by rw [map_take_snoc _ _ hli,List.flatten_append];simp);generalize xf[i]=xs at *;have d0:=hc2 0 _ rfl;simp only [Nat.add_zero,show eSr.sz=1 from rfl,Nat.mul_one] at d0;(have hgw:g2 < wr.heap.size:=by have:=K10.out.y.bl.size;omega);clear hc2;(go_wp2_with fail);refine (K10.out.nam xs (by (try simp only [nH,nF,nG]);have:=HB3.out;have:=HB2.out;have:=HWk.out;have:=HLN.out;simp only [Sc.sw,ScM.d] at *;omega)).mono ?_;rintro e X11 ⟨rfl,fl11,h9,f9⟩;have K11:=h_ h9;have HC:=h_ (f9.cat HC.out (by decide));clear h9 f9 K10;clear d0 e0 e1 hgw;(go_wp2_with fail);refine (K11.out.put1 3 [105,110,116] (by (try simp only [nH,nF,nG]);have:=HB3.out;have:=HB2.out;have:=HWk.out;have:=HLN.out;simp only [Sc.sw,ScM.d] at *;omega) _ (by simp)).mono ?_;rintro e X12 ⟨rfl,h9,f9⟩;have K12:=h_ h9;have HC:=h_ (f9.cat HC.out (by decide));clear h9 f9 K11;(go_wp2_with fail);refine (K12.out.put1 4 [59] (by (try simp only [nH,nF,nG]);have:=HB3.out;have:=HB2.out;have:=HWk.out;have:=HLN.out;simp only [Sc.sw,ScM.d] at *;omega) _ (by simp)).mono ?_;rintro e X13 ⟨rfl,h9,f9⟩;have K13:=h_ h9;have HC:=h_ (f9.cat HC.out (by decide));clear h9 f9 K12;(go_wp2_with fail);refine ⟨⟨i+1,fl11,_,by omega,by go_num,h_ (K13.out.as id (fun _=>?_)),HC,h_ ?_⟩,by simp [intOf];omega⟩
       · rw [HTF.out];simp [wrd,sgn,wInt]
       · have:=HB3.out;simp only [nH,nF,nG];omega
     · (obtain rfl:i=xf.length:=by omega);have HT2:=h_ (show xf.take xf.length=xf from List.take_length);rw [HT2.out] at K10;(go_wp2_with fail);refine (K10.out.put1 4 [125] (by (try simp only [nH,nF,nG]);have:=HB3.out;have:=HB2.out;have:=HWk.out;have:=HLN.out;simp only [Sc.sw,ScM.d] at *;omega) _ (by simp)).mono ?_;rintro e X11 ⟨rfl,h9,f9⟩;have K11:=h_ h9;have HC:=h_ (f9.cat HC.out (by decide));clear h9 f9 K10;clear e0 e1;have e0:=HC.out.cell (j:=0) (by simp);have e1:=HC.out.cell (j:=1) (by simp);simp only [nD,nE] at e0 e1;obtain ⟨q0,q1,q2,q3,q4⟩:=K11.out.cells;have HXX:=h_ (below_lnew X11 (.cells #[.string (str xn),.slice xA xf.length xc] 69));have K12:=h_ (K11.out.below HXX.out);have HBB:=h_ (heap_alloc_new X11 (.cells #[.string (str xn),.slice xA xf.length xc] 69));have HLn:=h_ (show (ss.take k).length≤1000000 by rw [List.length_take];omega);have HXO:=h_ (HX.out.keep (Q:=fun _=>True) (fun g _ ht=>K12.out.y.bl.block g ht.lt) (fun _ _=>trivial));(go_wp2_with (at_builtin;(refine El.app1x eSc _ rfl 24 (.agg #[.string ⟨#[]⟩,.slice none 0 0]) 40 Try.underlying24 sc_info rfl (by decide) (by decide) (.tmp 67) (.tmp 69) rfl w.heap.size cS (ss.take k) rfl K12.out.s X11.heap.size 1 ⟨xn,xA,xc,xf⟩ rfl 69 HBB.out HLn.out K12.out.y.bl.size ?_);intro v9 Z9 ho9 hg9 hk9;obtain ⟨g9,c9,rfl⟩:=El.Own.at0 ho9 (by simp);obtain ⟨n9,hn9⟩:∃ n,(List.take k ss++[(⟨xn,xA,xc,xf⟩:ScM)]).length=n:=⟨_,rfl⟩;rw [hn9] at ho9 ⊢;have HH9:=h_ (And.intro ho9 hg9);clear hn9;clear ho9 hg9 hk9 q0 q1 q2 q3 q4;obtain ⟨q0,q1,q2,q3,q4⟩:=(K12.out.appS HH9.out.2 HH9.out.1 HXO.out).cells));have KB:=h_ ((K12.out.appS HH9.out.2 HH9.out.1 HXO.out).cell (cS2:= .slice (some ⟨g9,0,none⟩) n9 c9) (cF2:= .slice none 0 0) 0 (.slice (some ⟨g9,0,none⟩) n9 c9) rfl);refine ⟨⟨k+1,.slice (some ⟨g9,0,none⟩) n9 c9,fl3,L3++[⟨4,[125],0,1⟩],by omega,by go_num,h_ ?_,h_ ?_⟩,by simp [intOf];omega⟩
       · rw [HT.out,HTK.out];refine KB.out.as id (fun _=>?_);rw [← HT0.out];simp [scL,ScM.d,wrd,sgn,wType,wStruct]
       · have:=HB3.out;have:=HB2.out;rw [HW1.out];simp only [nH,nF,nG,Sc.sw,ScM.d];omega
  · (obtain rfl:k=ss.length:=by omega);have HTS:=h_ (show ss.take ss.length=ss from List.take_length);rw [HTS.out] at K1 HB1;clear p0;obtain ⟨TS,hTS⟩:∃ T,(ss.map fun s=>scL 1 s.d).flatten=T:=⟨_,rfl⟩;rw [hTS] at K1;have HTQ:=h_ hTS;clear hTS;have p0:=K1.out.b1.cell (j:=0) (by simp);simp only [nD] at p0;go_wp2_with fail
    go_loopw [12,13,14] (fun i _ _ wr=>∃ (k:Nat) (cF:Value) (ds:List DcM) (ln:Int) (fl3:Bool) (L3:List To),k≤fs.length∧i = .int .i64 k∧Hid (Lq w gy gp g5 [.slice A1 ss.length c1,.slice A2 fs.length c2] gq m cS cS cF cF ss ds ln fl3 L3 ((∀ d∈fs.take k,FineD d.d)∧ds.map DcM.d=(dcsL m 1 ((fs.take k).map DcM.d)).2.1∧ln=(dcsL m 1 ((fs.take k).map DcM.d)).2.2) (TS++(dcsL m 1 ((fs.take k).map DcM.d)).1) wr)∧Hid (ds.length=k)∧Hid (L3.length≤L.length+dcsSw m ((fs.take k).map DcM.d)∧1≤ln∧ln≤1+dcsSw m ((fs.take k).map DcM.d))) (fun i _ _ _=>fs.length - (intOf i).toNat)
    (case atStart=>exact ⟨0,_,[],1,fl,L,by omega,rfl,h_ (K1.out.as (fun _=>⟨fun d hd=>absurd hd (by simp),by simp [dcsL],by simp [dcsL]⟩) (fun _=>by simp [dcsL])),h_ rfl,h_ ⟨by omega,by omega,by omega⟩⟩);case round=>
     clear K1 p0;obtain ⟨k,cF,ds,ln,fl3,L3,hk,rfl,K1,HDL,HB2⟩:=hrel;have p1:=K1.out.b1.cell (j:=1) (by simp);simp only [nE,nD] at p1;by_cases hlt:k < fs.length
     · (have hki:(k:Int) < (fs.length:Int):=by omega);obtain ⟨g,o,rfl,hg,hc⟩:=(HL2.out.below K1.out.y.bl).at_ hlt;have HX:=h_ (HO4.out _ (List.getElem_mem hlt));have HXR:=h_ (HRG.out fs[k].d (List.mem_map_of_mem (List.getElem_mem hlt)));have HTK:=h_ (show fs.take (k+1)=fs.take k++[fs[k]] from List.take_succ_eq_append_getElem hlt);have HWk:=h_ (dcsSw_take m fs hlt);have HW1:=h_ (show dcsSw m ((fs.take (k+1)).map DcM.d)=dcsSw m ((fs.take k).map DcM.d)+fs[k].d.sw m by rw [map_take_snoc _ _ hlt,dcsSw_app,dcsSw,dcsSw];omega);have HDS:=h_ (show dcsL m 1 ((fs.take (k+1)).map DcM.d)=((dcsL m 1 ((fs.take k).map DcM.d)).1++(dcL m (dcsL m 1 ((fs.take k).map DcM.d)).2.2 fs[k].d).1,(dcsL m 1 ((fs.take k).map DcM.d)).2.1++[(dcL m (dcsL m 1 ((fs.take k).map DcM.d)).2.2 fs[k].d).2.1],(dcL m (dcsL m 1 ((fs.take k).map DcM.d)).2.2 fs[k].d).2.2) by rw [map_take_snoc _ _ hlt,dcsL_snoc]);generalize fs[k]=x at *;obtain ⟨dn,dl,pA,pc,ps,rs,bA,bc,bd⟩:=x;have d0:=hc 0 _ rfl;have d1:=hc 1 _ rfl;have d2:=hc 2 _ rfl;have d3:=hc 3 _ rfl;have d4:=hc 4 _ rfl;have d5:=hc 5 _ rfl;have d6:=hc 6 _ rfl;simp only [Nat.add_zero,show eDc.sz=7 from rfl] at d0 d1 d2 d3 d4 d5 d6;(have hgw:g < wr.heap.size:=by have:=K1.out.y.bl.size;omega);clear hc;have HS9:=h_ (show cS.ownBlock≠some wr.heap.size from fun e=>Nat.lt_irrefl _ (K1.out.s.lt _ e).2.1);have HF9:=h_ (show cF.ownBlock≠some wr.heap.size from fun e=>Nat.lt_irrefl _ (K1.out.f.lt _ e).2.1);have HGD:=h_ (show w.heap.size≤wr.heap.size from K1.out.y.bl.size);have hbx:=below_lnew wr (.cells #[.string (str dn),.int .i64 dl,.slice pA ps.length pc,.int .u8 rs.kd,.int .i64 rs.n,.string (str rs.nm),.slice bA bd.length bc] 48);have hcx:CAt (wr.alloc (.cells #[.string (str dn),.int .i64 dl,.slice pA ps.length pc,.int .u8 rs.kd,.int .i64 rs.n,.string (str rs.nm),.slice bA bd.length bc] 48)) wr.heap.size 48 [.string (str dn),.int .i64 dl,.slice pA ps.length pc,.int .u8 rs.kd,.int .i64 rs.n,.string (str rs.nm),.slice bA bd.length bc]:=heap_alloc_new wr _;have hq9:=K1.out.q.lt;have hy9:=K1.out.y.cells.2.2.2.2.2;obtain ⟨X10,hX⟩:∃ X,wr.alloc (.cells #[.string (str dn),.int .i64 dl,.slice pA ps.length pc,.int .u8 rs.kd,.int .i64 rs.n,.string (str rs.nm),.slice bA bd.length bc] 48)=X:=⟨_,rfl⟩;rw [hX] at hbx hcx;obtain ⟨gd,hgd⟩:∃ gd,wr.heap.size=gd:=⟨_,rfl⟩;rw [hgd] at hcx HS9 HF9 HGD;(have n1:¬ gd=gq:=by omega);(have n2:¬ gq=gd:=by omega);(have n3:¬ gd=gy:=by omega);(have n4:¬ gy=gd:=by omega);have K10:=h_ (K1.out.below hbx);have HC:=h_ hcx;have K11:=h_ (K10.out.line (ln+1));have HC1:=h_ (CAt.other HC.out (p:=⟨gy,1,none⟩) n3 (.int .i64 (ln+1)));have K12:=h_ (K11.out.turn (gd:=gd) ⟨_,_,HC1.out⟩ HGD.out (grown_set _ gd 1 (.int .i64 (ln+1))) (.inr rfl) HS9.out HF9.out);have HC2:=h_ (show CAt _ gd 48 [.string (str dn),.int .i64 (ln+1),.slice pA ps.length pc,.int .u8 rs.kd,.int .i64 rs.n,.string (str rs.nm),.slice bA bd.length bc] from HC1.out.set 1 (.int .i64 (ln+1)));(have hln1:0≤ln:=by have:=HB2.out;omega);(have hln2:ln≤1000000:=by have:=HB2.out;have:=HWk.out;have:=HLN.out;omega);obtain ⟨y1,y2,y3,y4,y5,y6⟩:=K10.out.y.cells;have x1:=HC.out.frozen 1;have x2:=HC.out.cell (j:=1) (by simp);simp only [nD,nE] at x2;have hbd:=hcx.lt;(go_wp2_with fail);obtain ⟨X20,hX3⟩:∃ X,((X10.setCell ⟨gy,1,none⟩ (.int .i64 (ln+1))).setCell ⟨gd,1,none⟩ (.int .i64 (ln+1)))=X:=⟨_,rfl⟩;(have hsX:X10.heap.size=X20.heap.size:=by rw [← hX3];simp [World.setCell]);rw [hX3] at K12 ⊢;have hc20:=HC2.out;rw [hX3] at hc20;have HCB:=h_ hc20;have K20:=h_ K12.out;clear hc20 hX3 hX hbx hcx hgd d0 d1 d2 d3 d4 d5 d6 p1 hgw K1 K10 K11 K12 HC HC1 HC2 y1 y2 y3 y4 y5 y6 x1 x2 hbd hq9 hy9;refine (K20.out.put1 3 [102,117,110,99] (by (try simp only [nH,nF,nG]);have:=HB1.out;have:=HB2.out;have:=HWk.out;have:=HLN.out;simp only [Dc.sw,DcM.d] at *;omega) _ hsX).mono ?_;rintro e X21 ⟨rfl,h9,f9⟩;clear hsX;have K21:=h_ h9;have HCB:=h_ (f9.cat HCB.out (by decide));clear h9 f9 K20;have e0:=HCB.out.cell (j:=0) (by simp);have e1:=HCB.out.cell (j:=1) (by simp);have e2:=HCB.out.cell (j:=2) (by simp);have e3:=HCB.out.cell (j:=3) (by simp);have e4:=HCB.out.cell (j:=4) (by simp);have e5:=HCB.out.cell (j:=5) (by simp);have e6:=HCB.out.cell (j:=6) (by simp);simp only [nD,nE] at e0 e1 e2 e3 e4 e5 e6;(go_wp2_with fail);refine (K21.out.nam dn (by (try simp only [nH,nF,nG]);have:=HB1.out;have:=HB2.out;have:=HWk.out;have:=HLN.out;simp only [Dc.sw,DcM.d] at *;omega)).mono ?_;rintro e X22 ⟨rfl,fl22,h9,f9⟩;have K22:=h_ h9;have HCB:=h_ (f9.cat HCB.out (by decide));clear h9 f9 K21;clear e0 e1 e2 e3 e4 e5 e6;(go_wp2_with fail);refine (K22.out.put1 4 [40] (by (try simp only [nH,nF,nG]);have:=HB1.out;have:=HB2.out;have:=HWk.out;have:=HLN.out;simp only [Dc.sw,DcM.d] at *;omega) _ (by simp)).mono ?_;rintro e X23 ⟨rfl,h9,f9⟩;have K23:=h_ h9;have HCB:=h_ (f9.cat HCB.out (by decide));clear h9 f9 K22;obtain ⟨P1,hP1⟩:∃ P,((∀ d∈fs.take k,FineD d.d)∧ds.map DcM.d=(dcsL m 1 ((fs.take k).map DcM.d)).2.1∧ln=(dcsL m 1 ((fs.take k).map DcM.d)).2.2)=P:=⟨_,rfl⟩;have HP1:=h_ hP1;obtain ⟨T0,hT0⟩:∃ T,((((TS++(dcsL m 1 ((fs.take k).map DcM.d)).1)++[⟨3,[102,117,110,99],0,ln+1⟩])++[nmT dn (ln+1)])++[⟨4,[40],0,ln+1⟩]:List To)=T:=⟨_,rfl⟩;have HT0:=h_ hT0;obtain ⟨L0,hL0⟩:∃ T,(((L3++[⟨3,[102,117,110,99],0,ln+1⟩])++[nmT dn (ln+1)])++[⟨4,[40],0,ln+1⟩]:List To)=T:=⟨_,rfl⟩;have K24:=h_ (show Lq w gy gp g5 [.slice A1 ss.length c1,.slice (some ⟨g,o,none⟩) fs.length c2] gq m cS cS cF cF ss ds (ln+1) fl22 L0 P1 T0 X23 by rw [← hP1,← hT0,← hL0];exact K23.out);have HB3:=h_ (show L0.length≤L.length+dcsSw m ((fs.take k).map DcM.d)+3 by have:=HB2.out.1;rw [← hL0];simp only [nH,nF,nG];omega);have hpn:ps.length≤1000000:=by have:=HWk.out;have:=HLN.out;simp only [Dc.sw,DcM.d] at *;omega
       clear hP1 hT0 hL0 K23;have e0:=HCB.out.cell (j:=0) (by simp);have e1:=HCB.out.cell (j:=1) (by simp);have e2:=HCB.out.cell (j:=2) (by simp);have e3:=HCB.out.cell (j:=3) (by simp);have e4:=HCB.out.cell (j:=4) (by simp);have e5:=HCB.out.cell (j:=5) (by simp);have e6:=HCB.out.cell (j:=6) (by simp);simp only [nD,nE] at e0 e1 e2 e3 e4 e5 e6;go_wp2_with fail
       go_loopw [14] (fun j wr=>∃ (i:Nat) (fl4:Bool) (L4:List To),i≤ps.length∧j = .int .i64 i∧Hid (Lq w gy gp g5 [.slice A1 ss.length c1,.slice (some ⟨g,o,none⟩) fs.length c2] gq m cS cS cF cF ss ds (ln+1) fl4 L4 (P1∧∀ x∈ps.take i,FineT x.ty) (T0++pmsL (ln+1) (ps.take i)) wr)∧Hid (CAt wr gd 48 [.string (str dn),.int .i64 (ln+1),.slice pA ps.length pc,.int .u8 rs.kd,.int .i64 rs.n,.string (str rs.nm),.slice bA bd.length bc])∧Hid (L4.length≤L0.length+6*i)) (fun j _=>ps.length - (intOf j).toNat)
       (case atStart=>exact ⟨0,_,L0,by omega,rfl,h_ (K24.out.as (fun q=>⟨q,fun x hx=>absurd hx (by simp)⟩) (fun _=>by simp [pmsL])),HCB,h_ (by omega)⟩);case round=>
        clear K24 HCB e0 e1 e2 e3 e4 e5 e6;obtain ⟨i,fl4,L4,hi,rfl,K30,HCB,HB4⟩:=hrel;have e0:=HCB.out.cell (j:=0) (by simp);have e1:=HCB.out.cell (j:=1) (by simp);have e2:=HCB.out.cell (j:=2) (by simp);have e3:=HCB.out.cell (j:=3) (by simp);have e4:=HCB.out.cell (j:=4) (by simp);have e5:=HCB.out.cell (j:=5) (by simp);have e6:=HCB.out.cell (j:=6) (by simp);simp only [nD,nE] at e0 e1 e2 e3 e4 e5 e6;by_cases hli:i < ps.length
        · (have hii:(i:Int) < (ps.length:Int):=by omega);obtain ⟨g2,o2,hpA,hg2,hc2⟩:=(HX.out.1.1.lies.below K30.out.y.bl).at_ hli;dsimp only at hpA hc2;subst hpA;have HTF:=h_ (show ps.take (i+1)=ps.take i++[ps[i]] from List.take_succ_eq_append_getElem hli);have HXQ:=h_ (HXR.out.1 ps[i] (List.getElem_mem hli));have HKK:=h_ (show ps.take i=[]↔i=0 by rw [List.take_eq_nil_iff];exact ⟨fun q=>q.elim id (fun q=>absurd hli (by rw [q];simp)),.inl⟩);generalize ps[i]=x at *;obtain ⟨xn,xt⟩:=x;have d0:=hc2 0 _ rfl;have d1:=hc2 1 _ rfl;have d2:=hc2 2 _ rfl;have d3:=hc2 3 _ rfl;simp only [Nat.add_zero,show ePm.sz=4 from rfl] at d0 d1 d2 d3;(have hgw:g2 < wr.heap.size:=by have:=K30.out.y.bl.size;omega);clear hc2;by_cases hi0:i=0
          · have H0:=h_ hi0;(have hk1:¬ (0:Int) < (i:Int):=by omega);clear hi0;have HDD:=h_ (fun (Z:World) (hz:FrG w.heap.size wr Z)=>(⟨(World.cell?_of_block (hz g2 75 (.inr ⟨hg2,hgw⟩) (by decide))).trans d0,(World.cell?_of_block (hz g2 75 (.inr ⟨hg2,hgw⟩) (by decide))).trans d1,(World.cell?_of_block (hz g2 75 (.inr ⟨hg2,hgw⟩) (by decide))).trans d2,(World.cell?_of_block (hz g2 75 (.inr ⟨hg2,hgw⟩) (by decide))).trans d3⟩:Z.cell? ⟨g2,o2+i*4,none⟩=some (.string (str xn))∧Z.cell? ⟨g2,o2+i*4+1,none⟩=some (.int .u8 xt.kd)∧Z.cell? ⟨g2,o2+i*4+2,none⟩=some (.int .i64 xt.n)∧Z.cell? ⟨g2,o2+i*4+3,none⟩=some (.string (str xt.nm))));(go_wp2_with fail);refine (K30.out.nam xn (by (try simp only [nH,nF,nG]);have:=HB4.out;have:=HB3.out;have:=HB1.out;have:=HWk.out;have:=HLN.out;simp only [Dc.sw,DcM.d] at *;omega)).mono ?_;rintro e X31 ⟨rfl,fl31,h9,f9⟩;clear d0 d1 d2 d3;obtain ⟨d0,d1,d2,d3⟩:=HDD.out _ f9;have K31:=h_ h9;have HCB:=h_ (f9.cat HCB.out (by decide));clear h9 f9 K30;clear e0 e1 e2 e3 e4 e5 e6;have e0:=HCB.out.cell (j:=0) (by simp);have e1:=HCB.out.cell (j:=1) (by simp);have e2:=HCB.out.cell (j:=2) (by simp);have e3:=HCB.out.cell (j:=3) (by simp);have e4:=HCB.out.cell (j:=4) (by simp);have e5:=HCB.out.cell (j:=5) (by simp);have e6:=HCB.out.cell (j:=6) (by simp);simp only [nD,nE] at e0 e1 e2 e3 e4 e5 e6;(go_wp2_with fail);refine (K31.out.kind xt HXQ.out (by (try simp only [nH,nF,nG]);have:=HB4.out;have:=HB3.out;have:=HB1.out;have:=HWk.out;have:=HLN.out;simp only [Dc.sw,DcM.d] at *;omega)).mono ?_;rintro e X32 ⟨rfl,fl32,L9,hl9,h9,f9⟩;have HL9:=h_ hl9;clear d0 d1 d2 d3 hl9;have K32:=h_ h9;have HCB:=h_ (f9.cat HCB.out (by decide));clear h9 f9 K31;(go_wp2_with fail);refine ⟨⟨i+1,fl32,L9,by omega,by go_num,h_ (K32.out.as (fun q=>⟨q.1.1,fun x hx=>?_⟩) (fun _=>?_)),HCB,h_ ?_⟩,by simp [intOf];omega⟩
            · rw [HTF.out] at hx;rcases List.mem_append.1 hx with hx | hx
              · exact q.1.2 x hx
              · rw [List.mem_singleton.1 hx];exact q.2
            · rw [HTF.out,pmsL_snoc,if_pos (HKK.out.2 H0.out)];simp [pmL]
            · have:=HL9.out;have:=HB4.out;simp only [nH,nF,nG] at *;omega
          · have H0:=h_ hi0;(have hk1:(0:Int) < (i:Int):=by omega);clear hi0;have HDD:=h_ (fun (Z:World) (hz:FrG w.heap.size wr Z)=>(⟨(World.cell?_of_block (hz g2 75 (.inr ⟨hg2,hgw⟩) (by decide))).trans d0,(World.cell?_of_block (hz g2 75 (.inr ⟨hg2,hgw⟩) (by decide))).trans d1,(World.cell?_of_block (hz g2 75 (.inr ⟨hg2,hgw⟩) (by decide))).trans d2,(World.cell?_of_block (hz g2 75 (.inr ⟨hg2,hgw⟩) (by decide))).trans d3⟩:Z.cell? ⟨g2,o2+i*4,none⟩=some (.string (str xn))∧Z.cell? ⟨g2,o2+i*4+1,none⟩=some (.int .u8 xt.kd)∧Z.cell? ⟨g2,o2+i*4+2,none⟩=some (.int .i64 xt.n)∧Z.cell? ⟨g2,o2+i*4+3,none⟩=some (.string (str xt.nm))));clear d0 d1 d2 d3;(go_wp2_with fail);refine (K30.out.put1 4 [44] (by (try simp only [nH,nF,nG]);have:=HB4.out;have:=HB3.out;have:=HB1.out;have:=HWk.out;have:=HLN.out;simp only [Dc.sw,DcM.d] at *;omega) _ (by simp)).mono ?_;rintro e X31 ⟨rfl,h9,f9⟩;have HF31:=h_ f9;obtain ⟨d0,d1,d2,d3⟩:=HDD.out _ f9;have K31:=h_ h9;have HCB:=h_ (f9.cat HCB.out (by decide));clear h9 f9 K30;clear e0 e1 e2 e3 e4 e5 e6;have e0:=HCB.out.cell (j:=0) (by simp);have e1:=HCB.out.cell (j:=1) (by simp);have e2:=HCB.out.cell (j:=2) (by simp);have e3:=HCB.out.cell (j:=3) (by simp);have e4:=HCB.out.cell (j:=4) (by simp);have e5:=HCB.out.cell (j:=5) (by simp);have e6:=HCB.out.cell (j:=6) (by simp);simp only [nD,nE] at e0 e1 e2 e3 e4 e5 e6;(go_wp2_with fail);refine (K31.out.nam xn (by (try simp only [nH,nF,nG]);have:=HB4.out;have:=HB3.out;have:=HB1.out;have:=HWk.out;have:=HLN.out;simp only [Dc.sw,DcM.d] at *;omega)).mono ?_;rintro e X32 ⟨rfl,fl32,h9,f9⟩;clear d0 d1 d2 d3;obtain ⟨d0,d1,d2,d3⟩:=HDD.out _ (fun g e h1 h2=>(f9 g e (h1.same (HF31.out g e h1 h2)) h2).trans (HF31.out g e h1 h2));have K32:=h_ h9;have HCB:=h_ (f9.cat HCB.out (by decide));clear h9 f9 K31;clear e0 e1 e2 e3 e4 e5 e6;have e0:=HCB.out.cell (j:=0) (by simp);have e1:=HCB.out.cell (j:=1) (by simp);have e2:=HCB.out.cell (j:=2) (by simp);have e3:=HCB.out.cell (j:=3) (by simp);have e4:=HCB.out.cell (j:=4) (by simp);have e5:=HCB.out.cell (j:=5) (by simp);have e6:=HCB.out.cell (j:=6) (by simp);simp only [nD,nE] at e0 e1 e2 e3 e4 e5 e6;(go_wp2_with fail);refine (K32.out.kind xt HXQ.out (by (try simp only [nH,nF,nG]);have:=HB4.out;have:=HB3.out;have:=HB1.out;have:=HWk.out;have:=HLN.out;simp only [Dc.sw,DcM.d] at *;omega)).mono ?_;rintro e X33 ⟨rfl,fl33,L9,hl9,h9,f9⟩;have HL9:=h_ hl9;clear d0 d1 d2 d3 hl9;have K33:=h_ h9;have HCB:=h_ (f9.cat HCB.out (by decide));clear h9 f9 K32;(go_wp2_with fail);refine ⟨⟨i+1,fl33,L9,by omega,by go_num,h_ (K33.out.as (fun q=>⟨q.1.1,fun x hx=>?_⟩) (fun _=>?_)),HCB,h_ ?_⟩,by simp [intOf];omega⟩
            · rw [HTF.out] at hx;rcases List.mem_append.1 hx with hx | hx
              · exact q.1.2 x hx
              · rw [List.mem_singleton.1 hx];exact q.2
            · rw [HTF.out,pmsL_snoc,if_neg (fun q=>H0.out (HKK.out.1 q))];simp [pmL,sgn]
            · have:=HL9.out;have:=HB4.out;simp only [nH,nF,nG] at *;omega
        · (obtain rfl:i=ps.length:=by omega);have HT2:=h_ (show ps.take ps.length=ps from List.take_length);rw [HT2.out] at K30;(go_wp2_with fail);refine (K30.out.put1 4 [41] (by (try simp only [nH,nF,nG]);have:=HB4.out;have:=HB3.out;have:=HB1.out;have:=HWk.out;have:=HLN.out;simp only [Dc.sw,DcM.d] at *;omega) _ (by simp)).mono ?_;rintro e X31 ⟨rfl,h9,f9⟩;have K31:=h_ h9;have HCB:=h_ (f9.cat HCB.out (by decide));clear h9 f9 K30;clear e0 e1 e2 e3 e4 e5 e6;have e0:=HCB.out.cell (j:=0) (by simp);have e1:=HCB.out.cell (j:=1) (by simp);have e2:=HCB.out.cell (j:=2) (by simp);have e3:=HCB.out.cell (j:=3) (by simp);have e4:=HCB.out.cell (j:=4) (by simp);have e5:=HCB.out.cell (j:=5) (by simp);have e6:=HCB.out.cell (j:=6) (by simp);simp only [nD,nE] at e0 e1 e2 e3 e4 e5 e6;cases hrs:tyB rs with
          | true=>
           (have hneq2:∀ w,(binOp .neq 45 (.agg #[.int .u8 rs.kd,.int .i64 rs.n,.string (str rs.nm)]) (.agg #[.int .u8 0,.int .i64 0,.string ⟨#[]⟩])).run Try.prog w = .ok (.bool false) w:=fun w=>by rw [ty_run,hrs];rfl);have HRS:=h_ hrs;clear hrs;(go_wp2_with fail);refine (K31.out.blk hm HXR.out.2.2 (HX.out.2.1.keep (fun g _ ht=>K31.out.y.bl.block g ht.lt) (fun _ q=>q)) (xssOg.keep (fun g _ ht=>K31.out.y.bl.block g ht.lt) (fun g _ ht=>K31.out.y.bl.block g ht.lt) (fun _ q=>q) bd HX.out.2.2) (by (try simp only [nH,nF,nG]);have:=HB4.out;have:=HB3.out;have:=HB1.out;have:=HWk.out;have:=HLN.out;simp only [Dc.sw,DcM.d] at *;omega) (by omega) (by have:=HB2.out;have:=HWk.out;have:=HLN.out;simp only [Dc.sw,DcM.d] at *;omega)).mono ?_;rintro e X40 ⟨rA,rc,rts,fl9,L40,ln9,rfl,hL40,hln9,HTT,h9,f9⟩;have K40:=h_ h9;have HC40:=h_ (f9.cat HCB.out (by decide));have HL40:=h_ (And.intro hL40 hln9);clear h9 f9 hL40 hln9 K31;clear e0 e1 e2 e3 e4 e5 e6;have K41:=h_ (K40.out.turn (gd:=gd) ⟨_,_,HC40.out⟩ HGD.out (grown_set _ gd 6 (.slice rA rts.length rc)) (.inr rfl) HS9.out HF9.out);have hc41:CAt (X40.setCell ⟨gd,6,none⟩ (.slice rA rts.length rc)) gd 48 [.string (str dn),.int .i64 (ln+1),.slice pA ps.length pc,.int .u8 rs.kd,.int .i64 rs.n,.string (str rs.nm),.slice rA rts.length rc]:=HC40.out.set 6 (.slice rA rts.length rc);have x1:=HC40.out.frozen 6;have x2:=HC40.out.cell (j:=6) (by simp);have x3:=HC40.out.lt;simp only [nD,nE] at x2;(have hkb:∀ g e,HasG w.heap.size X40 g e→e≠48→(X40.setCell ⟨gd,6,none⟩ (.slice rA rts.length rc)).heap[g]? = X40.heap[g]? := fun g e h1 h2=>Below.heap_setCell _ _ _ g (h1.ne ⟨_,_,HC40.out⟩ h2 HGD.out));obtain ⟨X41,hX41⟩:∃ X,X40.setCell ⟨gd,6,none⟩ (.slice rA rts.length rc)=X:=⟨_,rfl⟩;rw [hX41] at K41 hc41 hkb;have HKB:=h_ hkb;clear hkb;have HCB:=h_ hc41;clear hc41;have e0:=HCB.out.cell (j:=0) (by simp);have e1:=HCB.out.cell (j:=1) (by simp);have e2:=HCB.out.cell (j:=2) (by simp);have e3:=HCB.out.cell (j:=3) (by simp);have e4:=HCB.out.cell (j:=4) (by simp);have e5:=HCB.out.cell (j:=5) (by simp);have e6:=HCB.out.cell (j:=6) (by simp);simp only [nD,nE] at e0 e1 e2 e3 e4 e5 e6;obtain ⟨q0,q1,q2,q3,q4⟩:=K41.out.cells;have K42:=h_ (K41.out.below (below_lnew X41 (.cells #[.string (str dn),.int .i64 (ln+1),.slice pA ps.length pc,.int .u8 rs.kd,.int .i64 rs.n,.string (str rs.nm),.slice rA rts.length rc] 48)));have HBB:=h_ (heap_alloc_new X41 (.cells #[.string (str dn),.int .i64 (ln+1),.slice pA ps.length pc,.int .u8 rs.kd,.int .i64 rs.n,.string (str rs.nm),.slice rA rts.length rc] 48));have HLn:=h_ (show ds.length≤1000000 by have:=HDL.out;omega);have HXO:=h_ (show DcM.Og w.heap.size (X41.alloc (.cells #[.string (str dn),.int .i64 (ln+1),.slice pA ps.length pc,.int .u8 rs.kd,.int .i64 rs.n,.string (str rs.nm),.slice rA rts.length rc] 48)) (fun _=>True) ⟨dn,ln+1,pA,pc,ps,rs,rA,rc,rts⟩ from ⟨HX.out.1.keep (fun g _ ht=>K42.out.y.bl.block g ht.lt) (fun _ q=>q),HTT.out.1.keep (fun g _ ht=>((below_lnew X41 _).block g (by have:=(ht.same (HKB.out g _ ht (by decide))).lt;exact this)).trans (HKB.out g _ ht (by decide))) (fun _ q=>q),xssOg.keep (fun g _ ht=>((below_lnew X41 _).block g (by have:=(ht.same (HKB.out g _ ht (by decide))).lt;exact this)).trans (HKB.out g _ ht (by decide))) (fun g _ ht=>((below_lnew X41 _).block g (by have:=(ht.same (HKB.out g _ ht (by decide))).lt;exact this)).trans (HKB.out g _ ht (by decide))) (fun _ q=>q) rts HTT.out.2⟩);clear HX HTT;(go_wp2_with (at_builtin;(refine El.app1x eDc _ rfl 25 (.agg #[.string ⟨#[]⟩,.int .i64 0,.slice none 0 0,.int .u8 0,.int .i64 0,.string ⟨#[]⟩,.slice none 0 0]) 104 Try.underlying25 dc_info rfl (by decide) (by decide) (.tmp 151) (.tmp 153) rfl w.heap.size cF ds rfl K42.out.f X41.heap.size 1 ⟨dn,ln+1,pA,pc,ps,rs,rA,rc,rts⟩ rfl 48 HBB.out HLn.out K42.out.y.bl.size ?_);intro v9 Z9 ho9 hg9 hk9;obtain ⟨g9,c9,rfl⟩:=El.Own.at0 ho9 (by simp);obtain ⟨n9,hn9⟩:∃ n,(ds++[(⟨dn,ln+1,pA,pc,ps,rs,rA,rc,rts⟩:DcM)]).length=n:=⟨_,rfl⟩;rw [hn9] at ho9 ⊢;have HH9:=h_ (And.intro ho9 hg9);clear hn9 ho9 hg9 hk9 q0 q1 q2 q3 q4;obtain ⟨q0,q1,q2,q3,q4⟩:=(K42.out.appF HH9.out.2 HH9.out.1 HXO.out).cells));have KB:=h_ ((K42.out.appF HH9.out.2 HH9.out.1 HXO.out).cell (cS2:=cS) (cF2:= .slice (some ⟨g9,0,none⟩) n9 c9) 1 (.slice (some ⟨g9,0,none⟩) n9 c9) rfl);refine ⟨⟨k+1,.slice (some ⟨g9,0,none⟩) n9 c9,ds++[⟨dn,ln+1,pA,pc,ps,rs,rA,rc,rts⟩],ln9,fl9,L40,by omega,by go_num,h_ (KB.out.as (fun q=>?_) (fun q=>?_)),h_ (by rw [nH,HDL.out];rfl),h_ ?_⟩,by simp [intOf];omega⟩
           · obtain ⟨⟨qp,qa⟩,qb,qt,ql⟩:=q;rw [← HP1.out] at qp;obtain ⟨w1,w2,w3⟩:=qp;have hrs:rs=ty0:=(tyB_iff rs).1 HRS.out;refine ⟨fun d hd=>?_,?_,?_⟩
             · rw [HTK.out] at hd;rcases List.mem_append.1 hd with hd | hd
               · exact w1 d hd
               · rw [List.mem_singleton.1 hd];exact ⟨qa,.inl hrs,qb⟩
             · rw [HDS.out,List.map_append,w2,← w3];simp only [dcL,DcM.d,List.map_cons,List.map_nil,qt]
             · rw [HDS.out,← w3,ql];rfl
           · obtain ⟨⟨qp,qa⟩,qb,qt,ql⟩:=q;rw [← HP1.out] at qp;obtain ⟨w1,w2,w3⟩:=qp;have hrs:rs=ty0:=(tyB_iff rs).1 HRS.out;rw [← HT0.out,HDS.out,← w3,ql];simp [dcL,DcM.d,wrd,sgn,wFunc,hrs,ty0]
           · have a1:=HL40.out;have a2:=HB4.out;have a3:=HB3.out;have a4:=HB2.out;rw [HW1.out];simp only [nH,nF,nG,Dc.sw,DcM.d] at *;omega
          | false=>
           (have hneq2:∀ w,(binOp .neq 45 (.agg #[.int .u8 rs.kd,.int .i64 rs.n,.string (str rs.nm)]) (.agg #[.int .u8 0,.int .i64 0,.string ⟨#[]⟩])).run Try.prog w = .ok (.bool true) w:=fun w=>by rw [ty_run,hrs];rfl);have HRS:=h_ hrs;clear hrs;(go_wp2_with fail);refine (K31.out.kind rs HXR.out.2.1 (by (try simp only [nH,nF,nG]);have:=HB4.out;have:=HB3.out;have:=HB1.out;have:=HWk.out;have:=HLN.out;simp only [Dc.sw,DcM.d] at *;omega)).mono ?_;rintro e X32 ⟨rfl,fl32,L9,hl9,h9,f9⟩;have HL9:=h_ hl9;clear hl9 hneq2;have K32:=h_ h9;have HCB:=h_ (f9.cat HCB.out (by decide));clear h9 f9 K31;clear e0 e1 e2 e3 e4 e5 e6;have e0:=HCB.out.cell (j:=0) (by simp);have e1:=HCB.out.cell (j:=1) (by simp);have e2:=HCB.out.cell (j:=2) (by simp);have e3:=HCB.out.cell (j:=3) (by simp);have e4:=HCB.out.cell (j:=4) (by simp);have e5:=HCB.out.cell (j:=5) (by simp);have e6:=HCB.out.cell (j:=6) (by simp);simp only [nD,nE] at e0 e1 e2 e3 e4 e5 e6;(go_wp2_with fail);refine (K32.out.blk hm HXR.out.2.2 (HX.out.2.1.keep (fun g _ ht=>K32.out.y.bl.block g ht.lt) (fun _ q=>q)) (xssOg.keep (fun g _ ht=>K32.out.y.bl.block g ht.lt) (fun g _ ht=>K32.out.y.bl.block g ht.lt) (fun _ q=>q) bd HX.out.2.2) (by have hq:=HL9.out;(try simp only [nH,nF,nG] at hq);have:=HB4.out;have:=HB3.out;have:=HB1.out;have:=HWk.out;have:=HLN.out;simp only [Dc.sw,DcM.d] at *;omega) (by omega) (by have:=HB2.out;have:=HWk.out;have:=HLN.out;simp only [Dc.sw,DcM.d] at *;omega)).mono ?_;rintro e X40 ⟨rA,rc,rts,fl9,L40,ln9,rfl,hL40,hln9,HTT,h9,f9⟩;have K40:=h_ h9;have HC40:=h_ (f9.cat HCB.out (by decide));have HL40:=h_ (And.intro hL40 hln9);clear h9 f9 hL40 hln9 K32;clear e0 e1 e2 e3 e4 e5 e6;have K41:=h_ (K40.out.turn (gd:=gd) ⟨_,_,HC40.out⟩ HGD.out (grown_set _ gd 6 (.slice rA rts.length rc)) (.inr rfl) HS9.out HF9.out);have hc41:CAt (X40.setCell ⟨gd,6,none⟩ (.slice rA rts.length rc)) gd 48 [.string (str dn),.int .i64 (ln+1),.slice pA ps.length pc,.int .u8 rs.kd,.int .i64 rs.n,.string (str rs.nm),.slice rA rts.length rc]:=HC40.out.set 6 (.slice rA rts.length rc);have x1:=HC40.out.frozen 6;have x2:=HC40.out.cell (j:=6) (by simp);have x3:=HC40.out.lt;simp only [nD,nE] at x2;(have hkb:∀ g e,HasG w.heap.size X40 g e→e≠48→(X40.setCell ⟨gd,6,none⟩ (.slice rA rts.length rc)).heap[g]? = X40.heap[g]? := fun g e h1 h2=>Below.heap_setCell _ _ _ g (h1.ne ⟨_,_,HC40.out⟩ h2 HGD.out));obtain ⟨X41,hX41⟩:∃ X,X40.setCell ⟨gd,6,none⟩ (.slice rA rts.length rc)=X:=⟨_,rfl⟩;rw [hX41] at K41 hc41 hkb;have HKB:=h_ hkb;clear hkb;have HCB:=h_ hc41;clear hc41;have e0:=HCB.out.cell (j:=0) (by simp);have e1:=HCB.out.cell (j:=1) (by simp);have e2:=HCB.out.cell (j:=2) (by simp);have e3:=HCB.out.cell (j:=3) (by simp);have e4:=HCB.out.cell (j:=4) (by simp);have e5:=HCB.out.cell (j:=5) (by simp);have e6:=HCB.out.cell (j:=6) (by simp);simp only [nD,nE] at e0 e1 e2 e3 e4 e5 e6;obtain ⟨q0,q1,q2,q3,q4⟩:=K41.out.cells;have K42:=h_ (K41.out.below (below_lnew X41 (.cells #[.string (str dn),.int .i64 (ln+1),.slice pA ps.length pc,.int .u8 rs.kd,.int .i64 rs.n,.string (str rs.nm),.slice rA rts.length rc] 48)));have HBB:=h_ (heap_alloc_new X41 (.cells #[.string (str dn),.int .i64 (ln+1),.slice pA ps.length pc,.int .u8 rs.kd,.int .i64 rs.n,.string (str rs.nm),.slice rA rts.length rc] 48));have HLn:=h_ (show ds.length≤1000000 by have:=HDL.out;omega);have HXO:=h_ (show DcM.Og w.heap.size (X41.alloc (.cells #[.string (str dn),.int .i64 (ln+1),.slice pA ps.length pc,.int .u8 rs.kd,.int .i64 rs.n,.string (str rs.nm),.slice rA rts.length rc] 48)) (fun _=>True) ⟨dn,ln+1,pA,pc,ps,rs,rA,rc,rts⟩ from ⟨HX.out.1.keep (fun g _ ht=>K42.out.y.bl.block g ht.lt) (fun _ q=>q),HTT.out.1.keep (fun g _ ht=>((below_lnew X41 _).block g (by have:=(ht.same (HKB.out g _ ht (by decide))).lt;exact this)).trans (HKB.out g _ ht (by decide))) (fun _ q=>q),xssOg.keep (fun g _ ht=>((below_lnew X41 _).block g (by have:=(ht.same (HKB.out g _ ht (by decide))).lt;exact this)).trans (HKB.out g _ ht (by decide))) (fun g _ ht=>((below_lnew X41 _).block g (by have:=(ht.same (HKB.out g _ ht (by decide))).lt;exact this)).trans (HKB.out g _ ht (by decide))) (fun _ q=>q) rts HTT.out.2⟩);clear HX HTT;(go_wp2_with (at_builtin;(refine El.app1x eDc _ rfl 25 (.agg #[.string ⟨#[]⟩,.int .i64 0,.slice none 0 0,.int .u8 0,.int .i64 0,.string ⟨#[]⟩,.slice none 0 0]) 104 Try.underlying25 dc_info rfl (by decide) (by decide) (.tmp 151) (.tmp 153) rfl w.heap.size cF ds rfl K42.out.f X41.heap.size 1 ⟨dn,ln+1,pA,pc,ps,rs,rA,rc,rts⟩ rfl 48 HBB.out HLn.out K42.out.y.bl.size ?_);intro v9 Z9 ho9 hg9 hk9;obtain ⟨g9,c9,rfl⟩:=El.Own.at0 ho9 (by simp);obtain ⟨n9,hn9⟩:∃ n,(ds++[(⟨dn,ln+1,pA,pc,ps,rs,rA,rc,rts⟩:DcM)]).length=n:=⟨_,rfl⟩;rw [hn9] at ho9 ⊢;have HH9:=h_ (And.intro ho9 hg9);clear hn9 ho9 hg9 hk9 q0 q1 q2 q3 q4;obtain ⟨q0,q1,q2,q3,q4⟩:=(K42.out.appF HH9.out.2 HH9.out.1 HXO.out).cells));have KB:=h_ ((K42.out.appF HH9.out.2 HH9.out.1 HXO.out).cell (cS2:=cS) (cF2:= .slice (some ⟨g9,0,none⟩) n9 c9) 1 (.slice (some ⟨g9,0,none⟩) n9 c9) rfl);refine ⟨⟨k+1,.slice (some ⟨g9,0,none⟩) n9 c9,ds++[⟨dn,ln+1,pA,pc,ps,rs,rA,rc,rts⟩],ln9,fl9,L40,by omega,by go_num,h_ (KB.out.as (fun q=>?_) (fun q=>?_)),h_ (by rw [nH,HDL.out];rfl),h_ ?_⟩,by simp [intOf];omega⟩
           · obtain ⟨⟨⟨qp,qa⟩,qr⟩,qb,qt,ql⟩:=q;rw [← HP1.out] at qp;obtain ⟨w1,w2,w3⟩:=qp;(have hrs:rs.kd≠0:=by cases qr<;>(dsimp only;decide));refine ⟨fun d hd=>?_,?_,?_⟩
             · rw [HTK.out] at hd;rcases List.mem_append.1 hd with hd | hd
               · exact w1 d hd
               · rw [List.mem_singleton.1 hd];exact ⟨qa,.inr qr,qb⟩
             · rw [HDS.out,List.map_append,w2,← w3];simp only [dcL,DcM.d,List.map_cons,List.map_nil,qt]
             · rw [HDS.out,← w3,ql];rfl
           · obtain ⟨⟨⟨qp,qa⟩,qr⟩,qb,qt,ql⟩:=q;rw [← HP1.out] at qp;obtain ⟨w1,w2,w3⟩:=qp;(have hrs:rs.kd≠0:=by cases qr<;>(dsimp only;decide));rw [← HT0.out,HDS.out,← w3,ql];simp [dcL,DcM.d,wrd,sgn,wFunc,hrs]
           · have a1:=HL40.out;have a2:=HB4.out;have a3:=HB3.out;have a4:=HB2.out;have a5:=HL9.out;rw [HW1.out];simp only [nH,nF,nG,Dc.sw,DcM.d] at *;omega
     · (obtain rfl:k=fs.length:=by omega);have HTQ2:=h_ (show fs.take fs.length=fs from List.take_length);rw [HTQ2.out] at K1 HB2;obtain ⟨vT,hy⟩:=K1.out.y;have HTO:=h_ hy.r;obtain ⟨AT,nT,cT,rfl,_,_,_,_⟩:=hy.r.formN;obtain ⟨AS,nS,cS9,rfl,_,_,_,_⟩:=K1.out.s.formN;obtain ⟨AF,nF,cF9,rfl,_,_,_,_⟩:=K1.out.f.formN;obtain ⟨y0,y1,y2,y3,y4,y5,y6,y7⟩:=hy.cells;obtain ⟨q0,q1,q2,q3,q4⟩:=K1.out.cells;have z0:=K1.out.b2.cell (j:=0) (by simp);have z1:=K1.out.b2.cell (j:=1) (by simp);simp only [nD,nE] at z0 z1;have z2:=K1.out.b2.frozen 0;have z3:=K1.out.b2.frozen 1;have z4:=K1.out.b2.lt;have z5:¬ g5=gq:=K1.out.n.2.2;(have z6:¬ gq=g5:=fun e=>z5 e.symm);clear hy;(go_wp2_with fail);(go_region);(go_wp2_with fail);rw [← HR.out];refine lay_end K1.out HTO.out HB5.out _ (fun q=>?_) ?_ rfl rfl rfl rfl rfl
       · obtain ⟨w1,w2,w3⟩:=q;refine ⟨fun d hd=>?_,?_,?_⟩
         · obtain ⟨d',hd',rfl⟩:=List.mem_map.1 hd;exact w1 d' hd'
         · rw [w2];rfl
         · rw [← HTQ.out];simp [pgL,PgM.d];rfl
       · have:=HB1.out;have:=HB2.out;show _≤scsSw (ss.map ScM.d)+dcsSw m (fs.map DcM.d);omega
end Go.Proofs.Ytflhcdcifilfcaa
