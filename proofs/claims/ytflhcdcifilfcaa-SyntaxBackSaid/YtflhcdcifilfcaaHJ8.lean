/-
  Merged for a claim: S2C, S2D, S2E, S2F, S2G, S2H, S2I, S2J, GD, S2K, S2L, SYT, GC, SYU.
-/
import Derived.Test.YtflhcdcifilfcaaHJ4
import Derived.Test.YtflhcdcifilfcaaHSYS
import Derived.Test.YtflhcdcifilfcaaHJ2
import Derived.Great.BuildSlice
namespace Go.Proofs.Ytflhcdcifilfcaa
open Go Go.RowKit

section
variable {w W W':World} {gp:Nat} {A:Option Addr} {c:Nat} {l u u':List To} {fl fl':Bool} {T:TypeId} {zs:List Value}
end
section
variable {w W W':World} {gp:Nat} {A:Option Addr} {c:Nat} {l u u':List To} {fl fl':Bool}
theorem sgS_bind {α:Type} (tx:List UInt8) (u:List To) (f:List To→R α):((sgR 4 tx u).bind fun _ v=>f v)=takeS tx u f:=by
 unfold sgR takeS isS;split<;>rfl
end
end Go.Proofs.Ytflhcdcifilfcaa

namespace Go.Proofs.Ytflhcdcifilfcaa
open Go Go.RowKit

def lvT:List (List (List UInt8)):=[[[124,124]],[[38,38]],[[61,61],[33,61],[60],[60,61],[62],[62,61]],[[43],[45]],[[42],[47],[37]]]
def lvK (k:Nat):List (List UInt8):=lvT.getD k []
def lvV (k:Nat):List Value:=(lvK k).map fun s=> .string (str s)
def LvAt (W:World) (g:Nat):Prop:=∀ k:Nat,k < 5→∃ b:Nat,W.cell? ⟨g,k,none⟩=some (.slice (some ⟨b,0,none⟩) (lvK k).length (lvK k).length)∧CAt W b 9 (lvV k)
theorem cat_step (W:World) (n:Nat) (hn:W.heap.size=n) (cs:List Value) (T:TypeId):(W.alloc (.cells cs.toArray T)).heap.size=n+1∧CAt (W.alloc (.cells cs.toArray T)) n T cs∧Below n W (W.alloc (.cells cs.toArray T)):=by
 subst hn;exact ⟨by rw [World.size_alloc],heap_alloc_new W _,below_lnew W _⟩
theorem six_at (w:World) (n:Nat) (hn:w.heap.size=n) (T U:TypeId) (c1 c2 c3 c4 c5 c6:List Value) (W:World)
 (hW:(((((w.alloc (.cells c1.toArray T)).alloc (.cells c2.toArray T)).alloc (.cells c3.toArray T)).alloc (.cells c4.toArray T)).alloc (.cells c5.toArray T)).alloc (.cells c6.toArray U)=W) :
 Below n w W∧CAt W n T c1∧CAt W (n+1) T c2∧CAt W (n+1+1) T c3∧CAt W (n+1+1+1) T c4∧CAt W (n+1+1+1+1) T c5∧CAt W (n+1+1+1+1+1) U c6:=by
 have h1:=cat_step w n hn c1 T;have h2:=cat_step _ _ h1.1 c2 T;have h3:=cat_step _ _ h2.1 c3 T;have h4:=cat_step _ _ h3.1 c4 T;have h5:=cat_step _ _ h4.1 c5 T;have h6:=cat_step _ _ h5.1 c6 U;rw [hW] at h6;have b5:=h6.2.2;have b4:=(h5.2.2).trans (b5.mono (by omega));have b3:=(h4.2.2).trans (b4.mono (by omega));have b2:=(h3.2.2).trans (b3.mono (by omega));have b1:=(h2.2.2).trans (b2.mono (by omega));exact ⟨h1.2.2.trans (b1.mono (by omega)),h1.2.1.below b1 (by omega),h2.2.1.below b2 (by omega),h3.2.1.below b3 (by omega),h4.2.1.below b4 (by omega),h5.2.1.below b5 (by omega),h6.2.1⟩
theorem levels_any (w:World):Calls Try.prog 78 #[] w (fun e w'=>∃ g,e = .returned (.slice (some ⟨g,0,none⟩) 5 5)∧Below w.heap.size w w'∧LvAt w' g):=by
 go_enter Try.func78,Try.ntmps78;go_wp2_with fail
 go_ret;refine ⟨_,rfl,?_⟩;obtain ⟨hb,h1,h2,h3,h4,h5,h6⟩:=six_at w _ rfl 9 67 (lvV 0) (lvV 1) (lvV 2) (lvV 3) (lvV 4) [.slice (some ⟨w.heap.size,0,none⟩) 1 1,.slice (some ⟨w.heap.size+1,0,none⟩) 1 1,.slice (some ⟨w.heap.size+1+1,0,none⟩) 6 6,.slice (some ⟨w.heap.size+1+1+1,0,none⟩) 2 2,.slice (some ⟨w.heap.size+1+1+1+1,0,none⟩) 3 3] _ rfl;refine ⟨hb,fun k hk=>?_⟩
 match k,hk with
 | 0,_=>exact ⟨_,h6.cell (j:=0) (by simp),h1⟩
 | 1,_=>exact ⟨_,h6.cell (j:=1) (by simp),h2⟩
 | 2,_=>exact ⟨_,h6.cell (j:=2) (by simp),h3⟩
 | 3,_=>exact ⟨_,h6.cell (j:=3) (by simp),h4⟩
 | 4,_=>exact ⟨_,h6.cell (j:=4) (by simp),h5⟩
theorem lvK_len (k:Nat):(lvK k).length≤6∧∀ s∈lvK k,s≠[]:=by
 match k with
 | 0=>decide
 | 1=>decide
 | 2=>decide
 | 3=>decide
 | 4=>decide
 | k+5=>exact ⟨by simp [lvK,lvT],fun s h=>absurd h (by simp [lvK,lvT])⟩
section
variable {w:World} {gp:Nat} {A:Option Addr} {c:Nat} {l u:List To} {fl:Bool}
end
end Go.Proofs.Ytflhcdcifilfcaa

namespace Go.Proofs.Ytflhcdcifilfcaa
open Go Go.RowKit

section
variable {w W W':World} {gp:Nat} {A:Option Addr} {c:Nat} {l u u':List To} {fl fl':Bool} {T:TypeId} {zs:List Value} {P:Nat→Prop}
end
end Go.Proofs.Ytflhcdcifilfcaa

namespace Go.Proofs.Ytflhcdcifilfcaa
open Go Go.RowKit

section
variable {w:World} {gp:Nat} {A:Option Addr} {c:Nat} {l u:List To} {fl:Bool} {n:Nat}
end
end Go.Proofs.Ytflhcdcifilfcaa

namespace Go.Proofs.Ytflhcdcifilfcaa
open Go Go.RowKit

end Go.Proofs.Ytflhcdcifilfcaa

namespace Go.Proofs.Ytflhcdcifilfcaa
open Go Go.RowKit

section
variable {w:World} {gp:Nat} {A:Option Addr} {c:Nat} {l u:List To} {fl:Bool} {n k:Nat}
end
end Go.Proofs.Ytflhcdcifilfcaa

namespace Go.Proofs.Ytflhcdcifilfcaa
open Go Go.RowKit

section
variable {gp:Nat} {A:Option Addr} {c:Nat} {l:List To}
end
end Go.Proofs.Ytflhcdcifilfcaa

namespace Go.Proofs.Ytflhcdcifilfcaa
open Go Go.RowKit

end Go.Proofs.Ytflhcdcifilfcaa

namespace Go.Proofs.Ytflhcdcifilfcaa
open Go.ChangeShapes Go.WideShapes Go.ChangeAt Go.RowKit Go.Deep

namespace El
variable {α:Type} {ops:Array Oper} {rest:List Oper} {o:Oper} {a:Act} {Q:Exit→Act→World→Prop} {C:Act→World→Prop}
theorem op_app1x (K:El α) (w:World) (sl:TypeId) (z:Value) (by_:Nat) (hu:Try.prog.underlying sl=some (.slice K.e)) (hi:(Try.prog.info? K.e).map (fun i=>(i.zero,i.size,i.bytes))=some (some z,K.sz,by_)) (hzc:z.cells.size=K.sz) (hby:by_≤300) (_hsz:K.sz≤100)
 (s x:Operand) (ho:o.op = .call { callee:= .builtin .append,args:=#[s,x],argTypes:=#[sl,sl] })
 (B:Nat) (v:Value) (xs:List α) (hs:a.eval s=v) (hown:K.Own w B v xs) (g c:Nat) (y:α) (hx:a.eval x = .slice (some ⟨g,0,none⟩) 1 c) (t:TypeId) (hy:w.heap[g]? = some (.cells (K.f y).toArray t (0,0)))
 (hn:xs.length≤1000000) (hB:B≤w.heap.size) (h:∀ v' w',K.Own w' B v' (xs++[y])→w.grownBy w' v.ownBlock→(∀ k,v'.ownBlock=some k→v.ownBlock=some k∨w.heap.size≤k)→C (a.put o.dst v') w'):Oper.wp Try.prog o a w C Q:=by
 obtain ⟨i0,hi0,hz0,hz1,hz2⟩:=info_parts hi;have hbb:(xs.length+1)*by_≤140737488355328:=by
  have:=Nat.mul_le_mul (show xs.length+1≤1000001 by omega) hby;omega
 have hnew:∀ j u,(K.f y)[j]? = some u→w.cell? ((⟨g,0,none⟩:Addr).add j)=some u:=fun j u hu=>by
  rw [add_zero_off];simp only [World.cell?,hy];simpa using hu
 have hl:(K.f y).length=1*K.sz:=by rw [K.len,Nat.one_mul]
 have hone:∀ u∈K.f y,u.oneCell'=true:=K.one y;have h63:xs.length+1≤maxLen:=by simp only [maxLen];omega
 obtain ⟨v',w',hrun,r1,r2,_⟩:=run_append_own (P:=Try.prog) w B sl o.type K.e i0 z K.sz by_ hu hi0 hz0 hz1 hz2 hzc K.pos v xs.length (xs.flatMap K.f) hown ⟨g,0,none⟩ 1 c (K.f y) hl hnew hone h63 hbb hB;have hk:∀ k,v'.ownBlock=some k→v.ownBlock=some k∨w.heap.size≤k:=by
  rcases hown.2 with ⟨e,h0⟩ | ⟨gr,cap,cur,e,hbg,hg,hnc,hcm,hcs,_⟩
  · subst e;have hr:=run_append_nil (P:=Try.prog) w sl o.type K.e i0 z hu hi0 hz0 ⟨g,0,none⟩ 1 c (K.f y) (by rw [hl,hz1]) hnew (by omega) (by omega) (by rw [hz2];omega);rw [hrun] at hr;injection hr with e1 _;subst e1;intro k e;injection e with e;exact .inr (Nat.le_of_eq e)
  · subst e;by_cases hroom:xs.length+1≤cap
    · (have hfit:xs.length*i0.size+(K.f y).length≤cur.size:=by rw [hl,hz1,hcs,← Nat.add_mul];exact Nat.mul_le_mul_right _ hroom);have hr:=run_append_room (P:=Try.prog) w sl o.type K.e i0 hu hi0 gr xs.length cap cur hg ⟨g,0,none⟩ 1 c (K.f y) (by rw [hl,hz1]) hnew hone hroom hfit;rw [hrun] at hr;injection hr with e1 _;subst e1;exact fun k e=> .inl e
    · have holds:∀ j u,(xs.flatMap K.f)[j]? = some u→w.cell? ((⟨gr,0,none⟩:Addr).add j)=some u:=World.ownsRow.cells hown (g:=gr) rfl;have hr:=run_append_grow (P:=Try.prog) w sl o.type K.e i0 z hu hi0 hz0 ⟨gr,0,none⟩ xs.length cap (xs.flatMap K.f) (by rw [flat_len,hz1]) holds ⟨g,0,none⟩ 1 c (K.f y) (by rw [hl,hz1]) hnew (by omega) (by omega) (growslice_fits (by omega) (by rw [hz2];omega));rw [hrun] at hr;injection hr with e1 _;subst e1;intro k e;injection e with e;exact .inr (Nat.le_of_eq e)
 unfold Oper.wp execOp;simp only [ho,resolve,invoke,builtin,Sem.run_bind,Sem.run_pure,Result.andThen_ok,List.map_toArray,List.map_cons,List.map_nil,hs,hx,hrun];refine h v' w' ?_ r2 hk;show w'.ownsRow B _ K.sz v' (xs++[y]).length ((xs++[y]).flatMap K.f);rw [List.flatMap_append,List.length_append];simpa using r1
theorem app1x (K:El α) (w:World) (hgd:o.guard=none) (sl:TypeId) (z:Value) (by_:Nat) (hu:Try.prog.underlying sl=some (.slice K.e)) (hi:(Try.prog.info? K.e).map (fun i=>(i.zero,i.size,i.bytes))=some (some z,K.sz,by_)) (hzc:z.cells.size=K.sz) (hby:by_≤300) (hsz:K.sz≤100)
 (s x:Operand) (ho:o.op = .call { callee:= .builtin .append,args:=#[s,x],argTypes:=#[sl,sl] })
 (B:Nat) (v:Value) (xs:List α) (hs:a.eval s=v) (hown:K.Own w B v xs) (g c:Nat) (y:α) (hx:a.eval x = .slice (some ⟨g,0,none⟩) 1 c) (t:TypeId) (hy:w.heap[g]? = some (.cells (K.f y).toArray t (0,0)))
 (hn:xs.length≤1000000) (hB:B≤w.heap.size) (h:∀ v' w',K.Own w' B v' (xs++[y])→w.grownBy w' v.ownBlock→(∀ k,v'.ownBlock=some k→v.ownBlock=some k∨w.heap.size≤k)→wpList Try.prog ops Q rest (a.put o.dst v') w'):wpList Try.prog ops Q (o::rest) a w:=
 wpList_plain hgd fun _ hK'=>op_app1x K w sl z by_ hu hi hzc hby hsz s x ho B v xs hs hown g c y hx t hy hn hB (fun v' w' r1 r2 r3=>hK' _ _ (h v' w' r1 r2 r3))
end El
end Go.Proofs.Ytflhcdcifilfcaa

namespace Go.Proofs.Ytflhcdcifilfcaa
open Go Go.RowKit

section
variable {w W Z:World} {gp:Nat} {A:Option Addr} {c:Nat} {l u u':List To} {fl f':Bool} {v v9:Value} {xs:List XT} {x:XT}
end
end Go.Proofs.Ytflhcdcifilfcaa

namespace Go.Proofs.Ytflhcdcifilfcaa
open Go Go.RowKit

section
variable {w:World} {gp:Nat} {A:Option Addr} {c:Nat} {l u:List To} {fl:Bool}
end
end Go.Proofs.Ytflhcdcifilfcaa

namespace Go.Proofs.Ytflhcdcifilfcaa
open Go Go.RowKit

inductive XS where
 | mk (kd ln:Int) (nm fl cl:List UInt8) (ty:Ty) (kA:Option Addr) (kc:Nat) (ks:List XT) (bA:Option Addr) (bc:Nat) (bd:List XS) (eA:Option Addr) (ec:Nat) (el:List XS)
def XS.cs:XS→List Value
 | .mk kd ln nm fl cl ty kA kc ks bA bc bd eA ec el=>[.int .u8 kd,.int .i64 ln,.string (str nm),.string (str fl),.string (str cl),.int .u8 ty.kd,.int .i64 ty.n,.string (str ty.nm),.slice kA ks.length kc,.slice bA bd.length bc,.slice eA el.length ec]
def sV (t:XS):Value:= .agg t.cs.toArray
def eSt:El XS:=⟨51,11,XS.cs,fun x=>by cases x;rfl,fun x u hu=>by
 cases x;simp [XS.cs] at hu
 rcases hu with rfl | rfl | rfl | rfl | rfl | rfl | rfl | rfl | rfl | rfl | rfl<;>rfl,by omega⟩
theorem st_info:(Try.prog.info? 51).map (fun i=>(i.zero,i.size,i.bytes))=some (some (.agg #[.int .u8 0,.int .i64 0,.string ⟨#[]⟩,.string ⟨#[]⟩,.string ⟨#[]⟩,.int .u8 0,.int .i64 0,.string ⟨#[]⟩,.slice none 0 0,.slice none 0 0,.slice none 0 0]),11,168):=by kernel_rfl
mutual
def XS.d:XS→St
 | .mk kd ln nm fl cl ty _ _ ks _ _ bd _ _ el=> .mk kd ln nm fl cl ty (xsd ks) (xssd bd) (xssd el)
def xssd:List XS→List St
 | []=>[]
 | x::l=>x.d::xssd l
end
theorem xssd_map (l:List XS):xssd l=l.map XS.d:=by
 induction l with
 | nil=>rfl
 | cons x l ih=>rw [xssd,ih];rfl
def RowP {α:Type} (K:El α) (w:World) (P:Nat→Prop) (A:Option Addr) (c:Nat) (xs:List α):Prop:=
 K.LiesT w A xs∧xs.length≤c∧(A=none→c=0)∧(0 < xs.length→∀ a,A=some a→P a.block)
mutual
def XS.Ok (w:World) (P:Nat→Prop):XS→Prop
 | .mk _ _ _ _ _ _ kA kc ks bA bc bd eA ec el=>(RowP eX w P kA kc ks∧RowP eSt w P bA bc bd∧RowP eSt w P eA ec el)∧xsOk w P ks∧xssOk w P bd∧xssOk w P el
def xssOk (w:World) (P:Nat→Prop):List XS→Prop
 | []=>True
 | x::l=>x.Ok w P∧xssOk w P l
end
section
variable {w w':World} {P Q:Nat→Prop}
theorem RowP.keep {α:Type} {K:El α} {A:Option Addr} {c:Nat} {xs:List α} (h:RowP K w P A c xs) (hk:∀ g,P g→HasT w g K.e→w'.heap[g]? = w.heap[g]?) (hm:∀ g,P g→Q g):RowP K w' Q A c xs:=
 ⟨liesP_keep h.1 h.2.2.2 hk,h.2.1,h.2.2.1,fun hl a e=>hm _ (h.2.2.2 hl a e)⟩
theorem RowP.low {α:Type} {K:El α} {A:Option Addr} {c:Nat} {xs:List α} (h:RowP K w P A c xs):RowP K w (fun g=>P g∧g < w.heap.size) A c xs:=
 ⟨h.1,h.2.1,h.2.2.1,fun hl a e=>⟨h.2.2.2 hl a e,by
  obtain ⟨g,o,e2,hg,_⟩:=h.1 hl;rw [e] at e2;injection e2 with e2;subst e2
  exact hg.lt⟩⟩
mutual
theorem XS.Ok.keep (h1:∀ g,P g→HasT w g 53→w'.heap[g]? = w.heap[g]?) (h2:∀ g,P g→HasT w g 51→w'.heap[g]? = w.heap[g]?) (hm:∀ g,P g→Q g):∀ (t:XS),t.Ok w P→t.Ok w' Q
 | .mk _ _ _ _ _ _ _ _ ks _ _ bd _ _ el,h=>by
  rw [XS.Ok] at h ⊢;exact ⟨⟨h.1.1.keep h1 hm,h.1.2.1.keep h2 hm,h.1.2.2.keep h2 hm⟩,xsOk.keep h1 hm ks h.2.1,xssOk.keep h1 h2 hm bd h.2.2.1,xssOk.keep h1 h2 hm el h.2.2.2⟩
theorem xssOk.keep (h1:∀ g,P g→HasT w g 53→w'.heap[g]? = w.heap[g]?) (h2:∀ g,P g→HasT w g 51→w'.heap[g]? = w.heap[g]?) (hm:∀ g,P g→Q g):∀ (l:List XS),xssOk w P l→xssOk w' Q l
 | [],_=>by rw [xssOk];trivial
 | x::l,h=>by
  rw [xssOk] at h ⊢;exact ⟨XS.Ok.keep h1 h2 hm x h.1,xssOk.keep h1 h2 hm l h.2⟩
end
mutual
theorem XS.Ok.low:∀ (t:XS),t.Ok w P→t.Ok w (fun g=>P g∧g < w.heap.size)
 | .mk _ _ _ _ _ _ _ _ ks _ _ bd _ _ el,h=>by
  rw [XS.Ok] at h ⊢;exact ⟨⟨h.1.1.low,h.1.2.1.low,h.1.2.2.low⟩,xsOk.low ks h.2.1,xssOk.low bd h.2.2.1,xssOk.low el h.2.2.2⟩
theorem xssOk.low:∀ (l:List XS),xssOk w P l→xssOk w (fun g=>P g∧g < w.heap.size) l
 | [],_=>by rw [xssOk];trivial
 | x::l,h=>by
  rw [xssOk] at h ⊢;exact ⟨XS.Ok.low x h.1,xssOk.low l h.2⟩
end
theorem XS.Ok.below {t:XS} (h:t.Ok w P) (hb:Below w.heap.size w w'):t.Ok w' P:=XS.Ok.keep (fun g _ hg=>hb.block g hg.lt) (fun g _ hg=>hb.block g hg.lt) (fun _ h=>h) t h
theorem XS.Ok.up {t:XS} (h:t.Ok w P) (hm:∀ g,P g→Q g):t.Ok w Q:=XS.Ok.keep (fun _ _ _=>rfl) (fun _ _ _=>rfl) hm t h
theorem xssOk.all {l:List XS} (h:xssOk w P l):∀ x∈l,x.Ok w P:=by
 induction l with
 | nil=>intro x hx;cases hx
 | cons y l ih=>
  rw [xssOk] at h;intro x hx;rcases List.mem_cons.1 hx with rfl | hx
  · exact h.1
  · exact ih h.2 x hx
theorem xssOk.of {l:List XS} (h:∀ x∈l,x.Ok w P):xssOk w P l:=by
 induction l with
 | nil=>rw [xssOk];trivial
 | cons y l ih=>
  rw [xssOk];exact ⟨h y (by simp),ih fun x hx=>h x (List.mem_cons_of_mem _ hx)⟩
end
end Go.Proofs.Ytflhcdcifilfcaa

namespace Go.Proofs.Ytflhcdcifilfcaa
open Go.ChangeShapes Go.WideShapes Go.ChangeAt Go.RowKit Go.Deep

namespace El
variable {α:Type} {ops:Array Oper} {o:Oper} {a:Act} {Q:Exit→Act→World→Prop} {C:Act→World→Prop}
theorem op_build1 (K:El α) (w:World) (sl:TypeId) (z:Value) (by_:Nat) (hu:Try.prog.underlying sl=some (.slice K.e)) (hi:(Try.prog.info? K.e).map (fun i=>(i.zero,i.size,i.bytes))=some (some z,K.sz,by_)) (hzc:z.cells.size=K.sz) (hsz:K.sz≤100)
 (x:Operand) (ho:o.op = .buildSlice sl 1 #[(0,x)]) (v:Value) (y:α) (hx:a.eval x=v) (hv:v.cells.toList=K.f y)
 (h:C (a.put o.dst (.slice (some ⟨w.heap.size,0,none⟩) 1 1)) (w.alloc (.cells (K.f y).toArray K.e))):Oper.wp Try.prog o a w C Q:=by
 obtain ⟨i0,hi0,hz0,hz1,hz2⟩:=info_parts hi;have hp:=K.pos;have hvs:v.cells.size=K.sz:=by rw [← Array.length_toList,hv,K.len]
 refine wp_buildSlice sl K.e 1 _ ho (K.f y).toArray i0 z hu hi0 hz0 (by rw [hz1];omega) (by rw [hz1];omega) ?_ h;have:=Great.fill_whole (s:=K.sz) hp [v] ((Array.range (1*K.sz)).map (z.cells[· % z.cells.size]!)) (fun u hu=>by rw [List.mem_singleton.1 hu];exact hvs) (by simp);rw [hz1];have e:([v].flatMap fun v=>v.cells.toList).toArray=(K.f y).toArray:=by simp [hv]
 rw [e] at this;simp only [List.map_toArray,List.map_cons,List.map_nil,hx];exact this
end El
end Go.Proofs.Ytflhcdcifilfcaa

namespace Go.Proofs.Ytflhcdcifilfcaa
open Go Go.RowKit

theorem El.Own.at0 {α:Type} {K:El α} {w:World} {B:Nat} {v:Value} {xs:List α} (h:K.Own w B v xs) (hn:0 < xs.length):∃ g c,v = .slice (some ⟨g,0,none⟩) xs.length c:=by
 rcases h.2 with ⟨_,h0⟩ | ⟨g,cap,_,e,_⟩
 · omega
 · exact ⟨g,cap,e⟩
structure SF where
 kd:Int
 ln:Int
 nm:List UInt8
 fl:List UInt8
 cl:List UInt8
 ty:Ty
def SF.cs (s:SF) (v:Value):List Value:=[.int .u8 s.kd,.int .i64 s.ln,.string (str s.nm),.string (str s.fl),.string (str s.cl),.int .u8 s.ty.kd,.int .i64 s.ty.n,.string (str s.ty.nm),v,.slice none 0 0,.slice none 0 0]
def FrS (w W:World):Prop:=∀ k e,HasT w k e→e≠57→e≠51→e≠53→W.heap[k]? = w.heap[k]?
theorem FrS.refl (w:World):FrS w w:=fun _ _ _ _ _ _=>rfl
theorem FrS.trans {w W Z:World} (h:FrS w W) (h2:FrS W Z):FrS w Z:=fun k e hk h1 h3 h4=>(h2 k e (hk.same (h k e hk h1 h3 h4)) h1 h3 h4).trans (h k e hk h1 h3 h4)
theorem FrS.of_below {w W:World} (hb:Below w.heap.size w W):FrS w W:=fun k _ hk _ _ _=>hb.block k hk.lt
theorem FrS.below {w W Z:World} (h:FrS w W) (hb:Below W.heap.size W Z):FrS w Z:=h.trans (.of_below hb)
theorem FrS.of_but {T:TypeId} {w W:World} (hb:ButT T w W) (hT:T=57∨T=51∨T=53):FrS w W:=fun k e hk h1 h2 h3=>hb k e hk (by rcases hT with rfl | rfl | rfl<;>assumption)
theorem FrS.but {T:TypeId} {w W Z:World} (h:FrS w W) (hb:ButT T W Z) (hT:T=57∨T=51∨T=53):FrS w Z:=h.trans (.of_but hb hT)
structure SmZ (w wf:World) (gp gs:Nat) (A:Option Addr) (c:Nat) (l:List To) (s:SF) (vc:Value) (rows xs:List XT) (v:Value) (W:World) (u:List To):Prop where
 p:Ps W gp A c l u
 s:CAt W gs 51 (s.cs vc)
 r:eX.Own W (gs+1) v rows
 k:xsOk W (fun g=>gs < g∧v.ownBlock≠some g) xs
 g:w.grownBy W (some gp)
 n:gp < w.heap.size∧w.heap.size≤gs∧xs.length+u.length≤l.length
 f:FrS wf W
def SmW (w wf:World) (gp gs:Nat) (A:Option Addr) (c:Nat) (l:List To) (s:SF) (ks:List XT) (v:Value) (W:World) (u:List To):Prop:=SmZ w wf gp gs A c l s v ks ks v W u
section
variable {w wf W Z:World} {gp gs:Nat} {A:Option Addr} {c:Nat} {l u u':List To} {s:SF} {vc v v9:Value} {rows xs ks:List XT} {x:XT}
theorem Ps.ulen (h:Ps W gp A c l u):u.length≤l.length:=by
 obtain ⟨k,_,rfl,_⟩:=h.k;simp
theorem SmZ.below (h:SmZ w wf gp gs A c l s vc rows xs v W u) (hb:Below W.heap.size W Z):SmZ w wf gp gs A c l s vc rows xs v Z u:=
 ⟨h.p.next hb,h.s.below hb h.s.lt,h.r.below hb,xsOk.keep (fun g _ hg=>hb.block g hg.lt) (fun _ q=>q) xs h.k,grown_trans h.g (grown_below hb _),h.n,h.f.below hb⟩
theorem SmZ.drew (h:SmZ w wf gp gs A c l s vc rows xs v W u):SmZ w wf gp gs A c l s vc rows xs v W.drew u:=h.below ((Below.refl _ W).drew)
theorem SmZ.step (h:SmZ w wf gp gs A c l s vc rows xs v W u) (hp:Ps Z gp A c l u') (hg:W.grownBy Z (some gp)) (hu:u'.length≤u.length):SmZ w wf gp gs A c l s vc rows xs v Z u':=by
 have hb:ButT 57 W Z:=ButT.grown hg fun k e=>by injection e with e;subst e;exact h.p.has
 have hn:=h.n;exact ⟨hp,(hb gs _ ⟨_,_,h.s⟩ (by decide)).trans h.s,h.r.but hb (by decide),xsOk.keep (fun g _ ht=>hb g _ ht (by decide)) (fun _ q=>q) xs h.k,grown_trans h.g hg,⟨hn.1,hn.2.1,by omega⟩,h.f.but hb (.inl rfl)⟩
theorem SmZ.add (h:SmZ w wf gp gs A c l s v ks ks v W u) (hx:x.Ok W (fun g=>gs < g∧v.ownBlock≠some g)) (hl:ks.length+1+u.length≤l.length) (hg:W.grownBy Z v.ownBlock) (ho:eX.Own Z (gs+1) v9 rows) (hk:∀ k,v9.ownBlock=some k→v.ownBlock=some k∨W.heap.size≤k):SmZ w wf gp gs A c l s v rows (ks++[x]) v9 Z u:=by
 have hn:=h.n;have hb:ButT 53 W Z:=ButT.grown hg fun k e=>h.r.has k e
 have hB:Below w.heap.size W Z:=(Below.refl _ _).grown hg (Nat.le_trans hn.2.1 (Nat.le_of_lt h.s.lt)) (fun k e=>Nat.le_trans (Nat.le_succ_of_le hn.2.1) (h.r.lt k e).1);have key:∀ y:XT,y.Ok W (fun g=>gs < g∧v.ownBlock≠some g)→y.Ok Z (fun g=>gs < g∧v9.ownBlock≠some g):=fun y hy=>by
  refine XT.Ok.keep (P:=fun g=>(gs < g∧v.ownBlock≠some g)∧g < W.heap.size) (fun g q hg'=>hg.block g hg'.lt (fun e=>q.1.2 e.symm)) (fun g q=>⟨q.1.1,fun e=>?_⟩) y (XT.Ok.low y hy);rcases hk g e with e2 | e2
  · exact q.1.2 e2
  · have:=q.2;omega
 refine ⟨h.p.below hB hn.1,(hb gs _ ⟨_,_,h.s⟩ (by decide)).trans h.s,ho,xsOk.of fun y hy=>?_,grown_new h.g hB,⟨hn.1,hn.2.1,by rw [nH,List.length_singleton];omega⟩,h.f.but hb (.inr (.inr rfl))⟩;rcases List.mem_append.1 hy with hy | hy
 · exact key y (xsOk.all h.k y hy)
 · rw [List.mem_singleton.1 hy];exact key x hx
theorem SmZ.setK (h:SmZ w wf gp gs A c l s vc rows xs v W u):SmZ w wf gp gs A c l s v rows xs v (W.setCell ⟨gs,8,none⟩ v) u:=by
 have hn:=h.n;have hb:ButT 51 W (W.setCell ⟨gs,8,none⟩ v):=ButT.set (p:=⟨gs,8,none⟩) ⟨_,_,h.s⟩ v;have hB:Below w.heap.size W (W.setCell ⟨gs,8,none⟩ v):=(Below.refl _ _).setCell (p:=⟨gs,8,none⟩) hn.2.1 v;exact ⟨h.p.below hB hn.1,h.s.set 8 v,h.r.but hb (by decide),xsOk.keep (fun g _ ht=>hb g _ ht (by decide)) (fun _ q=>q) xs h.k,grown_new h.g hB,hn,h.f.but hb (.inr (.inl rfl))⟩
def putX (W:World) (g o:Nat):XT→World
 | .mk kd nu nm fl op A c ks=>(((((W.setCell ⟨g,o,none⟩ (.int .u8 kd)).setCell ⟨g,o+1,none⟩ (.int .i64 nu)).setCell ⟨g,o+2,none⟩ (.string (str nm))).setCell ⟨g,o+3,none⟩ (.string (str fl))).setCell ⟨g,o+4,none⟩ (.string (str op))).setCell ⟨g,o+5,none⟩ (.slice A ks.length c)
theorem putX_own {B g cp:Nat} {y:XT} (h:eX.Own W B (.slice (some ⟨g,0,none⟩) (ks++[y]).length cp) (ks++[y])) (x:XT):eX.Own (putX W g (ks.length*6) x) B (.slice (some ⟨g,0,none⟩) (ks++[x]).length cp) (ks++[x]):=by
 have e:(ks++[x]).length=(ks++[y]).length:=by simp
 rw [e];have hf:(ks.flatMap eX.f).length=ks.length*6:=El.flat_len eX ks;obtain ⟨kd,nu,nm,fl,op,A,c,ks2⟩:=x;obtain ⟨kd',nu',nm',fl',op',A',c',ks'⟩:=y;have h1:=((((((World.ownsRow.stored h (ks.length*6) (.int .u8 kd)).1.stored (ks.length*6+1) (.int .i64 nu)).1.stored (ks.length*6+2) (.string (str nm))).1.stored (ks.length*6+3) (.string (str fl))).1.stored (ks.length*6+4) (.string (str op))).1.stored (ks.length*6+5) (.slice A ks2.length c)).1;have hl:(((((((ks++[XT.mk kd' nu' nm' fl' op' A' c' ks']).flatMap eX.f).set (ks.length*6) (.int .u8 kd)).set (ks.length*6+1) (.int .i64 nu)).set (ks.length*6+2) (.string (str nm))).set (ks.length*6+3) (.string (str fl))).set (ks.length*6+4) (.string (str op))).set (ks.length*6+5) (.slice A ks2.length c)=(ks++[XT.mk kd nu nm fl op A c ks2]).flatMap eX.f:=by
  rw [List.flatMap_append,List.flatMap_append];have hs:∀ (a:List Value) (n:Nat) (v:Value),(ks.flatMap eX.f++a).set (ks.length*6+n) v=ks.flatMap eX.f++a.set n v:=fun a n v=>by
   rw [List.set_append_right _ _ (by rw [hf];omega),hf,Nat.add_sub_cancel_left]
  have hs0:=fun a v=>hs a 0 v
  simp only [Nat.add_zero] at hs0;rw [hs0,hs,hs,hs,hs,hs];rfl
 rw [hl] at h1;show (putX W g (ks.length*6) _).ownsRow B eX.e eX.sz _ (ks++[_]).length ((ks++[_]).flatMap eX.f);rw [e];exact h1
theorem putX_heap (g o:Nat) (x:XT) {k:Nat} (hk:k≠g):(putX W g o x).heap[k]? = W.heap[k]? := by
 obtain ⟨kd,nu,nm,fl,op,A,c,ks2⟩:=x;unfold putX;rw [Below.heap_setCell _ _ _ k hk,Below.heap_setCell _ _ _ k hk,Below.heap_setCell _ _ _ k hk,Below.heap_setCell _ _ _ k hk,Below.heap_setCell _ _ _ k hk,Below.heap_setCell _ _ _ k hk]
theorem putX_below {B g:Nat} (o:Nat) (x:XT) (hg:B≤g):Below B W (putX W g o x):=by
 obtain ⟨kd,nu,nm,fl,op,A,c,ks2⟩:=x;exact ((((((Below.refl B W).setCell (p:=⟨g,o,none⟩) hg _).setCell (p:=⟨g,o+1,none⟩) hg _).setCell (p:=⟨g,o+2,none⟩) hg _).setCell (p:=⟨g,o+3,none⟩) hg _).setCell (p:=⟨g,o+4,none⟩) hg _).setCell (p:=⟨g,o+5,none⟩) hg _
theorem SmZ.putX {g cp:Nat} {y:XT} (h:SmZ w wf gp gs A c l s vc (ks++[y]) xs (.slice (some ⟨g,0,none⟩) (ks++[y]).length cp) W u) (x:XT):SmZ w wf gp gs A c l s vc (ks++[x]) xs (.slice (some ⟨g,0,none⟩) (ks++[y]).length cp) (putX W g (ks.length*6) x) u:=by
 have hn:=h.n;have hg1:=(h.r.lt g rfl).1;have hB:Below w.heap.size W (Go.Proofs.Ytflhcdcifilfcaa.putX W g (ks.length*6) x):=putX_below _ x (by omega);have ho:=putX_own h.r x;have e:(ks++[x]).length=(ks++[y]).length:=by simp
 rw [e] at ho;have hbt:ButT 53 W (Go.Proofs.Ytflhcdcifilfcaa.putX W g (ks.length*6) x):=fun k e hk he=>putX_heap _ _ x (fun q=>by subst q;exact he (hk.one (h.r.has _ rfl)))
 exact ⟨h.p.below hB hn.1,(putX_heap _ _ x (by omega)).trans h.s,ho,xsOk.keep (fun k q _=>putX_heap _ _ x (fun e=>q.2 (by subst e;rfl))) (fun _ q=>q) xs h.k,grown_new h.g hB,hn,h.f.but hbt (.inr (.inr rfl))⟩
theorem putX_at {B g cp:Nat} {y:XT} (h:eX.Own W B (.slice (some ⟨g,0,none⟩) (ks++[y]).length cp) (ks++[y])) {f:Nat} {z:Value} (hz:y.cs[f]? = some z):W.cell? ⟨g,ks.length*6+f,none⟩=some z:=by
 have hf:f < 6:=by
  have:=(List.getElem?_eq_some_iff.1 hz).1
  rwa [show y.cs.length=6 from eX.len y] at this
 have h1:=World.ownsRow.cellAt h (ks.length*6+f) (by rw [nH,List.length_singleton];show _ < (ks.length+1)*6;omega);rw [h1];refine (El.flat_get eX (ks++[y]) ks.length f (by simp) hf).trans ?_;have hz2:(eX.f y)[f]? = some z:=hz;simpa using hz2
theorem SmZ.putX1 {g cp:Nat} {y:XT} (h:SmZ w wf gp gs A c l s vc (ks++[y]) xs (.slice (some ⟨g,0,none⟩) (ks.length+1) cp) W u) (x:XT):SmZ w wf gp gs A c l s vc (ks++[x]) xs (.slice (some ⟨g,0,none⟩) (ks.length+1) cp) (Go.Proofs.Ytflhcdcifilfcaa.putX W g (ks.length*6) x) u:=by
 have e:ks.length+1=(ks++[y]).length:=by simp
 rw [e] at h ⊢;exact h.putX x
theorem putX_at1 {B g cp:Nat} {y:XT} (h:eX.Own W B (.slice (some ⟨g,0,none⟩) (ks.length+1) cp) (ks++[y])) {f:Nat} {z:Value} (hz:y.cs[f]? = some z):W.cell? ⟨g,ks.length*6+f,none⟩=some z:=by
 have e:ks.length+1=(ks++[y]).length:=by simp
 rw [e] at h;exact putX_at h hz
theorem putX_frozen1 {B g cp:Nat} {y:XT} (h:eX.Own W B (.slice (some ⟨g,0,none⟩) (ks.length+1) cp) (ks++[y])) (j:Nat):W.frozen? ⟨g,j,none⟩=false:=by
 have e:ks.length+1=(ks++[y]).length:=by simp
 rw [e] at h;exact World.ownsRow.frozenAt h j
end
end Go.Proofs.Ytflhcdcifilfcaa
